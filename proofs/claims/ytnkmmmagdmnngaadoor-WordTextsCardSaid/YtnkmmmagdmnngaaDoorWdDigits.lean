/-
  Digits and Print of the reference.
-/
import Derived.Test.YtnkmmmagdmnngaaDoorWdPrint
import Derived.Test.YtnkmmmagdmnngaaDoorWdRefValid
import Derived.Test.YtnkmmmagdmnngaaDoorWdRound
import Derived.Laws.BytesArg
import Derived.Laws.Concat
namespace Go.Proofs.YtnkmmmagdmnngaaDoor.Wd
open Go.RowKit
set_option linter.unusedVariables false

/-- The string of one byte. -/
def str1 (k : Nat) : ByteArray := ⟨#[UInt8.ofNat k]⟩

theorem conv_one (w : World) (r : Nat) (g : Nat) (hg : w.heap.size = g) :
    (convert 89 9 (.slice (some ⟨g, 0, none⟩) 1 1)).run Tryd.prog (w.alloc (.cells #[.int .u8 (48 + (r : Int))] 5)) = .ok (.string (str1 (48 + r))) (w.alloc (.cells #[.int .u8 (48 + (r : Int))] 5)) := by
  subst hg
  have h := run_convert_bytes_arg (P := Tryd.prog) (w.alloc (.cells #[.int .u8 (48 + (r : Int))] 5)) 89 5 Tryd.underlying89 Tryd.underlying5 w.heap.size 0 1 1 [48 + (r : Int)] rfl (fun i hi => by
    obtain rfl : i = 0 := by omega
    rw [box_last]; rfl) 9 Tryd.underlying9
  rw [h]
  congr 2

set_option maxRecDepth 100000 in
set_option maxHeartbeats 1000000 in
theorem digits_one (x : Nat) (h : x < 10) (w : World) :
    Calls Tryd.prog 86 #[.int .i64 x] w fun e w' => e = .returned (.string (str1 (48 + x))) ∧ Below w.heap.size w w' := by
  have hr : (x : Int) % 10 = (x : Int) := by omega
  have hcv := conv_one w x w.heap.size rfl
  go_enter Tryd.func86, Tryd.ntmps86
  go_wp2
  go_ret
  exact ⟨rfl, (Below.refl _ _).alloc (Nat.le_refl _) _⟩

set_option maxRecDepth 100000 in
set_option maxHeartbeats 1000000 in
theorem digits_two (x q r : Nat) (h1 : 10 ≤ x) (h2 : x < 100) (hq : x / 10 = q) (hr : x % 10 = r) (w : World) :
    Calls Tryd.prog 86 #[.int .i64 x] w fun e w' => e = .returned (.string (str1 (48 + q) ++ str1 (48 + r))) ∧ Below w.heap.size w w' := by
  have hr' : (x : Int) % 10 = (r : Int) := by omega
  have hq' : (x : Int) / 10 = (q : Int) := by omega
  have hq10 : q < 10 := by omega
  have hr10 : r < 10 := by omega
  clear hq hr
  have hcv := conv_one w r w.heap.size rfl
  go_enter Tryd.func86, Tryd.ntmps86
  go_wp2_with fail
  refine (digits_one q hq10 _).mono ?_
  rintro e w1 ⟨rfl, hb1⟩
  have hadd : ∀ W, (Op.stringOp .add (str1 (48 + q)) (str1 (48 + r))).run Tryd.prog W = .ok (.string (str1 (48 + q) ++ str1 (48 + r))) W := fun W => run_string_add_sum W _ _ (by show 1 + 1 ≤ _; omega)
  go_wp2_with fail
  go_ret
  exact ⟨rfl, ((Below.refl _ _).alloc (Nat.le_refl _) _).trans (hb1.mono (by simp))⟩

theorem digits_any (x : Nat) (h : x < 100) (w : World) :
    Calls Tryd.prog 86 #[.int .i64 x] w fun e w' => e = .returned (.string ⟨(Lib.decDigits x).toArray⟩) ∧ Below w.heap.size w w' := by
  by_cases h1 : x < 10
  · refine (digits_one x h1 w).mono ?_
    rintro e w1 ⟨rfl, hb⟩
    exact ⟨by rw [Lib.decDigits_one h1]; rfl, hb⟩
  · refine (digits_two x (x / 10) (x % 10) (by omega) h rfl rfl w).mono ?_
    rintro e w1 ⟨rfl, hb⟩
    refine ⟨?_, hb⟩
    rw [Lib.decDigits_two h1 h]
    rfl

theorem text_append (a b : List UInt8) : (⟨a.toArray⟩ : ByteArray) ++ (⟨b.toArray⟩ : ByteArray) = ⟨(a ++ b).toArray⟩ := by
  rw [ByteArray.mk_append_mk]
theorem text_size (a : List UInt8) : (⟨a.toArray⟩ : ByteArray).size = a.length := by
  show a.toArray.size = _
  simp
theorem run_add (W : World) (a b : List UInt8) (h : a.length + b.length ≤ 9223372036854775807) : (Op.stringOp .add ⟨a.toArray⟩ ⟨b.toArray⟩).run Tryd.prog W = .ok (.string ⟨(a ++ b).toArray⟩) W := by
  rw [run_string_add_sum W _ _ (by rw [text_size, text_size]; exact h), text_append]

set_option maxRecDepth 100000 in
set_option maxHeartbeats 1000000 in
theorem refPrint_bad (A B : Option Addr) (n c m d : Nat) (s l : List Int) (w : World) (ha : Ints w A n s) (hb : Ints w B m l) (hn : n ≤ 100000) (hm : m ≤ 100000) (hv : validB 6 s l = false) :
    Calls Tryd.prog 35 #[.agg #[.slice A n c, .slice B m d]] w fun e w' => e = .returned (.tuple #[.string ⟨#[]⟩, .int .i64 1]) ∧ Below w.heap.size w w' := by
  have HV := Lib.hid hv
  clear hv
  go_enter Tryd.func35, Tryd.ntmps35
  go_wp2_with fail
  refine (is_any A B n c m d s l _ (ha.alloc _) (hb.alloc _) hn hm).mono ?_
  rintro e w1 ⟨rfl, hb1⟩
  rw [HV.out]
  go_wp2_with fail
  go_ret2
  exact ⟨rfl, ((Below.refl _ _).alloc (Nat.le_refl _) _).trans (hb1.mono (by simp))⟩

set_option maxRecDepth 100000 in
set_option maxHeartbeats 2000000 in
theorem refPrint_good (A B : Option Addr) (n c m d : Nat) (s l : List Int) (w : World) (ha : Ints w A n s) (hb : Ints w B m l) (hn : n ≤ 100000) (hm : m ≤ 100000) (hv : validB 6 s l = true) :
    Calls Tryd.prog 35 #[.agg #[.slice A n c, .slice B m d]] w fun e w' => e = .returned (.tuple #[.string ⟨(wordText s l).toArray⟩, .int .i64 0]) ∧ Below w.heap.size w w' := by
  have HV := Lib.hid hv
  have HS1 := Lib.hid (small_of_valid hv).1
  have HS2 := Lib.hid (small_of_valid hv).2
  have HX := Lib.hid ha.1
  have HY := Lib.hid hb.1
  clear hv
  go_enter Tryd.func35, Tryd.ntmps35
  go_wp2_with fail
  refine (is_any A B n c m d s l _ (ha.alloc _) (hb.alloc _) hn hm).mono ?_
  rintro e w1 ⟨rfl, hb1⟩
  rw [HV.out]
  have hz : w.heap.size < w1.heap.size := by have := hb1.size; simp at this; omega
  have p0 : w1.cell? ⟨w.heap.size, 0, none⟩ = some (.slice A n c) := by rw [hb1.cell (by simp), box_last]; rfl
  have p1 : w1.cell? ⟨w.heap.size, 1, none⟩ = some (.slice B m d) := by rw [hb1.cell (by simp), box_last]; rfl
  have HA := Lib.hid ((ha.alloc (.cells #[.slice A n c, .slice B m d] 24)).below hb1)
  have HB := Lib.hid ((hb.alloc (.cells #[.slice A n c, .slice B m d] 24)).below hb1)
  have hbw : Below w.heap.size w w1 := ((Below.refl _ _).alloc (Nat.le_refl _) _).trans (hb1.mono (by simp))
  clear ha hb hb1
  go_wp2_with fail
  go_loopg [4, 15] n (fun g o i wx => ∃ k : Nat, k + g = n ∧ k ≤ n ∧ i = .int .i64 k ∧ o = .string ⟨(lettersText (s.take k)).toArray⟩ ∧ Below w1.heap.size w1 wx)
  case atStart => exact ⟨0, by omega, by omega, rfl, rfl, Below.refl _ _⟩
  case round =>
    obtain ⟨k, hkg, hkn, rfl, rfl, hbx⟩ := hrel
    by_cases hlt : k < n
    · have hsm := getD_small HS1.out (k := k) (by rw [HX.out]; exact hlt)
      have hlen := lettersText_length (xs := s.take k) (fun x hm => HS1.out x (List.mem_of_mem_take hm))
      have hlen2 : (lettersText (s.take k)).length ≤ 300000 := by rw [List.length_take] at hlen; omega
      have HT := Lib.hid (lettersText_take (xs := s) (k := k) (by rw [HX.out]; exact hlt))
      have h2 := HA.out.below hbx
      obtain ⟨bA, oA, rfl, hbA, hca⟩ := h2.at_ hlt
      have c1 := hca k hlt
      clear hca h2 hlen
      generalize hva : s.getD k 0 = va at c1 hsm HT
      obtain ⟨u, rfl⟩ := Int.eq_ofNat_of_zero_le hsm.1
      have hu : u < 100 := by omega
      clear hsm hva
      have hdl := nDigits_small hu
      have ha1 := fun W => run_add W (Lib.decDigits u) [32] (by simp; omega)
      have ha2 := fun W => run_add W (lettersText (s.take k)) (Lib.decDigits u ++ [32]) (by simp; omega)
      generalize hq1 : lettersText (s.take k) = t1 at *
      cases gk with
      | zero => exfalso; omega
      | succ g =>
      go_wp2_with fail
      refine (digits_any u hu _).mono ?_
      rintro e w2 ⟨rfl, hb2⟩
      go_wp2_with fail
      go_roundg g
      case measure => omega
      case rel => exact ⟨k + 1, by omega, by omega, by go_num, by rw [HT.out]; rfl, hbx.trans (hb2.mono hbx.size)⟩
    · obtain rfl : k = n := by omega
      have HT := Lib.hid (show s.take k = s from List.take_of_length_le (by rw [HX.out]; exact Nat.le_refl _))
      rw [HT.out]
      have hlenS : (lettersText s).length ≤ 300000 := by have := lettersText_length HS1.out; rw [HX.out] at this; omega
      have ha1 := fun W => run_add W (lettersText s) [40, 32] (by simp; omega)
      have p1' := (hbx.cell (p := ⟨w.heap.size, 1, none⟩) hz).trans p1
      have HB' := Lib.hid (HB.out.below hbx)
      have hbw' := hbw.trans (hbx.mono hbw.size)
      have hz' : w.heap.size < wr.heap.size := Nat.lt_of_lt_of_le hz hbx.size
      generalize hq1 : lettersText s = t1 at *
      have HQ1 := Lib.hid hq1
      clear hq1 p0 p1 hbx hbw hz
      have HB := HB'
      clear HB'
      go_wp2_with fail
      go_loopg [4, 30] m (fun g o i wx => ∃ k2 : Nat, k2 + g = m ∧ k2 ≤ m ∧ i = .int .i64 k2 ∧ o = .string ⟨(t1 ++ [40, 32] ++ lettersText (l.take k2)).toArray⟩ ∧ Below wr.heap.size wr wx)
      case atStart => exact ⟨0, by omega, by omega, rfl, by simp [lettersText], Below.refl _ _⟩
      case round =>
        obtain ⟨j, hkg, hkn, rfl, rfl, hbx⟩ := hrel
        clear ha1
        by_cases hlt : j < m
        · have hsm := getD_small HS2.out (k := j) (by rw [HY.out]; exact hlt)
          have hlen := lettersText_length (xs := l.take j) (fun x hm => HS2.out x (List.mem_of_mem_take hm))
          have hlen2 : (lettersText (l.take j)).length ≤ 300000 := by rw [List.length_take] at hlen; omega
          have HT := Lib.hid (lettersText_take (xs := l) (k := j) (by rw [HY.out]; exact hlt))
          have h2 := HB.out.below hbx
          obtain ⟨bA, oA, rfl, hbA, hca⟩ := h2.at_ hlt
          have c1 := hca j hlt
          clear hca h2 hlen
          generalize hva : l.getD j 0 = va at c1 hsm HT
          obtain ⟨u, rfl⟩ := Int.eq_ofNat_of_zero_le hsm.1
          have hu : u < 100 := by omega
          clear hsm hva
          have hdl := nDigits_small hu
          have ha1 := fun W => run_add W (Lib.decDigits u) [32] (by simp; omega)
          have ha2 := fun W => run_add W (t1 ++ [40, 32] ++ lettersText (l.take j)) (Lib.decDigits u ++ [32]) (by simp; omega)
          generalize hq2 : t1 ++ [40, 32] ++ lettersText (l.take j) = t2 at *
          have HQ2 := Lib.hid hq2
          clear hq2
          cases gk with
          | zero => exfalso; omega
          | succ g =>
          go_wp2_with fail
          refine (digits_any u hu _).mono ?_
          rintro e w2 ⟨rfl, hb2⟩
          go_wp2_with fail
          go_roundg g
          case measure => omega
          case rel => exact ⟨j + 1, by omega, by omega, by go_num, by rw [HT.out, ← HQ2.out]; simp, hbx.trans (hb2.mono hbx.size)⟩
        · obtain rfl : j = m := by omega
          have HT2 := Lib.hid (show l.take j = l from List.take_of_length_le (by rw [HY.out]; exact Nat.le_refl _))
          rw [HT2.out]
          have hlenL : (lettersText l).length ≤ 300000 := by have := lettersText_length HS2.out; rw [HY.out] at this; omega
          have ha1 := fun W => run_add W (t1 ++ [40, 32] ++ lettersText l) [41] (by simp; omega)
          have HE := Lib.hid (show t1 ++ [40, 32] ++ lettersText l ++ [41] = wordText s l by rw [← HQ1.out]; rfl)
          generalize hq2 : t1 ++ [40, 32] ++ lettersText l = t2 at *
          clear hq2
          go_wp2_with fail
          go_ret2
          exact ⟨by rw [← HE.out]; rfl, hbw'.trans (hbx.mono hbw'.size)⟩

end Go.Proofs.YtnkmmmagdmnngaaDoor.Wd
