/-
  writeLetters and Print of package word.
-/
import Derived.Test.YteidikkeoaolgaaDoorWdItoa
import Derived.Test.YteidikkeoaolgaaDoorWdBuilder
import Derived.Test.YteidikkeoaolgaaDoorWdLeaf
import Derived.Lib.AppendIntMem
namespace Go.Proofs.YteidikkeoaolgaaDoor.Wd
open Go.RowKit
set_option linter.unusedVariables false

/-- As Ints, in blocks below B. -/
def IntsAt (w : World) (B : Nat) (A : Option Addr) (n : Nat) (xs : List Int) : Prop :=
  xs.length = n ∧ (0 < n → ∃ b off, A = some ⟨b, off, none⟩ ∧ b < B ∧ ∀ j, j < n → w.cell? ⟨b, off + j, none⟩ = some (.int .i64 (xs.getD j 0)))
theorem IntsAt.at_ {w : World} {B n k : Nat} {A : Option Addr} {xs : List Int} (h : IntsAt w B A n xs) (hk : k < n) : ∃ b off, A = some ⟨b, off, none⟩ ∧ b < B ∧ ∀ j, j < n → w.cell? ⟨b, off + j, none⟩ = some (.int .i64 (xs.getD j 0)) := h.2 (by omega)
theorem IntsAt.below {w w' : World} {B n : Nat} {A : Option Addr} {xs : List Int} (h : IntsAt w B A n xs) (hb : Below B w w') : IntsAt w' B A n xs :=
  ⟨h.1, fun hn => by
    obtain ⟨b, off, e, hlt, hc⟩ := h.2 hn
    exact ⟨b, off, e, hlt, fun j hj => (hb.cell hlt).trans (hc j hj)⟩⟩
theorem Ints.atB {w : World} {n : Nat} {A : Option Addr} {xs : List Int} (h : Ints w A n xs) {B : Nat} (hB : w.heap.size ≤ B) : IntsAt w B A n xs :=
  ⟨h.1, fun hn => by
    obtain ⟨b, off, e, hlt, hc⟩ := h.2 hn
    exact ⟨b, off, e, by omega, hc⟩⟩

/-- A letter's digits and a blank. -/
def letterText (x : Int) : List UInt8 := Lib.decDigits x.toNat ++ [32]
def lettersText (xs : List Int) : List UInt8 := xs.flatMap letterText
theorem lettersText_take {xs : List Int} {k : Nat} (hk : k < xs.length) : lettersText (xs.take (k + 1)) = lettersText (xs.take k) ++ (Lib.decDigits (xs.getD k 0).toNat ++ [32]) := by
  unfold lettersText
  rw [List.take_succ_eq_append_getElem hk, List.flatMap_append]
  congr 1
  simp [letterText, List.getD_eq_getElem?_getD, List.getElem?_eq_getElem hk]
theorem nDigits_small {u : Nat} (h : u < 100) : (Lib.decDigits u).length ≤ 2 := by
  by_cases h1 : u < 10
  · rw [Lib.decDigits_one h1]; simp
  · rw [Lib.decDigits_two h1 h]; simp
theorem lettersText_length {xs : List Int} (h : ∀ x ∈ xs, 0 ≤ x ∧ x < 100) : (lettersText xs).length ≤ 3 * xs.length := by
  induction xs with
  | nil => simp [lettersText]
  | cons x xs ih =>
    have h1 := ih (fun y hy => h y (by simp [hy]))
    have h2 := h x (by simp)
    have h3 := nDigits_small (u := x.toNat) (by omega)
    simp only [lettersText, List.flatMap_cons, List.length_append, letterText, List.length_cons, List.length_nil] at h1 ⊢
    omega
theorem getD_small {xs : List Int} (h : ∀ x ∈ xs, 0 ≤ x ∧ x < 100) {k : Nat} (hk : k < xs.length) : 0 ≤ xs.getD k 0 ∧ xs.getD k 0 < 100 := by
  apply h
  simp [List.getD_eq_getElem?_getD, List.getElem?_eq_getElem hk]

set_option maxRecDepth 100000 in
set_option maxHeartbeats 1000000 in
theorem writeLetters_any (B b : Nat) (A : Option Addr) (n c : Nat) (xs : List Int) (l : List UInt8) (w : World) (h : IntsAt w B A n xs) (hB : Hid (Lib.IsBuilder 113 5 B b (Lib.byteCells l) w)) (hn : n ≤ 100000)
    (hl : l.length ≤ 1000000) (hx : Hid (∀ x ∈ xs, 0 ≤ x ∧ x < 100)) (hBw : B ≤ w.heap.size) :
    Calls Tryd.prog 95 #[.pointer (some ⟨b, 0, none⟩), .slice A n c] w fun e w' => e = .returned (.tuple #[]) ∧ Hid (Lib.IsBuilder 113 5 B b (Lib.byteCells (l ++ lettersText xs)) w') ∧ Below B w w' := by
  have HX := Lib.hid h.1
  go_enter Tryd.func95, Tryd.ntmps95
  go_wp2_with fail
  go_loopg [5, 8] n (fun g _ i wx => ∃ k : Nat, k + g = n ∧ k ≤ n ∧ i = .int .i64 k ∧ Hid (Lib.IsBuilder 113 5 B b (Lib.byteCells (l ++ lettersText (xs.take k))) wx) ∧ Below B w wx)
  case atStart => exact ⟨0, by omega, by omega, rfl, by simpa [lettersText] using hB, Below.refl _ _⟩
  case round =>
    obtain ⟨k, hkg, hkn, rfl, HI, hbx⟩ := hrel
    by_cases hlt : k < n
    · have hsm := getD_small hx.out (k := k) (by rw [HX.out]; exact hlt)
      have hlen := lettersText_length (xs := xs.take k) (fun x hm => hx.out x (List.mem_of_mem_take hm))
      have hlen2 : (lettersText (xs.take k)).length ≤ 300000 := by rw [List.length_take] at hlen; omega
      have HT := Lib.hid (lettersText_take (xs := xs) (k := k) (by rw [HX.out]; exact hlt))
      have h2 := h.below hbx
      obtain ⟨bA, oA, rfl, hbA, hca⟩ := h2.at_ hlt
      have c1 := hca k hlt
      clear hca h2 h hlen
      generalize hva : xs.getD k 0 = va at c1 hsm HT
      obtain ⟨u, rfl⟩ := Int.eq_ofNat_of_zero_le hsm.1
      have hu : u < 100 := by omega
      clear hsm hva
      have hdl := nDigits_small hu
      cases gk with
      | zero => exfalso; omega
      | succ g =>
      go_wp2_with fail
      refine (itoa_any u hu _).mono ?_
      rintro e w1 ⟨rfl, rfl⟩
      go_wp2_with fail
      refine (writeString_any B b _ _ _ HI.out ?_ ?_).mono ?_
      · simp only [Lib.byteCells_length, List.length_append]; show _ + (Lib.decDigits u).toArray.size ≤ _; simp; omega
      · exact Nat.le_trans hBw hbx.size
      rintro e w2 ⟨rfl, hB2, hb2⟩
      rw [Lib.strCells_toArray, ← Lib.byteCells_append] at hB2
      have HB2 := Lib.hid hB2
      clear hB2
      go_wp2_with fail
      refine (writeString_any B b _ _ _ (.inr HB2.out) ?_ ?_).mono ?_
      · simp only [Lib.byteCells_length, List.length_append]; show _ + 1 ≤ _; omega
      · exact Nat.le_trans hBw (hbx.trans hb2).size
      rintro e w3 ⟨rfl, hB3, hb3⟩
      have HB3 := Lib.hid hB3
      clear hB3
      go_wp2_with fail
      go_roundg g
      case measure => omega
      case rel =>
        refine ⟨k + 1, by omega, by omega, by go_num, ?_, (hbx.trans hb2).trans hb3⟩
        rw [HT.out]
        have := HB3.out
        rw [show Lib.strCells ⟨#[32]⟩ = Lib.byteCells [32] from rfl, ← Lib.byteCells_append] at this
        exact .inr (by simpa [List.append_assoc] using this)
    · go_wp2_with fail
      go_end0
      refine ⟨rfl, ?_, hbx⟩
      have := HI.out
      rw [List.take_of_length_le (by rw [HX.out]; omega)] at this
      exact this

/-- The printed form. -/
def wordText (s l : List Int) : List UInt8 := lettersText s ++ [40, 32] ++ lettersText l ++ [41]

theorem small_of_valid {s l : List Int} (h : validB 6 s l = true) : (∀ x ∈ s, 0 ≤ x ∧ x < 100) ∧ (∀ x ∈ l, 0 ≤ x ∧ x < 100) := by
  simp only [validB, Bool.and_eq_true, lettersB, List.all_eq_true, decide_eq_true_eq] at h
  obtain ⟨⟨_, h1⟩, h2⟩ := h
  exact ⟨fun x hx => by have := h1 x hx; simp at this; omega, fun x hx => by have := h2 x hx; simp at this; omega⟩

theorem fresh_builder (w : World) : Lib.IsBuilder 113 5 w.heap.size w.heap.size (Lib.byteCells []) (w.alloc (.cells #[.pointer none, .slice none 0 0] 113)) := by
  refine .inl ⟨Nat.le_refl _, .slice none 0 0, ?_, ⟨rfl, .inl ⟨rfl, rfl⟩⟩, by simp [Value.ownBlock]⟩
  show (w.heap.push _)[w.heap.size]? = _
  simp

set_option maxRecDepth 100000 in
set_option maxHeartbeats 1000000 in
theorem Print_bad (A B : Option Addr) (n c m d : Nat) (s l : List Int) (w : World) (ha : Ints w A n s) (hb : Ints w B m l) (hn : n ≤ 100000) (hm : m ≤ 100000) (hv : validB 6 s l = false) :
    Calls Tryd.prog 48 #[.agg #[.slice A n c, .slice B m d]] w fun e w' => e = .returned (.tuple #[.string ⟨#[]⟩, .int .i64 1]) ∧ Below w.heap.size w w' := by
  have HV := Lib.hid hv
  clear hv
  go_enter Tryd.func48, Tryd.ntmps48
  go_wp2_with fail
  refine (valid_any A B n c m d 6 s l _ (ha.alloc _) (hb.alloc _) hn hm).mono ?_
  rintro e w1 ⟨rfl, hb1⟩
  rw [HV.out]
  go_wp2_with fail
  go_ret2
  exact ⟨rfl, ((Below.refl _ _).alloc (Nat.le_refl _) _).trans (hb1.mono (by simp))⟩

set_option maxRecDepth 100000 in
set_option maxHeartbeats 1000000 in
theorem Print_good (A B : Option Addr) (n c m d : Nat) (s l : List Int) (w : World) (ha : Ints w A n s) (hb : Ints w B m l) (hn : n ≤ 100000) (hm : m ≤ 100000) (hv : validB 6 s l = true) :
    Calls Tryd.prog 48 #[.agg #[.slice A n c, .slice B m d]] w fun e w' => e = .returned (.tuple #[.string ⟨(wordText s l).toArray⟩, .int .i64 0]) ∧ Below w.heap.size w w' := by
  have HV := Lib.hid hv
  have HS1 := Lib.hid (small_of_valid hv).1
  have HS2 := Lib.hid (small_of_valid hv).2
  have hl1 : (lettersText s).length ≤ 300000 := by have := lettersText_length HS1.out; have := ha.1; omega
  have hl2 : (lettersText l).length ≤ 300000 := by have := lettersText_length HS2.out; have := hb.1; omega
  clear hv
  go_enter Tryd.func48, Tryd.ntmps48
  go_wp2_with fail
  refine (valid_any A B n c m d 6 s l _ (ha.alloc _) (hb.alloc _) hn hm).mono ?_
  rintro e w1 ⟨rfl, hb1⟩
  rw [HV.out]
  have hz : w.heap.size < w1.heap.size := by have := hb1.size; simp at this; omega
  have p0 : w1.cell? ⟨w.heap.size, 0, none⟩ = some (.slice A n c) := by rw [hb1.cell (by simp), box_last]; rfl
  have p1 : w1.cell? ⟨w.heap.size, 1, none⟩ = some (.slice B m d) := by rw [hb1.cell (by simp), box_last]; rfl
  have FB := Lib.hid (fresh_builder w1)
  go_wp2_with fail
  have ha1 := (((ha.alloc (.cells #[.slice A n c, .slice B m d] 24)).below hb1).atB (Nat.le_refl _)).below ((Below.refl w1.heap.size w1).alloc (Nat.le_refl _) (.cells #[.pointer none, .slice none 0 0] 113))
  have hl1a := (((hb.alloc (.cells #[.slice A n c, .slice B m d] 24)).below hb1).atB (Nat.le_refl _)).below ((Below.refl w1.heap.size w1).alloc (Nat.le_refl _) (.cells #[.pointer none, .slice none 0 0] 113))
  have hw1 : Below w1.heap.size w1 (w1.alloc (.cells #[.pointer none, .slice none 0 0] 113)) := (Below.refl _ _).alloc (Nat.le_refl _) _
  refine (writeLetters_any w1.heap.size w1.heap.size A n c s [] _ ha1 FB hn (by simp) HS1 (by simp)).mono ?_
  rintro e w2 ⟨rfl, HB2, hb2⟩
  have hw2 := hw1.trans hb2
  clear p0
  have p1' := (hw2.cell (p := ⟨w.heap.size, 1, none⟩) hz).trans p1
  go_wp2_with fail
  refine (writeString_any w1.heap.size w1.heap.size _ _ _ HB2.out (by simp only [Lib.byteCells_length, List.length_append, List.length_nil]; show _ + 2 ≤ _; omega) hw2.size).mono ?_
  rintro e w3 ⟨rfl, hB3, hb3⟩
  have HB3 := Lib.hid (show Lib.IsBuilder 113 5 w1.heap.size w1.heap.size (Lib.byteCells (([] ++ lettersText s) ++ [40, 32])) w3 from .inr (by rw [Lib.byteCells_append]; exact hB3))
  clear hB3 p1'
  have hw3 := hw2.trans hb3
  have p1' := (hw3.cell (p := ⟨w.heap.size, 1, none⟩) hz).trans p1
  go_wp2_with fail
  refine (writeLetters_any w1.heap.size w1.heap.size B m d l _ _ ((hl1a.below hb2).below hb3) HB3 hm (by simp; omega) HS2 hw3.size).mono ?_
  rintro e w4 ⟨rfl, HB4, hb4⟩
  have hw4 := hw3.trans hb4
  clear p1'
  go_wp2_with fail
  refine (writeString_any w1.heap.size w1.heap.size _ _ _ HB4.out (by simp only [Lib.byteCells_length, List.length_append, List.length_nil, List.length_cons]; show _ + 1 ≤ _; omega) hw4.size).mono ?_
  rintro e w5 ⟨rfl, hB5, hb5⟩
  have HB5 := Lib.hid (show Lib.IsBuilder 113 5 w1.heap.size w1.heap.size (Lib.byteCells (wordText s l)) w5 from .inr (by
    have : wordText s l = ([] ++ lettersText s ++ [40, 32] ++ lettersText l) ++ [41] := by simp [wordText]
    rw [this, Lib.byteCells_append]; exact hB5))
  clear hB5
  have hw5 := hw4.trans hb5
  go_wp2_with fail
  refine (string_any w1.heap.size w1.heap.size _ _ HB5.out (by simp [wordText])).mono ?_
  rintro e w6 ⟨rfl, hb6⟩
  go_wp2_with fail
  go_ret2
  exact ⟨rfl, (((Below.refl _ _).alloc (Nat.le_refl _) _).trans (hb1.mono (by simp))).trans ((hw5.trans hb6).mono (by omega))⟩

end Go.Proofs.YteidikkeoaolgaaDoor.Wd
