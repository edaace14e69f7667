/-
  Letter, Valid, Is and At of the reference.
-/
import Derived.Test.YteidikkeoaolgaaDoorWdAt
import Derived.BigRegion
import Derived.Deep.RegionLaw
import Derived.Deep.RegionHeld3
namespace Go.Proofs.YteidikkeoaolgaaDoor.Wd
open Go.RowKit
set_option linter.unusedVariables false

set_option maxHeartbeats 400000 in
theorem letter_any (x : Int) (k : Nat) (w : World) (hk : k ≤ 6) :
    Calls Tryd.prog 58 #[.int .i64 x, .int .i64 k] w fun e w' => e = .returned (.bool (decide (0 ≤ x) && decide (x < (2 : Int) ^ k))) ∧ w = w' := by
  have hp := wrap_pow hk
  by_cases h0 : 0 ≤ x
  · have hd : decide (0 ≤ x) = true := by simpa using h0
    go_enter Tryd.func58, Tryd.ntmps58
    go_wp2_with fail
    go_ret
    exact ⟨ret_bool (by rw [hd]; rfl), rfl⟩
  · have hd : decide (0 ≤ x) = false := by simpa using h0
    go_enter Tryd.func58, Tryd.ntmps58
    go_wp2_with fail
    go_ret
    exact ⟨ret_bool (by simp), rfl⟩

theorem lettersB_append (b : Int) (xs ys : List Int) : lettersB b (xs ++ ys) = (lettersB b xs && lettersB b ys) := by simp [lettersB]

set_option maxRecDepth 100000 in
set_option maxHeartbeats 1000000 in
theorem refValid_else (A B : Option Addr) (n c m d : Nat) (j : Nat) (s l : List Int) (w : World) (ha : Ints w A n s) (hb : Ints w B m l) (hj : j ≤ 6) (hm0 : 0 < m) (hl : n + m ≤ 200) :
    Calls Tryd.prog 62 #[.agg #[.slice A n c, .slice B m d], .int .i64 j] w fun e w' => e = .returned (.bool (lettersB ((2 : Int) ^ j) (s ++ l))) ∧ Below w.heap.size w w' := by
  obtain ⟨i0, hi, hz0, hz1, hz2⟩ := info_parts int_info
  obtain ⟨t, ht⟩ : ∃ t, s ++ l = t := ⟨_, rfl⟩
  rw [ht]
  have HT0 := Lib.hid ht
  clear ht
  have HX := Lib.hid ha.1
  have HY := Lib.hid hb.1
  have hb0 : ((m : Int) == 0) = false := by simp; omega
  have hb2 : decide (200 < (n : Int) + m) = false := by simp; omega
  go_enter Tryd.func62, Tryd.ntmps62
  go_wp2_with fail
  have q0 : (w.alloc (.cells #[.slice A n c, .slice B m d] 24)).cell? ⟨w.heap.size, 0, none⟩ = some (.slice A n c) := by rw [box_last]; rfl
  have q1 : (w.alloc (.cells #[.slice A n c, .slice B m d] 24)).cell? ⟨w.heap.size, 1, none⟩ = some (.slice B m d) := by rw [box_last]; rfl
  have HA := Lib.hid (ha.alloc (.cells #[.slice A n c, .slice B m d] 24))
  have HB := Lib.hid (hb.alloc (.cells #[.slice A n c, .slice B m d] 24))
  generalize hW : w.alloc (.cells #[.slice A n c, .slice B m d] 24) = W at *
  have hbw : Below w.heap.size w W := by rw [← hW]; exact (Below.refl _ _).alloc (Nat.le_refl _) _
  have hlt : w.heap.size < W.heap.size := by rw [← hW]; simp
  clear hW
  have hown0 : (W.alloc (.cells #[] 3)).drew.ownsRow W.heap.size 3 1 (.slice (some ⟨W.heap.size, 0, none⟩) 0 0) 0 [] := World.ownsRow_made W #[] 0 (Nat.le_refl _) (Nat.zero_le _) rfl
  have hbd : Below W.heap.size W (W.alloc (.cells #[] 3)).drew := ((Below.refl W.heap.size W).alloc (Nat.le_refl _) (.cells #[] 3)).drew
  go_region_held3 (fun X => X.cell? ⟨w.heap.size, 0, none⟩ = some (.slice A n c) ∧ X.cell? ⟨w.heap.size, 1, none⟩ = some (.slice B m d))
    (first
      | go_keep
      | (refine ⟨?_, ?_⟩
         · rw [hba.cell (by simp; omega)]; exact q0
         · rw [hba.cell (by simp; omega)]; exact q1)
      | (refine ⟨?_, ?_⟩
         · rw [hbb.cell (by simp; omega)]; exact q0
         · rw [hbb.cell (by simp; omega)]; exact q1))
    (first
      | ((refine step_append_ints _ (by rfl) _ _ _ (by rfl) W.heap.size 3 i0 _ Tryd.underlying22 hi hz0 hz1 hz2 rfl (.slice (some ⟨W.heap.size, 0, none⟩) 0 0) 0 [] (by rfl) hown0 _ n c s (by rfl) (by exact HA.out.below hbd) (by omega) hbd.size ?_; intro va wa howna hgrowa hata; have hba : Below W.heap.size W wa := hbd.trans (below_own (base := W.heap.size) hown0 hgrowa hbd.size)))
      | ((refine step_append_ints _ (by rfl) _ _ _ (by rfl) W.heap.size 3 i0 _ Tryd.underlying22 hi hz0 hz1 hz2 rfl va (0 + n) ([] ++ s.map (Value.int .i64)) (by rfl) (by exact howna) _ m d l (by rfl) (by exact HB.out.below hba) (by omega) hba.size ?_; intro vb wb hownb hgrowb hatb; have hbb : Below W.heap.size W wb := hba.trans (below_own howna hgrowb hba.size); have hvb := own_slice hownb; obtain ⟨A2, k2, hvb, hk2⟩ := hvb; rw [hvb]))
      | fail)
  rw [hvb] at hownb
  rw [List.nil_append, ← List.map_append] at hownb
  generalize hnm : 0 + n + m = nm at *
  have HI := Lib.hid (Ints.of_own hownb)
  have HS := Lib.hid (show (s ++ l).length = nm by rw [List.length_append, HX.out, HY.out]; omega)
  have HW := Lib.hid (hbw.trans (hbb.mono hbw.size))
  rw [HT0.out] at HI HS
  clear HT0
  have hp := wrap_pow hj
  clear ha hb hvb hownb hgrowb hatb hba hbb howna hgrowa hata hown0 hbd q0 q1 HA HB HX HY hbw
  go_wp2_with fail
  go_loop [6, 37] (fun _ i => ∃ k : Nat, k ≤ nm ∧ i = .int .i64 k ∧ lettersB ((2 : Int) ^ j) (t.take k) = true) (fun _ i => nm - (intOf i).toNat)
  case atStart => exact ⟨0, Nat.zero_le _, rfl, by simp [lettersB]⟩
  case round =>
    obtain ⟨k, hk, rfl, hall⟩ := hrel
    by_cases hlt : k < nm
    · have h := HI.out
      obtain ⟨b, off, rfl, hb, hc⟩ := h.at_ hlt
      have hcj := hc k hlt
      have hlen := HS.out
      clear h hc
      generalize hx : t.getD k 0 = x at hcj
      cases he : (decide (0 ≤ x) && decide (x < (2 : Int) ^ j))
      · have HR := Lib.hid (show lettersB ((2 : Int) ^ j) t = false from lettersB_bad (k := k) (by omega) (by rw [hx]; intro h; simp [h.1, h.2] at he))
        have HE := Lib.hid he
        clear he hall hx hp
        go_wp2_with fail
        refine (letter_any x j _ hj).mono ?_
        rintro e w2 ⟨rfl, rfl⟩
        rw [HE.out]
        go_wp2_with fail
        go_ret
        exact ⟨ret_bool HR.out.symm, HW.out⟩
      · have HT := Lib.hid (show lettersB ((2 : Int) ^ j) (t.take (k + 1)) = true by rw [lettersB_take (by omega) hall, hx]; exact he)
        have HE := Lib.hid he
        clear he hall hx hp
        go_wp2_with fail
        refine (letter_any x j _ hj).mono ?_
        rintro e w2 ⟨rfl, rfl⟩
        rw [HE.out]
        go_wp2_with fail
        go_round
        case rel => exact ⟨k + 1, by omega, by go_num, HT.out⟩
        case measure => simp [intOf]; omega
    · have HA := Lib.hid hall
      clear hall
      go_wp2
      go_ret
      exact ⟨ret_bool (by rw [← HA.out, List.take_of_length_le (by rw [HS.out]; omega)]), HW.out⟩


set_option maxRecDepth 100000 in
set_option maxHeartbeats 1000000 in
theorem refValid_any (A B : Option Addr) (n c m d : Nat) (k : Int) (s l : List Int) (w : World) (ha : Ints w A n s) (hb : Ints w B m l) (hn : n ≤ 100000) (hm : m ≤ 100000) :
    Calls Tryd.prog 62 #[.agg #[.slice A n c, .slice B m d], .int .i64 k] w fun e w' => e = .returned (.bool (validB k s l)) ∧ Below w.heap.size w w' := by
  have hx := ha.1
  have hy := hb.1
  by_cases h0 : k < 0
  · have HV := Lib.hid (valid_lo (xs := s) (ys := l) h0)
    go_enter Tryd.func62, Tryd.ntmps62
    go_wp2_with fail
    go_ret
    exact ⟨ret_bool HV.out.symm, (Below.refl _ _).alloc (Nat.le_refl _) _⟩
  by_cases h6 : 6 < k
  · have HV := Lib.hid (valid_hi (xs := s) (ys := l) h6)
    go_enter Tryd.func62, Tryd.ntmps62
    go_wp2_with fail
    go_ret
    exact ⟨ret_bool HV.out.symm, (Below.refl _ _).alloc (Nat.le_refl _) _⟩
  by_cases hm0 : m = 0
  · have HV := Lib.hid (valid_none (k := k) (xs := s) (ys := l) (by omega))
    have hb0 : ((m : Int) == 0) = true := by simp; omega
    go_enter Tryd.func62, Tryd.ntmps62
    go_wp2_with fail
    go_ret
    exact ⟨ret_bool HV.out.symm, (Below.refl _ _).alloc (Nat.le_refl _) _⟩
  obtain ⟨j, rfl⟩ := Int.eq_ofNat_of_zero_le (show 0 ≤ k by omega)
  have hj : j ≤ 6 := by omega
  by_cases hz : 200 < n + m
  · have HV := Lib.hid (valid_long (k := j) (xs := s) (ys := l) (by omega))
    have hb0 : ((m : Int) == 0) = false := by simp; omega
    have hb2 : decide (200 < (n : Int) + m) = true := by simp; omega
    go_enter Tryd.func62, Tryd.ntmps62
    go_wp2_with fail
    go_ret
    exact ⟨ret_bool HV.out.symm, (Below.refl _ _).alloc (Nat.le_refl _) _⟩
  refine (refValid_else A B n c m d j s l w ha hb hj (by omega) (by omega)).mono ?_
  rintro e w1 ⟨rfl, hb1⟩
  refine ⟨ret_bool ?_, hb1⟩
  rw [valid_else hj (by omega) (by omega), lettersB_append]

set_option maxRecDepth 100000 in
set_option maxHeartbeats 1000000 in
theorem is_any (A B : Option Addr) (n c m d : Nat) (s l : List Int) (w : World) (ha : Ints w A n s) (hb : Ints w B m l) (hn : n ≤ 100000) (hm : m ≤ 100000) :
    Calls Tryd.prog 53 #[.agg #[.slice A n c, .slice B m d]] w fun e w' => e = .returned (.bool (validB 6 s l)) ∧ Below w.heap.size w w' := by
  have HC := Lib.hid (fun W hW hW' => refValid_any A B n c m d 6 s l W hW hW' hn hm)
  go_enter Tryd.func53, Tryd.ntmps53
  go_wp2_with fail
  refine (HC.out _ (ha.alloc _) (hb.alloc _)).mono ?_
  rintro e w1 ⟨rfl, hb1⟩
  go_wp2_with fail
  go_ret
  exact ⟨rfl, ((Below.refl _ _).alloc (Nat.le_refl _) _).trans (hb1.mono (by simp))⟩


end Go.Proofs.YteidikkeoaolgaaDoor.Wd
