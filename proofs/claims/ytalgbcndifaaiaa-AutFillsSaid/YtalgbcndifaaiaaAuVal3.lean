/-
  validStart and validEdges of package aut, for all lists.
-/
import Derived.Test.YtalgbcndifaaiaaAuVal2
import Derived.Deep.LoopGhost
import Derived.BigQuiet
import Derived.Deep.QuietTactic
namespace Go.Proofs.Ytalgbcndifaaiaa.Wd
open Go.RowKit
set_option linter.unusedVariables false

theorem ten_ways (S PP MM ef et ec r em : Int) : ef < 0 ∨ (0 ≤ ef ∧ S ≤ ef) ∨ (0 ≤ ef ∧ ef < S ∧ et < 0) ∨ (0 ≤ ef ∧ ef < S ∧ 0 ≤ et ∧ S ≤ et) ∨ (0 ≤ ef ∧ ef < S ∧ 0 ≤ et ∧ et < S ∧ ec < 0) ∨ (0 ≤ ef ∧ ef < S ∧ 0 ≤ et ∧ et < S ∧ 0 ≤ ec ∧ PP ≤ ec) ∨
    (0 ≤ ef ∧ ef < S ∧ 0 ≤ et ∧ et < S ∧ 0 ≤ ec ∧ ec < PP ∧ r ≠ 0) ∨ (0 ≤ ef ∧ ef < S ∧ 0 ≤ et ∧ et < S ∧ 0 ≤ ec ∧ ec < PP ∧ r = 0 ∧ em < 0) ∨ (0 ≤ ef ∧ ef < S ∧ 0 ≤ et ∧ et < S ∧ 0 ≤ ec ∧ ec < PP ∧ r = 0 ∧ 0 ≤ em ∧ MM ≤ em) ∨
    (0 ≤ ef ∧ ef < S ∧ 0 ≤ et ∧ et < S ∧ 0 ≤ ec ∧ ec < PP ∧ r = 0 ∧ 0 ≤ em ∧ em < MM) := by
  rcases Int.lt_or_le ef 0 with h1 | h1
  · exact Or.inl h1
  refine Or.inr ?_
  rcases (Int.lt_or_le ef S).symm with h2 | h2
  · exact Or.inl ⟨h1, h2⟩
  refine Or.inr ?_
  rcases Int.lt_or_le et 0 with h3 | h3
  · exact Or.inl ⟨h1, h2, h3⟩
  refine Or.inr ?_
  rcases (Int.lt_or_le et S).symm with h4 | h4
  · exact Or.inl ⟨h1, h2, h3, h4⟩
  refine Or.inr ?_
  rcases Int.lt_or_le ec 0 with h5 | h5
  · exact Or.inl ⟨h1, h2, h3, h4, h5⟩
  refine Or.inr ?_
  rcases (Int.lt_or_le ec PP).symm with h6 | h6
  · exact Or.inl ⟨h1, h2, h3, h4, h5, h6⟩
  refine Or.inr ?_
  rcases (Decidable.em (r = 0)).symm with h7 | h7
  · exact Or.inl ⟨h1, h2, h3, h4, h5, h6, h7⟩
  refine Or.inr ?_
  rcases Int.lt_or_le em 0 with h8 | h8
  · exact Or.inl ⟨h1, h2, h3, h4, h5, h6, h7, h8⟩
  refine Or.inr ?_
  rcases (Int.lt_or_le em MM).symm with h9 | h9
  · exact Or.inl ⟨h1, h2, h3, h4, h5, h6, h7, h8, h9⟩
  exact Or.inr ⟨h1, h2, h3, h4, h5, h6, h7, h8, h9⟩

set_option maxRecDepth 100000 in
set_option maxHeartbeats 8000000 in
theorem validEdges_few (P M : Nat) (S K : Int) (A E : Option Addr) (n c ne ce : Nat) (es : List Ed) (w : World) (hE : EdgesAt w E ne es) (hP : P ≤ 6) (hM : M ≤ 40) (hne : ne ≤ 40000) :
    Calls Try.prog 39 #[.agg #[.int .i64 P, .int .i64 S, .slice A n c, .int .i64 K, .int .i64 M, .slice E ne ce]] w fun e w' => e = .returned (.bool (edgesB P S M es)) ∧ Below w.heap.size w w' := by
  have HA := Lib.hid hE
  have HL := Lib.hid hE.1
  obtain ⟨PP, hPP, HPP⟩ : ∃ X : Int, IntKind.i64.wrap ((2 : Int) ^ P) = X ∧ Hid ((2 : Int) ^ P = X) := ⟨_, pow_wrap6 hP, rfl⟩
  obtain ⟨MM, hMM, HMM⟩ : ∃ X : Int, IntKind.i64.wrap ((2 : Int) ^ M) = X ∧ Hid ((2 : Int) ^ M = X) := ⟨_, (pow_wrap40 hM).1, rfl⟩
  have hP0 : (0 : Int) ≤ (P : Int) := by omega
  have hM0 : (0 : Int) ≤ (M : Int) := by omega
  have hle : ¬ (40000 : Int) < (ne : Int) := by omega
  have hle2 : decide ((40000 : Int) < (ne : Int)) = false := decide_eq_false hle
  have hP6 : (P : Int) ≤ 6 := by omega
  have hM40 : (M : Int) ≤ 40 := by omega
  clear hE
  go_enter Try.func39, Try.ntmps39
  go_wp2_with fail
  obtain ⟨W0, hW0⟩ : ∃ W0, w.alloc (.cells #[.int .i64 P, .int .i64 S, .slice A n c, .int .i64 K, .int .i64 M, .slice E ne ce] 25) = W0 := ⟨_, rfl⟩
  have q0 : W0.cell? ⟨w.heap.size, 0, none⟩ = some (.int .i64 P) := by rw [← hW0, box_last]; rfl
  have q1 : W0.cell? ⟨w.heap.size, 1, none⟩ = some (.int .i64 S) := by rw [← hW0, box_last]; rfl
  have q4 : W0.cell? ⟨w.heap.size, 4, none⟩ = some (.int .i64 M) := by rw [← hW0, box_last]; rfl
  have hz : w.heap.size < W0.heap.size := by rw [← hW0]; simp
  have HB0 := Lib.hid (show Below w.heap.size w W0 by rw [← hW0]; exact (Below.refl _ _).alloc (Nat.le_refl _) _)
  rw [hW0]
  clear hW0
  go_loopg [12] ne (fun g i wx => ∃ t : Nat, t + g = ne ∧ i = .int .i64 t ∧ Hid (edgesB P S M (es.take t) = true) ∧ Hid (Below W0.heap.size W0 wx))
  case atStart => exact ⟨0, by omega, rfl, by show edgesB _ _ _ _ = true; simp [edgesB], Below.refl _ _⟩
  case round =>
    obtain ⟨t, htg, rfl, HP, HBx⟩ := hrel
    have hti : (0 : Int) ≤ (t : Int) := by omega
    have HBw := Lib.hid (HB0.out.trans (HBx.out.mono HB0.out.size))
    have r0 := (HBx.out.cell (p := ⟨w.heap.size, 0, none⟩) hz).trans q0
    have r1 := (HBx.out.cell (p := ⟨w.heap.size, 1, none⟩) hz).trans q1
    have r4 := (HBx.out.cell (p := ⟨w.heap.size, 4, none⟩) hz).trans q4
    have hzr : w.heap.size < wr.heap.size := Nat.lt_of_lt_of_le hz HBx.out.size
    cases gk with
    | zero =>
      obtain rfl : ne = t := by omega
      have HE := Lib.hid (show edgesB P S M es = true by have h := HP.out; rw [List.take_of_length_le (by rw [HL.out]; omega)] at h; exact h)
      go_wp2_with fail
      go_ret
      exact ⟨ret_bool HE.out.symm, HBw.out⟩
    | succ q =>
      have ht1 : t < ne := by omega
      have hti2 : (t : Int) < (ne : Int) := by omega
      obtain ⟨b, off, rfl, hlt, hcell⟩ := (HA.out.below HBw.out).2 (by omega)
      obtain ⟨c0, c1, c2, c3, c4⟩ := hcell t ht1
      have HBD := Lib.hid (edgesB_bad (P := P) (M := M) (S := S) (es := es) (k := t) (by rw [HL.out]; exact ht1))
      have HST := Lib.hid (edgesB_step (P := P) (M := M) (S := S) (es := es) (k := t) (by rw [HL.out]; exact ht1) HP.out)
      generalize es.getD t ed0 = x at *
      obtain ⟨ef, et, ec, eb, em⟩ := x
      simp only at c0 c1 c2 c3 c4
      obtain ⟨r, hr, HR⟩ : ∃ r : Int, bits .andNot .i64 eb ec = r ∧ Hid (bits .andNot .i64 eb ec = r) := ⟨_, rfl, rfl⟩
      have HED := Lib.hid (show edB P S M ⟨ef, et, ec, eb, em⟩ = decide ((0 ≤ ef ∧ ef < S) ∧ (0 ≤ et ∧ et < S) ∧ (0 ≤ ec ∧ ec < PP) ∧ r = 0 ∧ 0 ≤ em ∧ em < MM) by unfold edB; simp only; rw [HPP.out, HMM.out, HR.out])
      clear hcell
      have hcase : ef < 0 ∨ (0 ≤ ef ∧ S ≤ ef) ∨ (0 ≤ ef ∧ ef < S ∧ et < 0) ∨ (0 ≤ ef ∧ ef < S ∧ 0 ≤ et ∧ S ≤ et) ∨ (0 ≤ ef ∧ ef < S ∧ 0 ≤ et ∧ et < S ∧ ec < 0) ∨ (0 ≤ ef ∧ ef < S ∧ 0 ≤ et ∧ et < S ∧ 0 ≤ ec ∧ PP ≤ ec) ∨
          (0 ≤ ef ∧ ef < S ∧ 0 ≤ et ∧ et < S ∧ 0 ≤ ec ∧ ec < PP ∧ r ≠ 0) ∨ (0 ≤ ef ∧ ef < S ∧ 0 ≤ et ∧ et < S ∧ 0 ≤ ec ∧ ec < PP ∧ r = 0 ∧ em < 0) ∨ (0 ≤ ef ∧ ef < S ∧ 0 ≤ et ∧ et < S ∧ 0 ≤ ec ∧ ec < PP ∧ r = 0 ∧ 0 ≤ em ∧ MM ≤ em) ∨
          (0 ≤ ef ∧ ef < S ∧ 0 ≤ et ∧ et < S ∧ 0 ≤ ec ∧ ec < PP ∧ r = 0 ∧ 0 ≤ em ∧ em < MM) := ten_ways S PP MM ef et ec r em
      rcases hcase with h | ⟨h, h2⟩ | ⟨h, h2, h3⟩ | ⟨h, h2, h3, h4⟩ | ⟨h, h2, h3, h4, h5⟩ | ⟨h, h2, h3, h4, h5, h6⟩ | ⟨h, h2, h3, h4, h5, h6, h7⟩ | ⟨h, h2, h3, h4, h5, h6, h7, h8⟩ | ⟨h, h2, h3, h4, h5, h6, h7, h8, h9⟩ | ⟨h, h2, h3, h4, h5, h6, h7, h8, h9⟩
      · have HF := Lib.hid (HBD.out (by rw [HED.out]; exact decide_eq_false (by intro hx; omega)))
        go_wp2_with fail
        go_ret
        refine ⟨ret_bool HF.out.symm, ?_⟩
        (repeat first | apply below_drewN | refine Below.alloc ?_ (by first | exact HBw.out.size | (have := HBw.out.size; simp <;> omega)) _)
        exact HBw.out
      · have HF := Lib.hid (HBD.out (by rw [HED.out]; exact decide_eq_false (by intro hx; omega)))
        go_wp2_with fail
        go_ret
        refine ⟨ret_bool HF.out.symm, ?_⟩
        (repeat first | apply below_drewN | refine Below.alloc ?_ (by first | exact HBw.out.size | (have := HBw.out.size; simp <;> omega)) _)
        exact HBw.out
      · have HF := Lib.hid (HBD.out (by rw [HED.out]; exact decide_eq_false (by intro hx; omega)))
        go_wp2_with fail
        go_ret
        refine ⟨ret_bool HF.out.symm, ?_⟩
        (repeat first | apply below_drewN | refine Below.alloc ?_ (by first | exact HBw.out.size | (have := HBw.out.size; simp <;> omega)) _)
        exact HBw.out
      · have HF := Lib.hid (HBD.out (by rw [HED.out]; exact decide_eq_false (by intro hx; omega)))
        go_wp2_with fail
        go_ret
        refine ⟨ret_bool HF.out.symm, ?_⟩
        (repeat first | apply below_drewN | refine Below.alloc ?_ (by first | exact HBw.out.size | (have := HBw.out.size; simp <;> omega)) _)
        exact HBw.out
      · have HF := Lib.hid (HBD.out (by rw [HED.out]; exact decide_eq_false (by intro hx; omega)))
        go_wp2_with fail
        go_quiet (fail)
        go_wp2_with fail
        go_ret
        refine ⟨ret_bool HF.out.symm, ?_⟩
        (repeat first | apply below_drewN | refine Below.alloc ?_ (by first | exact HBw.out.size | (have := HBw.out.size; simp <;> omega)) _)
        exact HBw.out
      · have HF := Lib.hid (HBD.out (by rw [HED.out]; exact decide_eq_false (by intro hx; omega)))
        go_wp2_with fail
        go_quiet (fail)
        go_wp2_with fail
        go_ret
        refine ⟨ret_bool HF.out.symm, ?_⟩
        (repeat first | apply below_drewN | refine Below.alloc ?_ (by first | exact HBw.out.size | (have := HBw.out.size; simp <;> omega)) _)
        exact HBw.out
      · have HF := Lib.hid (HBD.out (by rw [HED.out]; exact decide_eq_false (by intro hx; omega)))
        have h7' : (r == 0) = false := by simpa using h7
        have h7'' : (r != 0) = true := by simpa using h7
        clear h7
        go_wp2_with fail
        go_quiet (fail)
        go_wp2_with fail
        go_ret
        refine ⟨ret_bool HF.out.symm, ?_⟩
        (repeat first | apply below_drewN | refine Below.alloc ?_ (by first | exact HBw.out.size | (have := HBw.out.size; simp <;> omega)) _)
        exact HBw.out
      · have HF := Lib.hid (HBD.out (by rw [HED.out]; exact decide_eq_false (by intro hx; omega)))
        subst h7
        go_wp2_with fail
        go_quiet (fail)
        go_wp2_with fail
        go_quiet (fail)
        go_wp2_with fail
        go_ret
        refine ⟨ret_bool HF.out.symm, ?_⟩
        (repeat first | apply below_drewN | refine Below.alloc ?_ (by first | exact HBw.out.size | (have := HBw.out.size; simp <;> omega)) _)
        exact HBw.out
      · have HF := Lib.hid (HBD.out (by rw [HED.out]; exact decide_eq_false (by intro hx; omega)))
        subst h7
        go_wp2_with fail
        go_quiet (fail)
        go_wp2_with fail
        go_quiet (fail)
        go_wp2_with fail
        go_ret
        refine ⟨ret_bool HF.out.symm, ?_⟩
        (repeat first | apply below_drewN | refine Below.alloc ?_ (by first | exact HBw.out.size | (have := HBw.out.size; simp <;> omega)) _)
        exact HBw.out
      · have HN := Lib.hid (HST.out (by rw [HED.out]; exact decide_eq_true (by omega)))
        subst h7
        go_wp2_with fail
        go_quiet (fail)
        go_wp2_with fail
        go_quiet (fail)
        go_wp2_with fail
        go_roundg q
        case measure => omega
        case rel =>
          refine ⟨t + 1, by omega, by go_num, HN, ?_⟩
          show Below _ _ _
          (repeat first | apply below_drewN | refine Below.alloc ?_ (by first | exact HBx.out.size | (have := HBx.out.size; simp <;> omega)) _)
          exact HBx.out

end Go.Proofs.Ytalgbcndifaaiaa.Wd
