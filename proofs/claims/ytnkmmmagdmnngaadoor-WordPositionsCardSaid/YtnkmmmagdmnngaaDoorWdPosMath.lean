/-
  Normal forms are not longer; repeated loops; valid results. And the small function that WordPositions makes for itself.
-/
import Derived.Test.YtnkmmmagdmnngaaDoorWdMix2
import Derived.Test.YtnkmmmagdmnngaaDoorWdLoops
import Derived.Test.YtnkmmmagdmnngaaDoorWdLeast
namespace Go.Proofs.YtnkmmmagdmnngaaDoor.Wd
open Go.RowKit
set_option linter.unusedVariables false

theorem nf_short {f : Nat → Int} {m p : Nat} {s l : List Int} (he : Ev f m p) (h : NF f s l) : s.length ≤ m ∧ l.length ≤ p := by
  obtain ⟨h1, h2, h3, h4⟩ := h
  refine ⟨h4 m ⟨h2, fun i hi => ?_⟩, h3 m p he⟩
  have e1 := he.mul i hi s.length
  have e2 := he.mul (i + l.length) (by omega) s.length
  have hge : s.length ≤ i + p * s.length := by
    have := Nat.mul_le_mul_right s.length he.1
    omega
  rw [← e1, ← e2, show i + l.length + p * s.length = (i + p * s.length) + l.length by omega, ← h1, ← h1]
  exact at_per hge

theorem valid_of {s l : List Int} (h : ∀ k, 0 ≤ at_ s l k ∧ at_ s l k < 64) (h0 : 0 < l.length) (h1 : s.length + l.length ≤ 200) : validB 6 s l = true := by
  have a1 : lettersB 64 s = true := by
    simp only [lettersB, List.all_eq_true, Bool.and_eq_true, decide_eq_true_eq]
    intro x hx
    obtain ⟨i, hi, rfl⟩ := List.getElem_of_mem hx
    have := h i
    rw [at_lt hi, List.getD_eq_getElem?_getD, List.getElem?_eq_getElem hi] at this
    exact this
  have a2 : lettersB 64 l = true := by
    simp only [lettersB, List.all_eq_true, Bool.and_eq_true, decide_eq_true_eq]
    intro x hx
    obtain ⟨i, hi, rfl⟩ := List.getElem_of_mem hx
    have := h (s.length + i)
    rw [at_add, Nat.mod_eq_of_lt hi, List.getD_eq_getElem?_getD, List.getElem?_eq_getElem hi] at this
    exact this
  unfold validB
  rw [two6, a1, a2]
  simp [h0, h1]

theorem rep_get {l : List Int} {k j : Nat} (h : j < k * l.length) : (rep l k).getD j 0 = l.getD (j % l.length) 0 := by
  induction k with
  | zero => omega
  | succ k ih =>
    have hlen := rep_length l k
    rw [Nat.succ_mul] at h
    simp only [rep, List.getD_eq_getElem?_getD] at ih ⊢
    by_cases hj : j < k * l.length
    · rw [List.getElem?_append_left (by omega)]
      exact ih hj
    · rw [List.getElem?_append_right (by omega), hlen]
      congr 2
      have e0 : k * l.length = l.length * k := Nat.mul_comm _ _
      have e : j = (j - k * l.length) + l.length * k := by omega
      conv => rhs; rw [e]
      rw [Nat.add_mul_mod_self_left, Nat.mod_eq_of_lt (by omega)]
theorem at_rep {s l : List Int} {k : Nat} (hk : 0 < k) (h0 : 0 < l.length) : at_ s (rep l k) = at_ s l := by
  funext i
  unfold at_
  split
  · rfl
  · rw [rep_get (by rw [rep_length]; exact Nat.mod_lt _ (Nat.mul_pos hk h0)), rep_length, Nat.mod_mod_of_dvd _ (Nat.dvd_mul_left _ _)]

theorem letter_in {k : Nat} {s l : List Int} (hv : validB k s l = true) (j : Nat) : 0 ≤ at_ s l j ∧ at_ s l j < (2 : Int) ^ k := by
  unfold validB at hv
  simp only [Bool.and_eq_true, decide_eq_true_eq, Int.toNat_natCast, lettersB, List.all_eq_true] at hv
  obtain ⟨⟨⟨_, hl⟩, h1⟩, h2⟩ := hv
  unfold at_
  split
  · rename_i h
    rw [List.getD_eq_getElem?_getD, List.getElem?_eq_getElem h]
    exact h1 _ (List.getElem_mem h)
  · have hm : (j - s.length) % l.length < l.length := Nat.mod_lt _ (by omega)
    rw [List.getD_eq_getElem?_getD, List.getElem?_eq_getElem hm]
    exact h2 _ (List.getElem_mem hm)
/-- A mixed letter is a letter. -/
theorem mix_in {s l s' l' : List Int} {k j : Nat} (hkj : k + j = 6) (hv : validB k s l = true) (hv' : validB j s' l' = true) (i : Nat) : 0 ≤ mixF s l s' l' k i ∧ mixF s l s' l' k i < 64 := by
  have h1 := letter_in hv i
  have h2 := letter_in hv' i
  unfold mixF
  have : (k = 0 ∧ j = 6) ∨ (k = 1 ∧ j = 5) ∨ (k = 2 ∧ j = 4) ∨ (k = 3 ∧ j = 3) ∨ (k = 4 ∧ j = 2) ∨ (k = 5 ∧ j = 1) ∨ (k = 6 ∧ j = 0) := by omega
  rcases this with ⟨rfl, rfl⟩ | ⟨rfl, rfl⟩ | ⟨rfl, rfl⟩ | ⟨rfl, rfl⟩ | ⟨rfl, rfl⟩ | ⟨rfl, rfl⟩ | ⟨rfl, rfl⟩ <;> omega

set_option maxRecDepth 100000 in
set_option maxHeartbeats 1000000 in
/-- The letter of a valid word at a place, asked for. -/
theorem same_ok (A B : Option Addr) (n c m d : Nat) (s l : List Int) (j : Nat) (want : Int) (w : World) (ha : Ints w A n s) (hb : Ints w B m l) (hn : n ≤ 100000) (hm : m ≤ 100000) (hj : j ≤ 4398046511104) (hv : validB 6 s l = true) (hw : at_ s l j = want) :
    Calls Tryd.prog 39 #[.agg #[.slice A n c, .slice B m d], .int .i64 0, .int .i64 j, .int .i64 want] w fun e w' => e = .returned (.bool true) ∧ Below w.heap.size w w' := by
  have HAt := Lib.hid (fun W (hW : Below w.heap.size w W) => At_any A B n c m d s l j W (ha.below hW) (hb.below hW) hn hm (by omega))
  rw [atR_pos hv, hw] at HAt
  clear ha hb
  go_enter Tryd.func39, Tryd.ntmps39
  go_wp2_with fail
  refine (HAt.out _ ((Below.refl _ _).alloc (Nat.le_refl _) _)).mono ?_
  rintro e w1 ⟨rfl, hb1⟩
  go_wp2_with fail
  go_ret
  exact ⟨rfl, ((Below.refl _ _).alloc (Nat.le_refl _) _).trans (hb1.mono (by simp))⟩

end Go.Proofs.YtnkmmmagdmnngaaDoor.Wd
