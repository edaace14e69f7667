/-
  WordLeast of lodesmanlaw01: the walk.
-/
import Derived.Test.YtnkmmmagdmnngaaDoorWdAwake
import Derived.Test.YtnkmmmagdmnngaaDoorWdFew
import Derived.Test.YtnkmmmagdmnngaaDoorWdSame2
import Derived.Test.YtnkmmmagdmnngaaDoorWdSame3
namespace Go.Proofs.YtnkmmmagdmnngaaDoor.Wd
open Go.RowKit
set_option linter.unusedVariables false

/-- The variadic call of Few with two words. -/
theorem few_two (A B A' B' : Option Addr) (n c m d n' c' m' d' most g : Nat) (w : World) (t : TypeId) (hg : w.heap.size = g) (h1 : n ≤ 17592186044416 ∧ m ≤ 17592186044416) (h2 : n' ≤ 17592186044416 ∧ m' ≤ 17592186044416) (hm : most ≤ 1000) :
    Calls Tryd.prog 13 #[.int .i64 most, .slice (some ⟨g, 0, none⟩) 2 2] (w.alloc (.cells #[.slice A n c, .slice B m d, .slice A' n' c', .slice B' m' d'] t))
      fun e w' => e = .returned (.bool (decide (n + m ≤ most) && decide (n' + m' ≤ most))) ∧ Below w.heap.size w w' := by
  subst hg
  refine (Few_any w.heap.size 2 2 most (fun i => if i = 0 then A else A') (fun i => if i = 0 then B else B') (fun i => if i = 0 then n else n') (fun i => if i = 0 then c else c')
    (fun i => if i = 0 then m else m') (fun i => if i = 0 then d else d') (w.alloc (.cells #[.slice A n c, .slice B m d, .slice A' n' c', .slice B' m' d'] t)) (by simp) (by omega) hm ?_ ?_).mono ?_
  · intro i hi
    have : i = 0 ∨ i = 1 := by omega
    rcases this with rfl | rfl
    · exact h1
    · exact h2
  · intro i hi
    have : i = 0 ∨ i = 1 := by omega
    rcases this with rfl | rfl
    · exact ⟨box_last _ _ _ _, box_last _ _ _ _⟩
    · exact ⟨box_last _ _ _ _, box_last _ _ _ _⟩
  · rintro e w1 ⟨rfl, hb⟩
    exact ⟨ret_bool (by simp [fewB, List.range_succ]), ((Below.refl _ _).alloc (Nat.le_refl _) _).trans (hb.mono (by simp))⟩

def errN (b : Bool) : Int := if b = true then 0 else 1
/-- What Normal answers of any word, as far as its error goes. -/
theorem Normal_error (v : Value) (s l : List Int) (w : World) (h : IsWord w v s l) (h1 : s.length + l.length ≤ 100000) :
    Calls Tryd.prog 17 #[v] w fun e w' => ∃ A' n' c' B' m' d', e = .returned (.tuple #[.agg #[.slice A' n' c', .slice B' m' d'], .int .i64 (errN (validB 6 s l))]) ∧ Below w.heap.size w w' := by
  cases hv : validB 6 s l
  · exact (Normal_bad v s l w h h1 hv).mono fun _ _ ⟨he, hb⟩ => ⟨_, _, _, _, _, _, he, hb⟩
  · exact (Normal_good v s l w h h1 hv).mono fun _ _ ⟨A', n', c', B', m', d', _, _, he, _, _, hb⟩ => ⟨_, _, _, _, _, _, he, hb⟩

set_option maxRecDepth 100000 in
set_option maxHeartbeats 1000000 in
theorem least_many (A B A' B' : Option Addr) (n c m d n' c' m' d' : Nat) (w : World) (h1 : n ≤ 17592186044416 ∧ m ≤ 17592186044416) (h2 : n' ≤ 17592186044416 ∧ m' ≤ 17592186044416) (hf : ¬ (n + m ≤ 60 ∧ n' + m' ≤ 60)) :
    Calls Tryd.prog 7 #[.agg #[.slice A n c, .slice B m d], .agg #[.slice A' n' c', .slice B' m' d']] w fun e w' => e = .returned (.bool true) ∧ Below w.heap.size w w' := by
  have HF := Lib.hid (show (decide (n + m ≤ 60) && decide (n' + m' ≤ 60)) = false by simp; omega)
  have H1 := Lib.hid h1
  have H2 := Lib.hid h2
  clear h1 h2 hf
  go_enter Tryd.func7, Tryd.ntmps7
  go_wp2_with fail
  refine (few_two A B A' B' n c m d n' c' m' d' 60 (w.heap.size + 1 + 1) ((w.alloc (.cells #[.slice A n c, .slice B m d] 24)).alloc (.cells #[.slice A' n' c', .slice B' m' d'] 24)) _ (by simp) H1.out H2.out (by omega)).mono ?_
  rintro e w1 ⟨rfl, hb1⟩
  rw [HF.out]
  have hw1 : Below w.heap.size w w1 := (((Below.refl _ _).alloc (Nat.le_refl _) _).alloc (by simp) _).trans (hb1.mono (by simp; omega))
  clear hb1
  go_wp2_with fail
  refine (awake_any _).mono ?_
  rintro e w2 ⟨rfl, hb2⟩
  go_wp2_with fail
  go_ret
  exact ⟨rfl, hw1.trans (hb2.mono hw1.size)⟩

set_option maxRecDepth 100000 in
set_option maxHeartbeats 1000000 in
theorem least_invalid (A B A' B' : Option Addr) (n c m d n' c' m' d' : Nat) (s l s' l' : List Int) (w : World) (ha : Ints w A n s) (hb : Ints w B m l) (ha' : Ints w A' n' s') (hb' : Ints w B' m' l') (hnc : n ≤ c) (hmd : m ≤ d) (hnc' : n' ≤ c') (hmd' : m' ≤ d')
    (hf : n + m ≤ 60 ∧ n' + m' ≤ 60) (hv : ¬ (validB 6 s l = true ∧ validB 6 s' l' = true)) :
    Calls Tryd.prog 7 #[.agg #[.slice A n c, .slice B m d], .agg #[.slice A' n' c', .slice B' m' d']] w fun e w' => e = .returned (.bool true) ∧ Below w.heap.size w w' := by
  have HF := Lib.hid (show (decide (n + m ≤ 60) && decide (n' + m' ≤ 60)) = true by simp; omega)
  have HE := Lib.hid (show s.length + l.length ≤ 60 ∧ s'.length + l'.length ≤ 60 by have := ha.1; have := hb.1; have := ha'.1; have := hb'.1; omega)
  have HV := Lib.hid hv
  have HW := Lib.hid (show IsWord w (.agg #[.slice A n c, .slice B m d]) s l from ⟨_, _, _, _, _, _, rfl, ha, hb, hnc, hmd⟩)
  have HW' := Lib.hid (show IsWord w (.agg #[.slice A' n' c', .slice B' m' d']) s' l' from ⟨_, _, _, _, _, _, rfl, ha', hb', hnc', hmd'⟩)
  have hn : n ≤ 60 ∧ m ≤ 60 ∧ n' ≤ 60 ∧ m' ≤ 60 := by omega
  obtain ⟨hn1, hn2, hn3, hn4⟩ := hn
  clear ha hb ha' hb' hf hv hnc hmd hnc' hmd'
  go_enter Tryd.func7, Tryd.ntmps7
  go_wp2_with fail
  refine (few_two A B A' B' n c m d n' c' m' d' 60 (w.heap.size + 1 + 1) ((w.alloc (.cells #[.slice A n c, .slice B m d] 24)).alloc (.cells #[.slice A' n' c', .slice B' m' d'] 24)) _ (by simp) (by omega) (by omega) (by omega)).mono ?_
  rintro e w1 ⟨rfl, hb1⟩
  rw [HF.out]
  have hw1 : Below w.heap.size w w1 := (((Below.refl _ _).alloc (Nat.le_refl _) _).alloc (by simp) _).trans (hb1.mono (by simp; omega))
  obtain ⟨⟨p0, p1, p2, p3⟩, _, hz⟩ := boxes hb1
  go_wp2_with fail
  refine (Normal_error _ s l _ (HW.out.below hw1) (by have := HE.out; omega)).mono ?_
  rintro e w2 ⟨A1, n1, k1, B1, m1, d1, rfl, hb2⟩
  have hb12 := hb1.trans (hb2.mono hb1.size)
  have hw2 := hw1.trans (hb2.mono hw1.size)
  clear p0 p1 p2 p3 hz
  obtain ⟨⟨p0, p1, p2, p3⟩, _, hz⟩ := boxes hb12
  have hbw2 := Below.refl w2.heap.size w2
  go_wp2_with fail
  refine (Normal_error _ s' l' _ (HW'.out.below (hw2.alloc hw2.size _)) (by have := HE.out; omega)).mono ?_
  rintro e w3 ⟨A2, n2, k2, B2, m2, d2, rfl, hb3⟩
  have hb13 := hb12.trans ((((Below.refl _ _).alloc (Nat.le_refl _) _).trans (hb3.mono (by simp))).mono hb12.size)
  have hw3 := (hw2.alloc hw2.size _).trans (hb3.mono (by have := hw2.size; simp; omega))
  clear p0 p1 p2 p3 hz
  obtain ⟨⟨p0, p1, p2, p3⟩, _, hz⟩ := boxes hb13
  have hz' : w.heap.size < w3.heap.size := by omega
  go_wp2_with fail
  refine (Same_bad _ _ s l s' l' _ (HW.out.below (hw3.alloc hw3.size _)) (HW'.out.below (hw3.alloc hw3.size _)) (by have := HE.out; omega) (by have := HE.out; omega) HV.out).mono ?_
  rintro e w4 ⟨rfl, hb4⟩
  have hw4 := (hw3.alloc hw3.size _).trans (hb4.mono (by have := hw3.size; simp; omega))
  clear p0 p1 p2 p3 hz hz' hb12 hb13 hb1 hb2 hb3 hb4 hw1 hw2 hw3 hbw2
  have hor : errN (validB 6 s l) = 1 ∨ errN (validB 6 s l) = 0 ∧ errN (validB 6 s' l') = 1 := by
    cases h1 : validB 6 s l
    · left; rfl
    · right
      cases h2 : validB 6 s' l'
      · exact ⟨rfl, rfl⟩
      · exact absurd ⟨h1, h2⟩ HV.out
  generalize errN (validB 6 s l) = x at *
  generalize errN (validB 6 s' l') = y at *
  rcases hor with rfl | ⟨rfl, rfl⟩
  all_goals
    go_wp2_with fail
    refine (awake_any _).mono ?_
    rintro e w5 ⟨rfl, hb5⟩
    go_wp2_with fail
    go_ret
    exact ⟨rfl, hw4.trans (hb5.mono hw4.size)⟩

end Go.Proofs.YtnkmmmagdmnngaaDoor.Wd
