/-
  Same of package word, where a word is not valid.
-/
import Derived.Test.YteidikkeoaolgaaDoorWdSame
namespace Go.Proofs.YteidikkeoaolgaaDoor.Wd
open Go.RowKit
set_option linter.unusedVariables false

set_option maxRecDepth 100000 in
set_option maxHeartbeats 800000 in
theorem Same_bad1 (v u : Value) (s l s' l' : List Int) (w : World) (h : IsWord w v s l) (h' : IsWord w u s' l') (h1 : s.length + l.length ≤ 100000) (h1' : s'.length + l'.length ≤ 100000) (hv : validB 6 s l = false) :
    Calls Tryd.prog 11 #[v, u] w fun e w' => e = .returned (.tuple #[.bool false, .int .i64 1]) ∧ Below w.heap.size w w' := by
  obtain ⟨A, n, c, B, m, d, rfl, ha, hb, hnc, hmd⟩ := h
  obtain ⟨A', n', c', B', m', d', rfl, ha', hb', hnc', hmd'⟩ := h'
  have HE := Lib.hid (show n ≤ 100000 ∧ m ≤ 100000 by have := ha.1; have := hb.1; omega)
  have HV := Lib.hid hv
  clear h1 h1' hv
  go_enter Tryd.func11, Tryd.ntmps11
  go_wp2_with fail
  refine (valid_any A B n c m d 6 s l _ ((ha.alloc _).alloc _) ((hb.alloc _).alloc _) HE.out.1 HE.out.2).mono ?_
  rintro e w1 ⟨rfl, hb1⟩
  rw [HV.out]
  go_wp2_with fail
  go_ret2
  exact ⟨rfl, (((Below.refl _ _).alloc (Nat.le_refl _) _).alloc (by simp) _).trans (hb1.mono (by simp; omega))⟩

set_option maxRecDepth 100000 in
set_option maxHeartbeats 800000 in
theorem Same_bad2 (v u : Value) (s l s' l' : List Int) (w : World) (h : IsWord w v s l) (h' : IsWord w u s' l') (h1 : s.length + l.length ≤ 100000) (h1' : s'.length + l'.length ≤ 100000) (hv : validB 6 s l = true) (hv' : validB 6 s' l' = false) :
    Calls Tryd.prog 11 #[v, u] w fun e w' => e = .returned (.tuple #[.bool false, .int .i64 1]) ∧ Below w.heap.size w w' := by
  obtain ⟨A, n, c, B, m, d, rfl, ha, hb, hnc, hmd⟩ := h
  obtain ⟨A', n', c', B', m', d', rfl, ha', hb', hnc', hmd'⟩ := h'
  have HE := Lib.hid (show (n ≤ 100000 ∧ m ≤ 100000) ∧ n' ≤ 100000 ∧ m' ≤ 100000 by have := ha.1; have := hb.1; have := ha'.1; have := hb'.1; omega)
  have HV := Lib.hid hv
  have HV' := Lib.hid hv'
  clear h1 h1' hv hv'
  go_enter Tryd.func11, Tryd.ntmps11
  go_wp2_with fail
  refine (valid_any A B n c m d 6 s l _ ((ha.alloc _).alloc _) ((hb.alloc _).alloc _) HE.out.1.1 HE.out.1.2).mono ?_
  rintro e w1 ⟨rfl, hb1⟩
  rw [HV.out]
  obtain ⟨⟨p0, p1, p2, p3⟩, _, hz⟩ := boxes hb1
  go_wp2_with fail
  refine (valid_any A' B' n' c' m' d' 6 s' l' _ (((ha'.alloc _).alloc _).below hb1) (((hb'.alloc _).alloc _).below hb1) HE.out.2.1 HE.out.2.2).mono ?_
  rintro e w2 ⟨rfl, hb2⟩
  rw [HV'.out]
  go_wp2_with fail
  go_ret2
  exact ⟨rfl, (((Below.refl _ _).alloc (Nat.le_refl _) _).alloc (by simp) _).trans ((hb1.trans (hb2.mono hb1.size)).mono (by simp; omega))⟩

/-- All that Same answers where a word is not valid. -/
theorem Same_bad (v u : Value) (s l s' l' : List Int) (w : World) (h : IsWord w v s l) (h' : IsWord w u s' l') (h1 : s.length + l.length ≤ 100000) (h1' : s'.length + l'.length ≤ 100000) (hv : ¬ (validB 6 s l = true ∧ validB 6 s' l' = true)) :
    Calls Tryd.prog 11 #[v, u] w fun e w' => e = .returned (.tuple #[.bool false, .int .i64 1]) ∧ Below w.heap.size w w' := by
  cases hs : validB 6 s l
  · exact Same_bad1 v u s l s' l' w h h' h1 h1' hs
  · cases hs' : validB 6 s' l'
    · exact Same_bad2 v u s l s' l' w h h' h1 h1' hs hs'
    · exact absurd ⟨hs, hs'⟩ hv

end Go.Proofs.YteidikkeoaolgaaDoor.Wd
