/-
  Alike and Same of the reference.
-/
import Derived.Test.YteidikkeoaolgaaDoorWdSame2
import Derived.Test.YteidikkeoaolgaaDoorWdSame3
import Derived.Test.YteidikkeoaolgaaDoorWdForms
namespace Go.Proofs.YteidikkeoaolgaaDoor.Wd
open Go.RowKit
set_option linter.unusedVariables false

set_option maxRecDepth 100000 in
set_option maxHeartbeats 4000000 in
theorem alike_any (A B A' B' : Option Addr) (n c m d n' c' m' d' : Nat) (s l s' l' : List Int) (w : World) (ha : Ints w A n s) (hb : Ints w B m l) (ha' : Ints w A' n' s') (hb' : Ints w B' m' l') (hnc : n ≤ c) (hmd : m ≤ d) (hnc' : n' ≤ c') (hmd' : m' ≤ d') (hn : n ≤ 200) (hm : m ≤ 200) (hn' : n' ≤ 200) (hm' : m' ≤ 200) (hm0 : 0 < m) (hm0' : 0 < m') :
    Calls Tryd.prog 54 #[.agg #[.slice A n c, .slice B m d], .agg #[.slice A' n' c', .slice B' m' d']] w fun e w' => ∃ r : Bool, e = .returned (.bool r) ∧ Hid (r = true ↔ at_ s l = at_ s' l') ∧ Below w.heap.size w w' := by
  have hbw : Below w.heap.size w ((w.alloc (.cells #[.slice A n c, .slice B m d] 24)).alloc (.cells #[.slice A' n' c', .slice B' m' d'] 24)) := ((Below.refl _ _).alloc (Nat.le_refl _) _).alloc (by simp) _
  obtain ⟨⟨p0, p1, q0, q1⟩, _, hz⟩ := boxes (Below.refl ((w.alloc (.cells #[.slice A n c, .slice B m d] 24)).alloc (.cells #[.slice A' n' c', .slice B' m' d'] 24)).heap.size ((w.alloc (.cells #[.slice A n c, .slice B m d] 24)).alloc (.cells #[.slice A' n' c', .slice B' m' d'] 24)))
  go_enter Tryd.func54, Tryd.ntmps54
  go_wp2_with fail
  have HA := Lib.hid (ha.below hbw)
  have HB := Lib.hid (hb.below hbw)
  have HA' := Lib.hid (ha'.below hbw)
  have HB' := Lib.hid (hb'.below hbw)
  generalize (w.alloc (.cells #[.slice A n c, .slice B m d] 24)).alloc (.cells #[.slice A' n' c', .slice B' m' d'] 24) = Z at *
  have hz0 : w.heap.size < Z.heap.size := by omega
  clear ha hb ha' hb'
  go_region_held3 (fun V => V.cell? ⟨w.heap.size, 0, none⟩ = some (.slice A n c) ∧ V.cell? ⟨w.heap.size, 1, none⟩ = some (.slice B m d) ∧ V.cell? ⟨w.heap.size + 1, 0, none⟩ = some (.slice A' n' c') ∧ V.cell? ⟨w.heap.size + 1, 1, none⟩ = some (.slice B' m' d'))
    (first
      | (refine ⟨?_, ?_, ?_, ?_⟩
         · rw [k3.cell (by simpa using hz0)]; exact p0
         · rw [k3.cell (by simpa using hz0)]; exact p1
         · rw [k3.cell (by simpa using hz)]; exact q0
         · rw [k3.cell (by simpa using hz)]; exact q1)
      | (refine ⟨?_, ?_, ?_, ?_⟩
         · rw [k2.cell (by simpa using hz0)]; exact p0
         · rw [k2.cell (by simpa using hz0)]; exact p1
         · rw [k2.cell (by simpa using hz)]; exact q0
         · rw [k2.cell (by simpa using hz)]; exact q1)
      | (refine ⟨?_, ?_, ?_, ?_⟩
         · rw [k1.cell (by simpa using hz0)]; exact p0
         · rw [k1.cell (by simpa using hz0)]; exact p1
         · rw [k1.cell (by simpa using hz)]; exact q0
         · rw [k1.cell (by simpa using hz)]; exact q1)
      | go_keep)
    (first
      | (have hgo := k2; clear hgo; go_at_call 49; refine (written_any (.agg #[.slice A1 n1 c1, .slice B1 m1 d1]) (.agg #[.slice A2 n2 c2, .slice B2 m2 d2]) s1 l1 s2 l2 _ ⟨A1, n1, c1, B1, m1, d1, rfl, hw1.1.below b2, hw1.2.1.below b2, hw1.2.2⟩ ⟨A2, n2, c2, B2, m2, d2, rfl, hw2.1, hw2.2.1, hw2.2.2⟩ HL1.out HL2.out).mono ?_; rintro e z3 ⟨rfl, b3⟩; have k3 : Below Z.heap.size Z z3 := k2.trans (b3.mono k2.size))
      | (have hgo := k1; clear hgo; go_at_call 65; refine (norm_parts A' B' n' c' m' d' s' l' _ (HA'.out.below k1) (HB'.out.below k1) (by omega) (by omega) hm0' hnc' hmd').mono ?_; rintro e z2 ⟨A2, n2, c2, B2, m2, d2, s2, l2, rfl, hw2, HN2, b2⟩; have k2 : Below Z.heap.size Z z2 := k1.trans (b2.mono k1.size); have HL2 : Hid (s2.length + l2.length ≤ 100000) := by have := HN2.out; show _ ≤ _; omega)
      | (go_at_call 65; refine (norm_parts A B n c m d s l _ HA.out.drew HB.out.drew (by omega) (by omega) hm0 hnc hmd).mono ?_; rintro e z1 ⟨A1, n1, c1, B1, m1, d1, s1, l1, rfl, hw1, HN1, b1⟩; have k1 : Below Z.heap.size Z z1 := ((Below.refl _ _).drew).trans b1; have HL1 : Hid (s1.length + l1.length ≤ 100000) := by have := HN1.out; show _ ≤ _; omega)
      | fail)
  have HI := Lib.hid (same_iff HN1.out.1 HN2.out.1)
  go_wp2_with fail
  go_ret
  exact ⟨eqB s1 s2 && eqB l1 l2, rfl, HI, hbw.trans (k3.mono hbw.size)⟩

set_option maxRecDepth 100000 in
set_option maxHeartbeats 2000000 in
theorem refSame_any (A B A' B' : Option Addr) (n c m d n' c' m' d' : Nat) (s l s' l' : List Int) (w : World) (ha : Ints w A n s) (hb : Ints w B m l) (ha' : Ints w A' n' s') (hb' : Ints w B' m' l') (hnc : n ≤ c) (hmd : m ≤ d) (hnc' : n' ≤ c') (hmd' : m' ≤ d') (h1 : n + m ≤ 100000) (h1' : n' + m' ≤ 100000) :
    Calls Tryd.prog 12 #[.agg #[.slice A n c, .slice B m d], .agg #[.slice A' n' c', .slice B' m' d']] w fun e w' => ∃ (r : Bool) (code : Int), e = .returned (.tuple #[.bool r, .int .i64 code]) ∧
      Hid (((validB 6 s l && validB 6 s' l') = false ∧ r = false ∧ code = 1) ∨ ((validB 6 s l && validB 6 s' l') = true ∧ (r = true ↔ at_ s l = at_ s' l') ∧ code = 0)) ∧ Below w.heap.size w w' := by
  go_enter Tryd.func12, Tryd.ntmps12
  go_wp2_with fail
  refine (is_any A B n c m d s l _ ((ha.alloc _).alloc _) ((hb.alloc _).alloc _) (by omega) (by omega)).mono ?_
  rintro e w1 ⟨rfl, hb1⟩
  have hbw : Below w.heap.size w w1 := (((Below.refl _ _).alloc (Nat.le_refl _) _).alloc (by simp) _).trans (hb1.mono (by simp; omega))
  obtain ⟨⟨p0, p1, q0, q1⟩, _, hz⟩ := boxes hb1
  cases hv : validB 6 s l
  · have HR := Lib.hid (show (validB 6 s l && validB 6 s' l') = false by rw [hv]; rfl)
    go_wp2_with fail
    go_ret2
    exact ⟨false, 1, rfl, .inl ⟨HR.out, rfl, rfl⟩, hbw⟩
  · have HV := Lib.hid hv
    clear hv
    go_wp2_with fail
    refine (is_any A' B' n' c' m' d' s' l' _ (ha'.below hbw) (hb'.below hbw) (by omega) (by omega)).mono ?_
    rintro e w2 ⟨rfl, hb2⟩
    have hb3 := hb1.trans (hb2.mono hb1.size)
    have hbw2 := hbw.trans (hb2.mono hbw.size)
    clear p0 p1 q0 q1 hz hb1 hb2
    obtain ⟨⟨p0, p1, q0, q1⟩, _, hz⟩ := boxes hb3
    cases hv' : validB 6 s' l'
    · have HR := Lib.hid (show (validB 6 s l && validB 6 s' l') = false by rw [HV.out, hv']; rfl)
      go_wp2_with fail
      go_ret2
      exact ⟨false, 1, rfl, .inl ⟨HR.out, rfl, rfl⟩, hbw2⟩
    · have HR := Lib.hid (show (validB 6 s l && validB 6 s' l') = true by rw [HV.out, hv']; rfl)
      have g1 := valid6 HV.out
      have g2 := valid6 hv'
      have e1 := ha.1
      have e2 := hb.1
      have e3 := ha'.1
      have e4 := hb'.1
      have HALI := Lib.hid (alike_any A B A' B' n c m d n' c' m' d' s l s' l' w2 (ha.below hbw2) (hb.below hbw2) (ha'.below hbw2) (hb'.below hbw2) hnc hmd hnc' hmd' (by omega) (by omega) (by omega) (by omega) (by omega) (by omega))
      clear hv' g1 g2 e1 e2 e3 e4
      go_wp2_with fail
      refine HALI.out.mono ?_
      rintro e w3 ⟨r, rfl, HI, hb4⟩
      go_wp2_with fail
      go_ret2
      exact ⟨r, 0, rfl, .inr ⟨HR.out, HI.out, rfl⟩, hbw2.trans (hb4.mono hbw2.size)⟩

end Go.Proofs.YteidikkeoaolgaaDoor.Wd
