/-
  Normal of the reference; both Normals in one form.
-/
import Derived.Test.YtnkmmmagdmnngaaDoorWdNorm
import Derived.Test.YtnkmmmagdmnngaaDoorWdRefAt
namespace Go.Proofs.YtnkmmmagdmnngaaDoor.Wd
open Go.RowKit
set_option linter.unusedVariables false

/-- The word of a result: the normal form of the letters f, or the empty word. -/
def Out (ok : Bool) (f : Nat → Int) (s l : List Int) : Prop := if ok = true then NF f s l else s = [] ∧ l = []
theorem Out.unique {ok : Bool} {f : Nat → Int} {s l s' l' : List Int} (h : Out ok f s l) (h' : Out ok f s' l') : s = s' ∧ l = l' := by
  unfold Out at h h'
  cases ok
  · simp at h h'
    exact ⟨h.1.trans h'.1.symm, h.2.trans h'.2.symm⟩
  · simp at h h'
    exact h.unique h'
theorem out_good {f : Nat → Int} {s l : List Int} (h : NF f s l) : Out true f s l := by simpa [Out] using h
theorem out_bad {f : Nat → Int} : Out false f [] [] := by simp [Out]

/-- What a function that returns a word and an error returns. -/
def Res (w w' : World) (R : List Int → List Int → Prop) (code : Int) (e : Ending) : Prop :=
  ∃ A' n' c' B' m' d' s' l', e = .returned (.tuple #[.agg #[.slice A' n' c', .slice B' m' d'], .int .i64 code]) ∧
    (Ints w' A' n' s' ∧ Ints w' B' m' l' ∧ n' ≤ c' ∧ m' ≤ d') ∧ Hid (R s' l' ∧ s'.length ≤ 100000 ∧ l'.length ≤ 100000) ∧ Below w.heap.size w w'

def codeN (ok : Bool) : Int := if ok = true then 0 else 1

theorem Normal_any (A B : Option Addr) (n c m d : Nat) (s l : List Int) (w : World) (ha : Ints w A n s) (hb : Ints w B m l) (h1 : n + m ≤ 100000) (hnc : n ≤ c) (hmd : m ≤ d) :
    Calls Tryd.prog 17 #[.agg #[.slice A n c, .slice B m d]] w fun e w' => Res w w' (Out (validB 6 s l) (at_ s l)) (codeN (validB 6 s l)) e := by
  have e1 := ha.1
  have e2 := hb.1
  cases hv : validB 6 s l
  · exact (Normal_bad _ s l w ⟨A, n, c, B, m, d, rfl, ha, hb, hnc, hmd⟩ (by omega) hv).mono fun e w' ⟨he, hbw⟩ =>
      ⟨none, 0, 0, none, 0, 0, [], [], he, ⟨Ints.none_, Ints.none_, Nat.le_refl _, Nat.le_refl _⟩, ⟨out_bad, by simp, by simp⟩, hbw⟩
  · exact (Normal_good _ s l w ⟨A, n, c, B, m, d, rfl, ha, hb, hnc, hmd⟩ (by omega) hv).mono fun e w' ⟨A', n', c', B', m', d', s', l', he, hI, hN, hbw⟩ =>
      ⟨A', n', c', B', m', d', s', l', he, hI, ⟨out_good hN.1, by have := hN.2; omega, by have := hN.2; omega⟩, hbw⟩

set_option maxRecDepth 100000 in
set_option maxHeartbeats 800000 in
theorem refNormal_any (A B : Option Addr) (n c m d : Nat) (s l : List Int) (w : World) (ha : Ints w A n s) (hb : Ints w B m l) (h1 : n + m ≤ 100000) (hnc : n ≤ c) (hmd : m ≤ d) :
    Calls Tryd.prog 18 #[.agg #[.slice A n c, .slice B m d]] w fun e w' => Res w w' (Out (validB 6 s l) (at_ s l)) (codeN (validB 6 s l)) e := by
  have e1 := ha.1
  have e2 := hb.1
  have HC := Lib.hid (fun W hW hW' => is_any A B n c m d s l W hW hW' (by omega) (by omega))
  have HN := Lib.hid (fun W hW hW' (h : 0 < m) => norm_any A B n c m d s l W hW hW' (by omega) (by omega) h hnc hmd)
  cases hv : validB 6 s l
  · have HV := Lib.hid hv
    clear e1 e2 h1 hv HN
    go_enter Tryd.func18, Tryd.ntmps18
    go_wp2_with fail
    refine (HC.out _ ((ha.alloc _).alloc _) ((hb.alloc _).alloc _)).mono ?_
    rintro e w1 ⟨rfl, hb1⟩
    rw [HV.out]
    obtain ⟨hc, hf⟩ := bcell hb1
    have hz : w.heap.size + 1 < w1.heap.size := by have := hb1.size; simp at this; omega
    go_wp2_with fail
    refine bodyPost_ret (v := .tuple #[.agg #[.slice none 0 0, .slice none 0 0], .int .i64 1]) (by simp [results, Tryd.results18, go_sem, hc]) rfl ?_
    exact ⟨none, 0, 0, none, 0, 0, [], [], rfl, ⟨Ints.none_, Ints.none_, Nat.le_refl _, Nat.le_refl _⟩, ⟨out_bad, by simp, by simp⟩,
      (((((Below.refl _ _).alloc (Nat.le_refl _) _).alloc (by simp) _).trans (hb1.mono (by simp; omega))).setCell (by simp) _).setCell (by simp) _⟩
  · have hm0 : 0 < m := by have := valid6 hv; omega
    have HV := Lib.hid hv
    have H1 := Lib.hid h1
    clear e1 e2 h1 hv
    go_enter Tryd.func18, Tryd.ntmps18
    go_wp2_with fail
    refine (HC.out _ ((ha.alloc _).alloc _) ((hb.alloc _).alloc _)).mono ?_
    rintro e w1 ⟨rfl, hb1⟩
    rw [HV.out]
    obtain ⟨hc, hf⟩ := bcell hb1
    have hz : w.heap.size + 1 < w1.heap.size := by have := hb1.size; simp at this; omega
    go_wp2_with fail
    refine (HN.out _ (((ha.alloc _).alloc _).below hb1) (((hb.alloc _).alloc _).below hb1) hm0).mono ?_
    rintro e w2 ⟨v, s', l', rfl, ⟨A', n', c', B', m', d', rfl, ha', hb', hnc', hmd'⟩, hNF, hl1, hl2, hb2⟩
    have HNF := Lib.hid hNF
    have HL1 := Lib.hid hl1
    have HL2 := Lib.hid hl2
    have g0 : w2.cell? ⟨w.heap.size + 1, 0, none⟩ = some (.slice none 0 0) := by rw [hb2.cell (by simpa using hz), hc _ _ (by simp)]; simp [go_sem]
    have g1 : w2.cell? ⟨w.heap.size + 1, 1, none⟩ = some (.slice none 0 0) := by rw [hb2.cell (by simpa using hz), hc _ _ (by simp)]; simp [go_sem]
    have k0 : w2.frozen? ⟨w.heap.size + 1, 0, none⟩ = false := by rw [hb2.frozen (by simpa using hz), hf _ _ (by simp)]; simp [go_sem]
    have k1 : w2.frozen? ⟨w.heap.size + 1, 1, none⟩ = false := by rw [hb2.frozen (by simpa using hz), hf _ _ (by simp)]; simp [go_sem]
    have hz2 : w.heap.size + 1 < w2.heap.size := by have := hb2.size; omega
    clear hc hf hNF hl1 hl2
    go_wp2_with fail
    refine bodyPost_ret (v := .tuple #[.agg #[.slice A' n' c', .slice B' m' d'], .int .i64 0]) (by simp [results, Tryd.results18, go_sem, g0, g1]) rfl ?_
    have g1' := (World.cell?_setCell_other w2 ⟨w.heap.size + 1, 0, none⟩ ⟨w.heap.size + 1, 1, none⟩ (.slice A' n' c') (by simp)).trans g1
    refine ⟨A', n', c', B', m', d', s', l', rfl, ⟨(ha'.set g0 (by simp) _).set g1' (by simp) _, (hb'.set g0 (by simp) _).set g1' (by simp) _, hnc', hmd'⟩, ⟨out_good HNF.out, ?_, ?_⟩, ?_⟩
    · have := HL1.out; have := H1.out; omega
    · have := HL2.out; have := H1.out; omega
    · exact (((((Below.refl _ _).alloc (Nat.le_refl _) _).alloc (by simp) _).trans ((hb1.trans (hb2.mono hb1.size)).mono (by simp; omega))).setCell (by simp) _).setCell (by simp) _

end Go.Proofs.YtnkmmmagdmnngaaDoor.Wd
