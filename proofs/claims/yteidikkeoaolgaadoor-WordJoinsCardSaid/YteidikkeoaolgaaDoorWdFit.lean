/-
  fitting of package word and short of the reference: the normal form if it is not too long.
-/
import Derived.Test.YteidikkeoaolgaaDoorWdRest
namespace Go.Proofs.YteidikkeoaolgaaDoor.Wd
open Go.RowKit
set_option linter.unusedVariables false

/-- A result that is the normal form of f, if that has at most 200 letters. -/
def Fit (ok : Bool) (f : Nat → Int) (s' l' : List Int) (code : Int) : Prop :=
  (ok = false ∧ s' = [] ∧ l' = [] ∧ code = 1) ∨ (ok = true ∧ ∃ s l, NF f s l ∧ ((s.length + l.length ≤ 200 ∧ s' = s ∧ l' = l ∧ code = 0) ∨ (200 < s.length + l.length ∧ s' = [] ∧ l' = [] ∧ code = 3)))
theorem Fit.unique {ok : Bool} {f : Nat → Int} {a b a' b' : List Int} {c c' : Int} (h : Fit ok f a b c) (h' : Fit ok f a' b' c') : a = a' ∧ b = b' ∧ c = c' := by
  rcases h with ⟨e, rfl, rfl, rfl⟩ | ⟨e, s, l, hn, h⟩
  · rcases h' with ⟨e', rfl, rfl, rfl⟩ | ⟨e', _⟩
    · exact ⟨rfl, rfl, rfl⟩
    · rw [e] at e'; cases e'
  · rcases h' with ⟨e', _⟩ | ⟨e', s', l', hn', h'⟩
    · rw [e] at e'; cases e'
    · obtain ⟨rfl, rfl⟩ := hn.unique hn'
      rcases h with ⟨h0, rfl, rfl, rfl⟩ | ⟨h0, rfl, rfl, rfl⟩ <;> rcases h' with ⟨h1, rfl, rfl, rfl⟩ | ⟨h1, rfl, rfl, rfl⟩
      · exact ⟨rfl, rfl, rfl⟩
      · omega
      · omega
      · exact ⟨rfl, rfl, rfl⟩

/-- What a function with such a result returns. -/
def ResF (w w' : World) (ok : Bool) (f : Nat → Int) (e : Ending) : Prop :=
  ∃ A' n' c' B' m' d' s' l' code, e = .returned (.tuple #[.agg #[.slice A' n' c', .slice B' m' d'], .int .i64 code]) ∧
    (Ints w' A' n' s' ∧ Ints w' B' m' l' ∧ n' ≤ c' ∧ m' ≤ d') ∧ Hid (Fit ok f s' l' code ∧ s'.length ≤ 100000 ∧ l'.length ≤ 100000) ∧ Below w.heap.size w w'
theorem ResF.bad {w w' : World} {f : Nat → Int} {ok : Bool} (hb : Below w.heap.size w w') (h : ok = false) : ResF w w' ok f (.returned (.tuple #[.agg #[.slice none 0 0, .slice none 0 0], .int .i64 1])) :=
  ⟨none, 0, 0, none, 0, 0, [], [], 1, rfl, ⟨Ints.none_, Ints.none_, Nat.le_refl _, Nat.le_refl _⟩, ⟨.inl ⟨h, rfl, rfl, rfl⟩, by simp, by simp⟩, hb⟩
theorem ResF.full {w w' : World} {f : Nat → Int} {s l : List Int} (hb : Below w.heap.size w w') (hn : NF f s l) (h : 200 < s.length + l.length) : ResF w w' true f (.returned (.tuple #[.agg #[.slice none 0 0, .slice none 0 0], .int .i64 3])) :=
  ⟨none, 0, 0, none, 0, 0, [], [], 3, rfl, ⟨Ints.none_, Ints.none_, Nat.le_refl _, Nat.le_refl _⟩, ⟨.inr ⟨rfl, s, l, hn, .inr ⟨h, rfl, rfl, rfl⟩⟩, by simp, by simp⟩, hb⟩

set_option maxRecDepth 100000 in
set_option maxHeartbeats 800000 in
theorem fitting_any (A B : Option Addr) (n c m d : Nat) (s l : List Int) (f : Nat → Int) (w : World) (ha : Ints w A n s) (hb : Ints w B m l) (hn : n ≤ 100000) (hm : m ≤ 100000) (hnc : n ≤ c) (hmd : m ≤ d) (hN : Hid (NF f s l)) :
    Calls Tryd.prog 57 #[.agg #[.slice A n c, .slice B m d]] w fun e w' => ResF w w' true f e := by
  have HX := Lib.hid ha.1
  have HY := Lib.hid hb.1
  by_cases hl : 200 < n + m
  · go_enter Tryd.func57, Tryd.ntmps57
    go_wp2_with fail
    refine (size_any A B n c m d _ hn hm).mono ?_
    rintro e w1 ⟨rfl, hb1⟩
    obtain ⟨hc, hf⟩ := bcell hb1
    have hz : w.heap.size + 1 < w1.heap.size := by have := hb1.size; simp at this; omega
    have hd : decide (200 < (n : Int) + m) = true := by simp; omega
    go_wp2_with fail
    refine bodyPost_ret (v := .tuple #[.agg #[.slice none 0 0, .slice none 0 0], .int .i64 3]) (by simp [results, Tryd.results57, go_sem, hc]) rfl ?_
    exact ResF.full ((((((Below.refl _ _).alloc (Nat.le_refl _) _).alloc (by simp) _).trans (hb1.mono (by simp; omega))).setCell (by simp) _).setCell (by simp) _) hN.out (by rw [HX.out, HY.out]; exact hl)
  · go_enter Tryd.func57, Tryd.ntmps57
    go_wp2_with fail
    refine (size_any A B n c m d _ hn hm).mono ?_
    rintro e w1 ⟨rfl, hb1⟩
    obtain ⟨hc, hf⟩ := bcell hb1
    have hz : w.heap.size + 1 < w1.heap.size := by have := hb1.size; simp at this; omega
    have hz0 : w.heap.size < w1.heap.size := by omega
    have hd : decide (200 < (n : Int) + m) = false := by simp; omega
    have p0 : w1.cell? ⟨w.heap.size, 0, none⟩ = some (.slice A n c) := by rw [hc _ _ (by simp; omega)]; simp [go_sem]
    have p1 : w1.cell? ⟨w.heap.size, 1, none⟩ = some (.slice B m d) := by rw [hc _ _ (by simp; omega)]; simp [go_sem]
    have r0 : w1.cell? ⟨w.heap.size + 1, 0, none⟩ = some (.slice none 0 0) := by rw [hc _ _ (by simp)]; simp [go_sem]
    have r1 : w1.cell? ⟨w.heap.size + 1, 1, none⟩ = some (.slice none 0 0) := by rw [hc _ _ (by simp)]; simp [go_sem]
    have k0 : w1.frozen? ⟨w.heap.size + 1, 0, none⟩ = false := by rw [hf _ _ (by simp)]; simp [go_sem]
    have k1 : w1.frozen? ⟨w.heap.size + 1, 1, none⟩ = false := by rw [hf _ _ (by simp)]; simp [go_sem]
    have ha1 := Lib.hid (((ha.alloc _).alloc _).below hb1)
    have hb1' := Lib.hid (((hb.alloc _).alloc _).below hb1)
    clear hc hf
    go_wp2_with fail
    refine bodyPost_ret (v := .tuple #[.agg #[.slice A n c, .slice B m d], .int .i64 0]) (by simp [results, Tryd.results57, go_sem, r0, r1]) rfl ?_
    have r1' := (World.cell?_setCell_other w1 ⟨w.heap.size + 1, 0, none⟩ ⟨w.heap.size + 1, 1, none⟩ (.slice A n c) (by simp)).trans r1
    refine ⟨A, n, c, B, m, d, s, l, 0, rfl, ⟨(ha1.out.set r0 (by simp) _).set r1' (by simp) _, (hb1'.out.set r0 (by simp) _).set r1' (by simp) _, hnc, hmd⟩, ⟨.inr ⟨rfl, s, l, hN.out, .inl ⟨by rw [HX.out, HY.out]; omega, rfl, rfl, rfl⟩⟩, by rw [HX.out]; exact hn, by rw [HY.out]; exact hm⟩, ?_⟩
    exact (((((Below.refl _ _).alloc (Nat.le_refl _) _).alloc (by simp) _).trans (hb1.mono (by simp; omega))).setCell (by simp) _).setCell (by simp) _

set_option maxRecDepth 100000 in
set_option maxHeartbeats 1000000 in
theorem short_any (A B : Option Addr) (n c m d : Nat) (s l : List Int) (w : World) (ha : Ints w A n s) (hb : Ints w B m l) (hn : n ≤ 100000) (hm : m ≤ 100000) (hm0 : 0 < m) (hnc : n ≤ c) (hmd : m ≤ d) :
    Calls Tryd.prog 59 #[.agg #[.slice A n c, .slice B m d]] w fun e w' => ResF w w' true (at_ s l) e := by
  go_enter Tryd.func59, Tryd.ntmps59
  go_wp2_with fail
  refine (norm_parts A B n c m d s l _ ((ha.alloc _).alloc _) ((hb.alloc _).alloc _) hn hm hm0 hnc hmd).mono ?_
  rintro e w1 ⟨A', n', c', B', m', d', s', l', rfl, ⟨ha', hb', hnc', hmd'⟩, HN, hb1⟩
  obtain ⟨hc, hf⟩ := bcell hb1
  have hz : w.heap.size + 1 < w1.heap.size := by have := hb1.size; simp at this; omega
  have hz0 : w.heap.size < w1.heap.size := by omega
  have hn' : n' ≤ 100000 := by have := HN.out; have := ha'.1; omega
  have hm' : m' ≤ 100000 := by have := HN.out; have := hb'.1; omega
  have HX := Lib.hid ha'.1
  have HY := Lib.hid hb'.1
  have p0 : w1.cell? ⟨w.heap.size, 0, none⟩ = some (.slice A n c) := by rw [hc _ _ (by simp; omega)]; simp [go_sem]
  have p1 : w1.cell? ⟨w.heap.size, 1, none⟩ = some (.slice B m d) := by rw [hc _ _ (by simp; omega)]; simp [go_sem]
  have p2 : w1.frozen? ⟨w.heap.size, 0, none⟩ = false := by rw [hf _ _ (by simp; omega)]; simp [go_sem]
  have p3 : w1.frozen? ⟨w.heap.size, 1, none⟩ = false := by rw [hf _ _ (by simp; omega)]; simp [go_sem]
  have r0 : w1.cell? ⟨w.heap.size + 1, 0, none⟩ = some (.slice none 0 0) := by rw [hc _ _ (by simp)]; simp [go_sem]
  have r1 : w1.cell? ⟨w.heap.size + 1, 1, none⟩ = some (.slice none 0 0) := by rw [hc _ _ (by simp)]; simp [go_sem]
  have k0 : w1.frozen? ⟨w.heap.size + 1, 0, none⟩ = false := by rw [hf _ _ (by simp)]; simp [go_sem]
  have k1 : w1.frozen? ⟨w.heap.size + 1, 1, none⟩ = false := by rw [hf _ _ (by simp)]; simp [go_sem]
  clear hc hf ha hb
  have hbw : Below w.heap.size w w1 := (((Below.refl _ _).alloc (Nat.le_refl _) _).alloc (by simp) _).trans (hb1.mono (by simp; omega))
  obtain ⟨W2, hW2⟩ : ∃ W2, (w1.setCell ⟨w.heap.size, 0, none⟩ (.slice A' n' c')).setCell ⟨w.heap.size, 1, none⟩ (.slice B' m' d') = W2 := ⟨_, rfl⟩
  have t1 := (World.cell?_setCell_other w1 ⟨w.heap.size, 0, none⟩ ⟨w.heap.size, 1, none⟩ (.slice A' n' c') (by simp)).trans p1
  have ha2 := Lib.hid ((ha'.set p0 (by simp) (.slice A' n' c')).set t1 (by simp) (.slice B' m' d'))
  have hb2 := Lib.hid ((hb'.set p0 (by simp) (.slice A' n' c')).set t1 (by simp) (.slice B' m' d'))
  have hbW : Hid (Below w.heap.size w W2) := by rw [← hW2]; exact (hbw.setCell (by simp) _).setCell (by simp) _
  have HW2 := Lib.hid hW2
  rw [hW2] at ha2 hb2
  have x0 : W2.cell? ⟨w.heap.size + 1, 0, none⟩ = some (.slice none 0 0) := by rw [← hW2]; simp [go_sem, r0]
  have x1 : W2.cell? ⟨w.heap.size + 1, 1, none⟩ = some (.slice none 0 0) := by rw [← hW2]; simp [go_sem, r1]
  have X0 := Lib.hid x0
  have X1 := Lib.hid x1
  clear hW2 x0 x1 t1
  by_cases hl : 200 < n' + m'
  · have hd : decide (200 < (n' : Int) + m') = true := by simp; omega
    go_wp2_with fail
    refine bodyPost_ret (v := .tuple #[.agg #[.slice none 0 0, .slice none 0 0], .int .i64 3]) (by simp [results, Tryd.results59, go_sem, r0, r1]) rfl ?_
    rw [HW2.out]
    exact ResF.full ((hbW.out.setCell (by simp) _).setCell (by simp) _) HN.out.1 (by rw [HX.out, HY.out]; exact hl)
  · have hd : decide (200 < (n' : Int) + m') = false := by simp; omega
    go_wp2_with fail
    refine bodyPost_ret (v := .tuple #[.agg #[.slice A' n' c', .slice B' m' d'], .int .i64 0]) (by simp [results, Tryd.results59, go_sem, r0, r1]) rfl ?_
    rw [HW2.out]
    have r1' := (World.cell?_setCell_other W2 ⟨w.heap.size + 1, 0, none⟩ ⟨w.heap.size + 1, 1, none⟩ (.slice A' n' c') (by simp)).trans X1.out
    refine ⟨A', n', c', B', m', d', s', l', 0, rfl, ⟨(ha2.out.set X0.out (by simp) _).set r1' (by simp) _, (hb2.out.set X0.out (by simp) _).set r1' (by simp) _, hnc', hmd'⟩, ⟨.inr ⟨rfl, s', l', HN.out.1, .inl ⟨by rw [HX.out, HY.out]; omega, rfl, rfl, rfl⟩⟩, by rw [HX.out]; exact hn', by rw [HY.out]; exact hm'⟩, ?_⟩
    exact (hbW.out.setCell (by simp) _).setCell (by simp) _

end Go.Proofs.YteidikkeoaolgaaDoor.Wd
