/-
  Parse of package word.
-/
import Derived.Test.YtnkmmmagdmnngaaDoorWdReadW
namespace Go.Proofs.YtnkmmmagdmnngaaDoor.Wd
open Go.RowKit
set_option linter.unusedVariables false

/-- What parsing a text comes to. -/
def OutP (t : List UInt8) (S L : List Int) (code : Int) : Prop :=
  (16384 < t.length ∧ S = [] ∧ L = [] ∧ code = 3) ∨ (t.length ≤ 16384 ∧ ((parsed 1000 t = some (S, L) ∧ code = 0) ∨ (parsed 1000 t = none ∧ S = [] ∧ L = [] ∧ code = 4)))
theorem OutP.unique {t : List UInt8} {S L S' L' : List Int} {c c' : Int} (h : OutP t S L c) (h' : OutP t S' L' c') : S = S' ∧ L = L' ∧ c = c' := by
  rcases h with ⟨h0, rfl, rfl, rfl⟩ | ⟨h0, ⟨h1, rfl⟩ | ⟨h1, rfl, rfl, rfl⟩⟩ <;> rcases h' with ⟨g0, rfl, rfl, rfl⟩ | ⟨g0, ⟨g1, rfl⟩ | ⟨g1, rfl, rfl, rfl⟩⟩
  all_goals first | omega | exact ⟨rfl, rfl, rfl⟩ | (rw [h1] at g1; cases g1; exact ⟨rfl, rfl, rfl⟩) | (rw [h1] at g1; cases g1)

def ResT (w w' : World) (t : List UInt8) (e : Ending) : Prop :=
  ∃ A n c B m d S L code, e = .returned (.tuple #[.agg #[.slice A n c, .slice B m d], .int .i64 code]) ∧ (Ints w' A n S ∧ Ints w' B m L ∧ n ≤ c ∧ m ≤ d) ∧
    Hid (OutP t S L code ∧ S.length ≤ 100000 ∧ L.length ≤ 100000) ∧ Below w.heap.size w w'
theorem ResT.bad {w w' : World} {t : List UInt8} (hb : Below w.heap.size w w') (code : Int) (h : OutP t [] [] code) : ResT w w' t (.returned (.tuple #[.agg #[.slice none 0 0, .slice none 0 0], .int .i64 code])) :=
  ⟨none, 0, 0, none, 0, 0, [], [], code, rfl, ⟨Ints.none_, Ints.none_, Nat.le_refl _, Nat.le_refl _⟩, ⟨h, by simp, by simp⟩, hb⟩

theorem parsed_of {m : Int} {t : List UInt8} {S L : List Int} (h : rd m (t.length + 1) t 0 [] [] = some (S, L, 2)) : parsed m t = if validB 6 S L = true then some (S, L) else none := by
  unfold parsed
  rw [h]
  simp
theorem parsed_not {m : Int} {t : List UInt8} (h : ∀ S L, rd m (t.length + 1) t 0 [] [] ≠ some (S, L, 2)) : parsed m t = none := by
  unfold parsed
  cases hr : rd m (t.length + 1) t 0 [] [] with
  | none => rfl
  | some r =>
    obtain ⟨S, L, p⟩ := r
    simp only
    rw [if_neg]
    rintro ⟨rfl, _⟩
    exact h S L hr
theorem size_list (s : ByteArray) : s.data.toList.length = s.size := by simp
theorem box_after {w1 : World} {b : Nat} {u v u0 v0 : Value} (o : Obj) (hz : b < w1.heap.size) (r0 : w1.cell? ⟨b, 0, none⟩ = some u0) (r1 : w1.cell? ⟨b, 1, none⟩ = some v0) :
    (((w1.setCell ⟨b, 0, none⟩ u).setCell ⟨b, 1, none⟩ v).alloc o).cell? ⟨b, 0, none⟩ = some u ∧ (((w1.setCell ⟨b, 0, none⟩ u).setCell ⟨b, 1, none⟩ v).alloc o).cell? ⟨b, 1, none⟩ = some v := by
  have hlt : b < ((w1.setCell ⟨b, 0, none⟩ u).setCell ⟨b, 1, none⟩ v).heap.size := by simpa [World.setCell] using hz
  have hal : Below ((w1.setCell ⟨b, 0, none⟩ u).setCell ⟨b, 1, none⟩ v).heap.size ((w1.setCell ⟨b, 0, none⟩ u).setCell ⟨b, 1, none⟩ v) (((w1.setCell ⟨b, 0, none⟩ u).setCell ⟨b, 1, none⟩ v).alloc o) := (Below.refl _ _).alloc (Nat.le_refl _) _
  have g1 := (World.cell?_setCell_other w1 ⟨b, 0, none⟩ ⟨b, 1, none⟩ u (by simp)).trans r1
  exact ⟨(hal.cell hlt).trans ((World.cell?_setCell_other _ ⟨b, 1, none⟩ ⟨b, 0, none⟩ v (by simp)).trans (World.cell?_setCell_same _ _ _ r0)), (hal.cell hlt).trans (World.cell?_setCell_same _ _ _ g1)⟩

set_option maxRecDepth 100000 in
set_option maxHeartbeats 2000000 in
theorem Parse_any (s : ByteArray) (w : World) (hs : s.size ≤ 20000) :
    Calls Tryd.prog 36 #[.string s] w fun e w' => ResT w w' s.data.toList e := by
  by_cases hl : 16384 < s.size
  · have HO := Lib.hid (show OutP s.data.toList [] [] 3 from .inl ⟨by rw [size_list]; exact hl, rfl, rfl, rfl⟩)
    go_enter Tryd.func36, Tryd.ntmps36
    go_wp2_with fail
    refine bodyPost_ret (v := .tuple #[.agg #[.slice none 0 0, .slice none 0 0], .int .i64 3]) (by simp [results, Tryd.results36, go_sem]) rfl ?_
    have hb : Below w.heap.size w (w.alloc (.cells #[.slice none 0 0, .slice none 0 0] 24)) := (Below.refl _ _).alloc (Nat.le_refl _) _
    exact ResT.bad hb 3 HO.out
  · have HL := Lib.hid (show s.data.toList.length ≤ 16384 by rw [size_list]; omega)
    have HS := Lib.hid (size_list s)
    have HRD := Lib.hid (fun W => read_any s W hs)
    go_enter Tryd.func36, Tryd.ntmps36
    go_wp2_with fail
    refine (HRD.out _).mono ?_
    rintro e w1 ⟨A, n, c, B, m, d, S, L, ok, rfl, ⟨ha, hb, hnc, hmd⟩, HR, hb1⟩
    have hbw : Below w.heap.size w w1 := ((Below.refl _ _).alloc (Nat.le_refl _) _).trans (hb1.mono (by simp))
    have hz : w.heap.size < w1.heap.size := by have := hb1.size; simp at this; omega
    have r0 : w1.cell? ⟨w.heap.size, 0, none⟩ = some (.slice none 0 0) := by rw [hb1.cell (by simp), box_last]; rfl
    have r1 : w1.cell? ⟨w.heap.size, 1, none⟩ = some (.slice none 0 0) := by rw [hb1.cell (by simp), box_last]; rfl
    have k0 : w1.frozen? ⟨w.heap.size, 0, none⟩ = false := by rw [hb1.frozen (by simp), box_last_free]
    have k1 : w1.frozen? ⟨w.heap.size, 1, none⟩ = false := by rw [hb1.frozen (by simp), box_last_free]
    have hA := Lib.hid ha
    have hB := Lib.hid hb
    clear ha hb hb1
    cases ok with
    | false =>
      have HO := Lib.hid (show OutP s.data.toList [] [] 4 from .inr ⟨HL.out, .inr ⟨by rw [← parsed_same]; exact parsed_not (by rw [HS.out]; exact HR.out.2.1 rfl), rfl, rfl, rfl⟩⟩)
      have hx := box_after (u := .slice none 0 0) (v := .slice none 0 0) (.cells #[.slice A n c, .slice B m d] 24) hz r0 r1
      go_wp2_with fail
      refine bodyPost_ret (v := .tuple #[.agg #[.slice none 0 0, .slice none 0 0], .int .i64 4]) (by simp [results, Tryd.results36, go_sem, hx.1, hx.2]) rfl ?_
      exact ResT.bad (((hbw.setCell (Nat.le_refl _) _).setCell (Nat.le_refl _) _).alloc (by simp [World.setCell]; omega) _) 4 HO.out
    | true =>
      have hnm : n + m ≤ 50000 := HR.out.2.2
      have HP := Lib.hid (parsed_of (m := 64) (by rw [HS.out]; exact HR.out.1 rfl))
      have hx := hA.out.1
      have hy := hB.out.1
      have HXY := Lib.hid (show S.length ≤ 100000 ∧ L.length ≤ 100000 by omega)
      clear hx hy
      go_wp2_with fail
      refine (valid_any A B n c m d 6 S L _ (hA.out.alloc _) (hB.out.alloc _) (by omega) (by omega)).mono ?_
      rintro e w2 ⟨rfl, hb2⟩
      have hal : Below w1.heap.size w1 w2 := ((Below.refl _ _).alloc (Nat.le_refl _) _).trans (hb2.mono (by simp))
      have hz2 : w.heap.size < w2.heap.size := Nat.lt_of_lt_of_le hz hal.size
      have hz1 : w1.heap.size < w2.heap.size := by have := hb2.size; simp at this; omega
      have s0 := (hal.cell (p := ⟨w.heap.size, 0, none⟩) hz).trans r0
      have s1 := (hal.cell (p := ⟨w.heap.size, 1, none⟩) hz).trans r1
      have l0 := (hal.frozen (p := ⟨w.heap.size, 0, none⟩) hz).trans k0
      have l1 := (hal.frozen (p := ⟨w.heap.size, 1, none⟩) hz).trans k1
      have t0 : w2.cell? ⟨w1.heap.size, 0, none⟩ = some (.slice A n c) := by rw [hb2.cell (by simp), box_last]; rfl
      have t1 : w2.cell? ⟨w1.heap.size, 1, none⟩ = some (.slice B m d) := by rw [hb2.cell (by simp), box_last]; rfl
      have hA2 := Lib.hid (hA.out.below hal)
      have hB2 := Lib.hid (hB.out.below hal)
      have hbw2 := hbw.trans (hal.mono hbw.size)
      clear r0 r1 k0 k1 hb2 hal hbw
      cases hv : validB 6 S L
      · have HO := Lib.hid (show OutP s.data.toList [] [] 4 from .inr ⟨HL.out, .inr ⟨by rw [← parsed_same, HP.out, if_neg (by rw [hv]; decide)], rfl, rfl, rfl⟩⟩)
        go_wp2_with fail
        refine bodyPost_ret (v := .tuple #[.agg #[.slice none 0 0, .slice none 0 0], .int .i64 4]) (by simp [results, Tryd.results36, go_sem, s0, s1]) rfl ?_
        exact ResT.bad ((hbw2.setCell (Nat.le_refl _) _).setCell (Nat.le_refl _) _) 4 HO.out
      · have HO := Lib.hid (show OutP s.data.toList S L 0 from .inr ⟨HL.out, .inl ⟨by rw [← parsed_same, HP.out, if_pos hv], rfl⟩⟩)
        go_wp2_with fail
        refine bodyPost_ret (v := .tuple #[.agg #[.slice A n c, .slice B m d], .int .i64 0]) (by simp [results, Tryd.results36, go_sem, s0, s1]) rfl ?_
        have s1' := (World.cell?_setCell_other w2 ⟨w.heap.size, 0, none⟩ ⟨w.heap.size, 1, none⟩ (.slice A n c) (by simp)).trans s1
        exact ⟨A, n, c, B, m, d, S, L, 0, rfl, ⟨(hA2.out.set s0 (by simp) _).set s1' (by simp) _, (hB2.out.set s0 (by simp) _).set s1' (by simp) _, hnc, hmd⟩, ⟨HO.out, HXY.out⟩, (hbw2.setCell (Nat.le_refl _) _).setCell (Nat.le_refl _) _⟩

end Go.Proofs.YtnkmmmagdmnngaaDoor.Wd
