/-
  awake of lodesmanlaw01: the chapter's examples hold.
-/
import Derived.Test.YteidikkeoaolgaaDoorWdPrint
import Derived.Test.YteidikkeoaolgaaDoorWdSame
namespace Go.Proofs.YteidikkeoaolgaaDoor.Wd
open Go.RowKit
set_option linter.unusedVariables false

/-- A list that has just been laid. -/
theorem ints_new (w : World) (xs : List Int) (t : TypeId) : Ints (w.alloc (.cells (xs.map (Value.int .i64)).toArray t)) (some ⟨w.heap.size, 0, none⟩) xs.length xs :=
  ⟨rfl, fun _ => ⟨w.heap.size, 0, rfl, by simp, fun j hj => by
    rw [box_last]
    simp [List.getD_eq_getElem?_getD, List.getElem?_eq_getElem hj]⟩⟩

theorem nf_a : NF (at_ [1, 0] [1, 0, 1, 0]) [] [1, 0] := by
  have h := nf_normal (xs := [1, 0]) (ys := [1, 0, 1, 0]) (p := 2) (j := 2) ⟨by decide, by decide, ⟨by decide, fun i h1 h2 => ?_⟩, fun q h1 h2 hq => ?_⟩ (by decide) (fun i hi => ?_) (.inl rfl)
  · exact h
  · have : i = 2 ∨ i = 3 := by simp at h2; omega
    rcases this with rfl | rfl <;> rfl
  · obtain rfl : q = 1 := by omega
    have := hq.2 1 (by omega) (by decide)
    simp at this
  · have : i = 0 ∨ i = 1 := by omega
    rcases this with rfl | rfl <;> rfl
theorem nf_b : NF (at_ [0] [1, 0]) [] [0, 1] := by
  have h := nf_normal (xs := [0]) (ys := [1, 0]) (p := 2) (j := 1) ⟨by decide, by decide, ⟨by decide, fun i h1 h2 => ?_⟩, fun q h1 h2 hq => ?_⟩ (by decide) (fun i hi => ?_) (.inl rfl)
  · exact h
  · simp at h2; omega
  · obtain rfl : q = 1 := by omega
    have := hq.2 1 (by omega) (by decide)
    simp at this
  · obtain rfl : i = 0 := by omega
    rfl
theorem text_c : (⟨(wordText [1, 0] [0, 3]).toArray⟩ : ByteArray) = ⟨#[49, 32, 48, 32, 40, 32, 48, 32, 51, 32, 41]⟩ := by
  simp [wordText, lettersText, letterText, Lib.decDigits_one]

theorem pair_new (w : World) (xs ys : List Int) (t t' : TypeId) : IsWord ((w.alloc (.cells (xs.map (Value.int .i64)).toArray t)).alloc (.cells (ys.map (Value.int .i64)).toArray t'))
    (.agg #[.slice (some ⟨w.heap.size, 0, none⟩) xs.length xs.length, .slice (some ⟨w.heap.size + 1, 0, none⟩) ys.length ys.length]) xs ys := by
  refine ⟨_, _, _, _, _, _, rfl, (ints_new w xs t).alloc _, ?_, Nat.le_refl _, Nat.le_refl _⟩
  have := ints_new (w.alloc (.cells (xs.map (Value.int .i64)).toArray t)) ys t'
  simpa using this
theorem lone_new (w : World) (ys : List Int) (t : TypeId) : IsWord (w.alloc (.cells (ys.map (Value.int .i64)).toArray t)) (.agg #[.slice none 0 0, .slice (some ⟨w.heap.size, 0, none⟩) ys.length ys.length]) [] ys :=
  ⟨_, _, _, _, _, _, rfl, Ints.none_, ints_new w ys t, Nat.le_refl _, Nat.le_refl _⟩

/-- The two words of the first two examples, and that of the third. -/
theorem pair_a (w : World) : IsWord ((w.alloc (.cells #[.int .i64 1, .int .i64 0] 3)).alloc (.cells #[.int .i64 1, .int .i64 0, .int .i64 1, .int .i64 0] 3))
    (.agg #[.slice (some ⟨w.heap.size, 0, none⟩) 2 2, .slice (some ⟨w.heap.size + 1, 0, none⟩) 4 4]) [1, 0] [1, 0, 1, 0] := pair_new w [1, 0] [1, 0, 1, 0] _ _
theorem pair_b (w : World) (g : Nat) (hg : w.heap.size = g) : IsWord ((w.alloc (.cells #[.int .i64 0] 3)).alloc (.cells #[.int .i64 1, .int .i64 0] 3))
    (.agg #[.slice (some ⟨g, 0, none⟩) 1 1, .slice (some ⟨g + 1, 0, none⟩) 2 2]) [0] [1, 0] := by subst hg; exact pair_new w [0] [1, 0] _ _
theorem pair_c (w : World) (g : Nat) (hg : w.heap.size = g) : Ints ((w.alloc (.cells #[.int .i64 1, .int .i64 0] 3)).alloc (.cells #[.int .i64 0, .int .i64 3] 3)) (some ⟨g, 0, none⟩) 2 [1, 0] ∧
    Ints ((w.alloc (.cells #[.int .i64 1, .int .i64 0] 3)).alloc (.cells #[.int .i64 0, .int .i64 3] 3)) (some ⟨g + 1, 0, none⟩) 2 [0, 3] := by
  subst hg
  exact ⟨(ints_new w [1, 0] _).alloc _, by simpa using ints_new (w.alloc (.cells #[.int .i64 1, .int .i64 0] 3)) [0, 3] 3⟩
theorem lone_a (w : World) : IsWord (w.alloc (.cells #[.int .i64 1, .int .i64 0] 3)) (.agg #[.slice none 0 0, .slice (some ⟨w.heap.size, 0, none⟩) 2 2]) [] [1, 0] := lone_new w [1, 0] _
theorem lone_b (w : World) : IsWord (w.alloc (.cells #[.int .i64 0, .int .i64 1] 3)) (.agg #[.slice none 0 0, .slice (some ⟨w.heap.size, 0, none⟩) 2 2]) [] [0, 1] := lone_new w [0, 1] _

set_option maxRecDepth 100000 in
set_option maxHeartbeats 1000000 in
theorem awake_any (w : World) :
    Calls Tryd.prog 10 #[] w fun e w' => e = .returned (.bool true) ∧ Below w.heap.size w w' := by
  go_enter Tryd.func10, Tryd.ntmps10
  go_wp2_with fail
  refine (Normal_good _ _ _ _ (pair_a w) (by decide) (by decide)).mono ?_
  rintro e w1 ⟨A1, n1, c1, B1, m1, d1, s1, l1, rfl, ⟨ha1, hb1, hnc1, hmd1⟩, HN1, hw1⟩
  have HW1 := Lib.hid (show IsWord w1 (.agg #[.slice A1 n1 c1, .slice B1 m1 d1]) [] [1, 0] by
    obtain ⟨rfl, rfl⟩ := HN1.out.1.unique nf_a
    exact ⟨_, _, _, _, _, _, rfl, ha1, hb1, hnc1, hmd1⟩)
  have hb01 : Below w.heap.size w w1 := (((Below.refl _ _).alloc (Nat.le_refl _) _).alloc (by simp) _).trans (hw1.mono (by simp; omega))
  clear ha1 hb1 hnc1 hmd1 HN1 hw1
  go_wp2_with fail
  refine (Normal_good _ _ _ _ (pair_b (w1.alloc (.cells #[.slice A1 n1 c1, .slice B1 m1 d1] 24)) (w1.heap.size + 1) (by simp)) (by decide) (by decide)).mono ?_
  rintro e w2 ⟨A2, n2, c2, B2, m2, d2, s2, l2, rfl, ⟨ha2, hb2, hnc2, hmd2⟩, HN2, hw2⟩
  have HW2 := Lib.hid (show IsWord w2 (.agg #[.slice A2 n2 c2, .slice B2 m2 d2]) [] [0, 1] by
    obtain ⟨rfl, rfl⟩ := HN2.out.1.unique nf_b
    exact ⟨_, _, _, _, _, _, rfl, ha2, hb2, hnc2, hmd2⟩)
  have hb12 : Below (w1.alloc (.cells #[.slice A1 n1 c1, .slice B1 m1 d1] 24)).heap.size (w1.alloc (.cells #[.slice A1 n1 c1, .slice B1 m1 d1] 24)) w2 :=
    (((Below.refl _ _).alloc (Nat.le_refl _) _).alloc (by simp) _).trans (hw2.mono (by simp))
  have z1 : w1.heap.size < w2.heap.size := by have := hb12.size; simp at this; omega
  have t10 : w2.cell? ⟨w1.heap.size, 0, none⟩ = some (.slice A1 n1 c1) := by rw [hb12.cell (by simp), box_last]; rfl
  have t11 : w2.cell? ⟨w1.heap.size, 1, none⟩ = some (.slice B1 m1 d1) := by rw [hb12.cell (by simp), box_last]; rfl
  have HW1' := Lib.hid ((HW1.out.below ((Below.refl _ _).alloc (Nat.le_refl _) _)).below hb12)
  have hb02 : Below w.heap.size w w2 := (hb01.alloc hb01.size _).trans (hb12.mono (by have := hb01.size; simp; omega))
  clear ha2 hb2 hnc2 hmd2 HN2 hw2 HW1 hb12
  go_wp2_with fail
  obtain ⟨i1, i2⟩ := pair_c (w2.alloc (.cells #[.slice A2 n2 c2, .slice B2 m2 d2] 24)) (w2.heap.size + 1) (by simp)
  refine (Print_good _ _ _ _ _ _ _ _ _ i1 i2 (by decide) (by decide) (by decide)).mono ?_
  rintro e w3 ⟨rfl, hw3⟩
  rw [text_c]
  have hb23 : Below (w2.alloc (.cells #[.slice A2 n2 c2, .slice B2 m2 d2] 24)).heap.size (w2.alloc (.cells #[.slice A2 n2 c2, .slice B2 m2 d2] 24)) w3 :=
    (((Below.refl _ _).alloc (Nat.le_refl _) _).alloc (by simp) _).trans (hw3.mono (by simp))
  have z2 : w2.heap.size < w3.heap.size := by have := hb23.size; simp at this; omega
  have y10 : w3.cell? ⟨w1.heap.size, 0, none⟩ = some (.slice A1 n1 c1) := by rw [hb23.cell (by simp; omega), Below.cell ((Below.refl w2.heap.size w2).alloc (Nat.le_refl _) _) z1]; exact t10
  have y11 : w3.cell? ⟨w1.heap.size, 1, none⟩ = some (.slice B1 m1 d1) := by rw [hb23.cell (by simp; omega), Below.cell ((Below.refl w2.heap.size w2).alloc (Nat.le_refl _) _) z1]; exact t11
  have y20 : w3.cell? ⟨w2.heap.size, 0, none⟩ = some (.slice A2 n2 c2) := by rw [hb23.cell (by simp), box_last]; rfl
  have y21 : w3.cell? ⟨w2.heap.size, 1, none⟩ = some (.slice B2 m2 d2) := by rw [hb23.cell (by simp), box_last]; rfl
  have HW1 := Lib.hid ((HW1'.out.below ((Below.refl _ _).alloc (Nat.le_refl _) _)).below hb23)
  have HW2' := Lib.hid ((HW2.out.below ((Below.refl _ _).alloc (Nat.le_refl _) _)).below hb23)
  have hb03 : Below w.heap.size w w3 := (hb02.alloc hb02.size _).trans (hb23.mono (by have := hb02.size; simp; omega))
  clear i1 i2 hw3 t10 t11 hb23 HW1' HW2
  go_wp2_with fail
  refine (written_any _ _ _ _ _ _ _ (HW1.out.below ((Below.refl _ _).alloc (Nat.le_refl _) _)) (lone_a w3) (by decide) (by decide)).mono ?_
  rintro e w4 ⟨rfl, hw4⟩
  rw [show (eqB [] [] && eqB [1, 0] [1, 0]) = true from by decide]
  have hb34 : Below w3.heap.size w3 w4 := ((Below.refl _ _).alloc (Nat.le_refl _) _).trans (hw4.mono (by simp))
  have x20 : w4.cell? ⟨w2.heap.size, 0, none⟩ = some (.slice A2 n2 c2) := by rw [hb34.cell z2]; exact y20
  have x21 : w4.cell? ⟨w2.heap.size, 1, none⟩ = some (.slice B2 m2 d2) := by rw [hb34.cell z2]; exact y21
  have HW2 := Lib.hid (HW2'.out.below hb34)
  have hb04 : Below w.heap.size w w4 := hb03.trans (hb34.mono hb03.size)
  clear hw4 y10 y11 y20 y21 HW1 HW2' hb34 hb03
  go_wp2_with fail
  refine (written_any _ _ _ _ _ _ _ (HW2.out.below ((Below.refl _ _).alloc (Nat.le_refl _) _)) (lone_b w4) (by decide) (by decide)).mono ?_
  rintro e w5 ⟨rfl, hw5⟩
  rw [show (eqB [] [] && eqB [0, 1] [0, 1]) = true from by decide]
  have hb05 : Below w.heap.size w w5 := (hb04.alloc hb04.size _).trans (hw5.mono (by have := hb04.size; simp; omega))
  clear hw5 x20 x21 HW2
  go_wp2_with fail
  go_ret
  exact ⟨rfl, hb05⟩

end Go.Proofs.YteidikkeoaolgaaDoor.Wd
