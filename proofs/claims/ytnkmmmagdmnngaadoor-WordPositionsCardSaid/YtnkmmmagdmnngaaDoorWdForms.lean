/-
  WordForms of lodesmanlaw01: the walk.
-/
import Derived.Test.YtnkmmmagdmnngaaDoorWdIs
namespace Go.Proofs.YtnkmmmagdmnngaaDoor.Wd
open Go.RowKit
set_option linter.unusedVariables false

theorem Cells.lt {W : World} {L : List (Addr × Value)} {a : Addr} {v : Value} (h : Cells W ((a, v) :: L)) : a.block < W.heap.size := (h (a, v) (by simp)).1
theorem cells14 {W : World} {a1 a2 a3 a4 a5 a6 a7 a8 a9 a10 a11 a12 a13 a14 : Addr} {v1 v2 v3 v4 v5 v6 v7 v8 v9 v10 v11 v12 v13 v14 : Value}
    (h : Cells W [(a1, v1), (a2, v2), (a3, v3), (a4, v4), (a5, v5), (a6, v6), (a7, v7), (a8, v8), (a9, v9), (a10, v10), (a11, v11), (a12, v12), (a13, v13), (a14, v14)]) :
    W.cell? a1 = some v1 ∧ W.cell? a2 = some v2 ∧ W.cell? a3 = some v3 ∧ W.cell? a4 = some v4 ∧ W.cell? a5 = some v5 ∧ W.cell? a6 = some v6 ∧ W.cell? a7 = some v7 ∧ W.cell? a8 = some v8 ∧ W.cell? a9 = some v9 ∧ W.cell? a10 = some v10 ∧ W.cell? a11 = some v11 ∧ W.cell? a12 = some v12 ∧ W.cell? a13 = some v13 ∧ W.cell? a14 = some v14 :=
  ⟨(h (a1, v1) (by simp)).2, (h (a2, v2) (by simp)).2, (h (a3, v3) (by simp)).2, (h (a4, v4) (by simp)).2, (h (a5, v5) (by simp)).2, (h (a6, v6) (by simp)).2, (h (a7, v7) (by simp)).2, (h (a8, v8) (by simp)).2, (h (a9, v9) (by simp)).2, (h (a10, v10) (by simp)).2, (h (a11, v11) (by simp)).2, (h (a12, v12) (by simp)).2, (h (a13, v13) (by simp)).2, (h (a14, v14) (by simp)).2⟩

/-- A word of a result. -/
def W4 (W : World) (A : Option Addr) (n c : Nat) (B : Option Addr) (m d : Nat) (s l : List Int) : Prop := Ints W A n s ∧ Ints W B m l ∧ n ≤ c ∧ m ≤ d
theorem W4.below {W W' : World} {A B : Option Addr} {n c m d : Nat} {s l : List Int} (h : W4 W A n c B m d s l) (hb : Below W.heap.size W W') : W4 W' A n c B m d s l := ⟨h.1.below hb, h.2.1.below hb, h.2.2⟩

set_option maxRecDepth 100000 in
set_option maxHeartbeats 4000000 in
theorem forms_few (A B : Option Addr) (n c m d : Nat) (s l : List Int) (x k : Int) (w : World) (ha : Ints w A n s) (hb : Ints w B m l) (hnc : n ≤ c) (hmd : m ≤ d) (hf : n + m ≤ 300) (hk : k ≤ 9223372036854775807) :
    Calls Tryd.prog 3 #[.agg #[.slice A n c, .slice B m d], .int .i64 x, .int .i64 k] w fun e w' => e = .returned (.bool true) ∧ Below w.heap.size w w' := by
  have HF := Lib.hid (show decide (n + m ≤ 300) = true by simp; omega)
  have H1 : Hid (n ≤ 17592186044416 ∧ m ≤ 17592186044416) := ⟨by omega, by omega⟩
  have HAt := Lib.hid (fun W (hW : Below w.heap.size w W) => At_any A B n c m d s l k W (ha.below hW) (hb.below hW) (by omega) (by omega) hk)
  have HRt := Lib.hid (fun W (hW : Below w.heap.size w W) => refAt_any A B n c m d s l k W (ha.below hW) (hb.below hW) (by omega) (by omega) hnc hmd hk)
  have HNo := Lib.hid (fun W (hW : Below w.heap.size w W) => Normal_any A B n c m d s l W (ha.below hW) (hb.below hW) (by omega) hnc hmd)
  have HRn := Lib.hid (fun W (hW : Below w.heap.size w W) => refNormal_any A B n c m d s l W (ha.below hW) (hb.below hW) (by omega) hnc hmd)
  have HFr := Lib.hid (fun W (hW : Below w.heap.size w W) => From_any A B n c m d s l k W (ha.below hW) (hb.below hW) (by omega) hnc hmd hk)
  have HRf := Lib.hid (fun W (hW : Below w.heap.size w W) => refFrom_any A B n c m d s l k W (ha.below hW) (hb.below hW) (by omega) hnc hmd hk)
  have HLo := Lib.hid (fun W (hW : Below w.heap.size w W) => Loops_any A B n c m d s l k W (ha.below hW) (hb.below hW) (by omega) hnc hmd)
  have HRl := Lib.hid (fun W (hW : Below w.heap.size w W) => refLoops_any A B n c m d s l k W (ha.below hW) (hb.below hW) (by omega) hnc hmd)
  have HVa := Lib.hid (fun W (hW : Below w.heap.size w W) => valid_any A B n c m d x s l W (ha.below hW) (hb.below hW) (by omega) (by omega))
  have HRv := Lib.hid (fun W (hW : Below w.heap.size w W) => refValid_any A B n c m d x s l W (ha.below hW) (hb.below hW) (by omega) (by omega))
  clear ha hb hnc hmd hf hk
  generalize atR s l k = at0 at *
  generalize validB 6 s l = ok at *
  generalize validB x s l = okx at *
  generalize codeN ok = cN at *
  generalize codeF ok k = cF at *
  generalize codeL s l k = cL at *
  go_enter Tryd.func3, Tryd.ntmps3
  go_wp2_with fail
  refine (few_one A B n c m d 300 (w.heap.size + 1) (w.alloc (.cells #[.slice A n c, .slice B m d] 24)) _ (by simp) H1.out (by omega)).mono ?_
  rintro e w1 ⟨rfl, hb1⟩
  rw [HF.out]
  have HB1 := Lib.hid (show Below w.heap.size w w1 from ((Below.refl _ _).alloc (Nat.le_refl _) _).trans (hb1.mono (by simp)))
  have HC1 := Lib.hid ((Cells.box (L := []) (W := w) (fun p hp => by cases hp) (.slice A n c) (.slice B m d) 24).below hb1)
  clear hb1
  have p0 := HC1.out.head
  have p1 := HC1.out.tail.head
  have hz := HC1.out.lt
  simp only at hz
  go_wp2_with fail
  refine (HAt.out _ HB1.out).mono ?_
  rintro e w2 ⟨rfl, hb2⟩
  have HB2 := Lib.hid (HB1.out.trans (hb2.mono HB1.out.size))
  have HC2 := Lib.hid (HC1.out.below hb2)
  clear hb2 p0 p1 hz HC1
  have p0 := HC2.out.head
  have p1 := HC2.out.tail.head
  have hz := HC2.out.lt
  simp only at hz
  go_wp2_with fail
  refine (HRt.out _ HB2.out).mono ?_
  rintro e w3 ⟨rfl, hb3⟩
  have HB3 := Lib.hid (HB2.out.trans (hb3.mono HB2.out.size))
  have HC3 := Lib.hid (HC2.out.below hb3)
  clear hb3 p0 p1 hz HC2
  have p0 := HC3.out.head
  have p1 := HC3.out.tail.head
  have hz := HC3.out.lt
  simp only at hz
  go_wp2_with fail
  refine (HNo.out _ HB3.out).mono ?_
  rintro e w4 ⟨A4, n4, c4, B4, m4, d4, s4, l4, rfl, hw4, HN4, hb4⟩
  have HB4 := Lib.hid (HB3.out.trans (hb4.mono HB3.out.size))
  have HC4 := Lib.hid (HC3.out.below hb4)
  have HW4 := Lib.hid (show W4 w4 A4 n4 c4 B4 m4 d4 s4 l4 from hw4)
  clear hw4 hb4 p0 p1 hz HC3
  have p0 := HC4.out.head
  have p1 := HC4.out.tail.head
  have hz := HC4.out.lt
  simp only at hz
  go_wp2_with fail
  refine (HRn.out _ (HB4.out.alloc HB4.out.size _)).mono ?_
  rintro e w5 ⟨A5, n5, c5, B5, m5, d5, s5, l5, rfl, hw5, HN5, hb5⟩
  have HB5 := Lib.hid ((HB4.out.alloc HB4.out.size _).trans (hb5.mono (HB4.out.alloc HB4.out.size _).size))
  have HC5 := Lib.hid ((HC4.out.box (.slice A4 n4 c4) (.slice B4 m4 d4) 24).below hb5)
  have HW4 := Lib.hid ((HW4.out.below ((Below.refl _ _).alloc (Nat.le_refl _) (.cells #[.slice A4 n4 c4, .slice B4 m4 d4] 24))).below hb5)
  have HW5 := Lib.hid (show W4 w5 A5 n5 c5 B5 m5 d5 s5 l5 from hw5)
  clear hw5 hb5 p0 p1 hz HC4
  have p0 := HC5.out.tail.tail.head
  have p1 := HC5.out.tail.tail.tail.head
  have hz := HC5.out.tail.tail.lt
  simp only at hz
  go_wp2_with fail
  refine (HFr.out _ (HB5.out.alloc HB5.out.size _)).mono ?_
  rintro e w6 ⟨A6, n6, c6, B6, m6, d6, s6, l6, rfl, hw6, HN6, hb6⟩
  have HB6 := Lib.hid ((HB5.out.alloc HB5.out.size _).trans (hb6.mono (HB5.out.alloc HB5.out.size _).size))
  have HC6 := Lib.hid ((HC5.out.box (.slice A5 n5 c5) (.slice B5 m5 d5) 24).below hb6)
  have HW4 := Lib.hid ((HW4.out.below ((Below.refl _ _).alloc (Nat.le_refl _) (.cells #[.slice A5 n5 c5, .slice B5 m5 d5] 24))).below hb6)
  have HW5 := Lib.hid ((HW5.out.below ((Below.refl _ _).alloc (Nat.le_refl _) (.cells #[.slice A5 n5 c5, .slice B5 m5 d5] 24))).below hb6)
  have HW6 := Lib.hid (show W4 w6 A6 n6 c6 B6 m6 d6 s6 l6 from hw6)
  clear hw6 hb6 p0 p1 hz HC5
  have p0 := HC6.out.tail.tail.tail.tail.head
  have p1 := HC6.out.tail.tail.tail.tail.tail.head
  have hz := HC6.out.tail.tail.tail.tail.lt
  simp only at hz
  go_wp2_with fail
  refine (HRf.out _ (HB6.out.alloc HB6.out.size _)).mono ?_
  rintro e w7 ⟨A7, n7, c7, B7, m7, d7, s7, l7, rfl, hw7, HN7, hb7⟩
  have HB7 := Lib.hid ((HB6.out.alloc HB6.out.size _).trans (hb7.mono (HB6.out.alloc HB6.out.size _).size))
  have HC7 := Lib.hid ((HC6.out.box (.slice A6 n6 c6) (.slice B6 m6 d6) 24).below hb7)
  have HW4 := Lib.hid ((HW4.out.below ((Below.refl _ _).alloc (Nat.le_refl _) (.cells #[.slice A6 n6 c6, .slice B6 m6 d6] 24))).below hb7)
  have HW5 := Lib.hid ((HW5.out.below ((Below.refl _ _).alloc (Nat.le_refl _) (.cells #[.slice A6 n6 c6, .slice B6 m6 d6] 24))).below hb7)
  have HW6 := Lib.hid ((HW6.out.below ((Below.refl _ _).alloc (Nat.le_refl _) (.cells #[.slice A6 n6 c6, .slice B6 m6 d6] 24))).below hb7)
  have HW7 := Lib.hid (show W4 w7 A7 n7 c7 B7 m7 d7 s7 l7 from hw7)
  clear hw7 hb7 p0 p1 hz HC6
  have p0 := HC7.out.tail.tail.tail.tail.tail.tail.head
  have p1 := HC7.out.tail.tail.tail.tail.tail.tail.tail.head
  have hz := HC7.out.tail.tail.tail.tail.tail.tail.lt
  simp only at hz
  go_wp2_with fail
  refine (HLo.out _ (HB7.out.alloc HB7.out.size _)).mono ?_
  rintro e w8 ⟨A8, n8, c8, B8, m8, d8, s8, l8, rfl, hw8, HN8, hb8⟩
  have HB8 := Lib.hid ((HB7.out.alloc HB7.out.size _).trans (hb8.mono (HB7.out.alloc HB7.out.size _).size))
  have HC8 := Lib.hid ((HC7.out.box (.slice A7 n7 c7) (.slice B7 m7 d7) 24).below hb8)
  have HW4 := Lib.hid ((HW4.out.below ((Below.refl _ _).alloc (Nat.le_refl _) (.cells #[.slice A7 n7 c7, .slice B7 m7 d7] 24))).below hb8)
  have HW5 := Lib.hid ((HW5.out.below ((Below.refl _ _).alloc (Nat.le_refl _) (.cells #[.slice A7 n7 c7, .slice B7 m7 d7] 24))).below hb8)
  have HW6 := Lib.hid ((HW6.out.below ((Below.refl _ _).alloc (Nat.le_refl _) (.cells #[.slice A7 n7 c7, .slice B7 m7 d7] 24))).below hb8)
  have HW7 := Lib.hid ((HW7.out.below ((Below.refl _ _).alloc (Nat.le_refl _) (.cells #[.slice A7 n7 c7, .slice B7 m7 d7] 24))).below hb8)
  have HW8 := Lib.hid (show W4 w8 A8 n8 c8 B8 m8 d8 s8 l8 from hw8)
  clear hw8 hb8 p0 p1 hz HC7
  have p0 := HC8.out.tail.tail.tail.tail.tail.tail.tail.tail.head
  have p1 := HC8.out.tail.tail.tail.tail.tail.tail.tail.tail.tail.head
  have hz := HC8.out.tail.tail.tail.tail.tail.tail.tail.tail.lt
  simp only at hz
  go_wp2_with fail
  refine (HRl.out _ (HB8.out.alloc HB8.out.size _)).mono ?_
  rintro e w9 ⟨A9, n9, c9, B9, m9, d9, s9, l9, rfl, hw9, HN9, hb9⟩
  have HB9 := Lib.hid ((HB8.out.alloc HB8.out.size _).trans (hb9.mono (HB8.out.alloc HB8.out.size _).size))
  have HC9 := Lib.hid ((HC8.out.box (.slice A8 n8 c8) (.slice B8 m8 d8) 24).below hb9)
  have HW4 := Lib.hid ((HW4.out.below ((Below.refl _ _).alloc (Nat.le_refl _) (.cells #[.slice A8 n8 c8, .slice B8 m8 d8] 24))).below hb9)
  have HW5 := Lib.hid ((HW5.out.below ((Below.refl _ _).alloc (Nat.le_refl _) (.cells #[.slice A8 n8 c8, .slice B8 m8 d8] 24))).below hb9)
  have HW6 := Lib.hid ((HW6.out.below ((Below.refl _ _).alloc (Nat.le_refl _) (.cells #[.slice A8 n8 c8, .slice B8 m8 d8] 24))).below hb9)
  have HW7 := Lib.hid ((HW7.out.below ((Below.refl _ _).alloc (Nat.le_refl _) (.cells #[.slice A8 n8 c8, .slice B8 m8 d8] 24))).below hb9)
  have HW8 := Lib.hid ((HW8.out.below ((Below.refl _ _).alloc (Nat.le_refl _) (.cells #[.slice A8 n8 c8, .slice B8 m8 d8] 24))).below hb9)
  have HW9 := Lib.hid (show W4 w9 A9 n9 c9 B9 m9 d9 s9 l9 from hw9)
  clear hw9 hb9 p0 p1 hz HC8
  have p0 := HC9.out.tail.tail.tail.tail.tail.tail.tail.tail.tail.tail.head
  have p1 := HC9.out.tail.tail.tail.tail.tail.tail.tail.tail.tail.tail.tail.head
  have hz := HC9.out.tail.tail.tail.tail.tail.tail.tail.tail.tail.tail.lt
  simp only at hz
  go_wp2_with fail
  have HBZ := Lib.hid (HB9.out.alloc HB9.out.size (.cells #[.slice A9 n9 c9, .slice B9 m9 d9] 24))
  have HCZ := Lib.hid (HC9.out.box (.slice A9 n9 c9) (.slice B9 m9 d9) 24)
  have HW4 := Lib.hid (HW4.out.below ((Below.refl _ _).alloc (Nat.le_refl _) (.cells #[.slice A9 n9 c9, .slice B9 m9 d9] 24)))
  have HW5 := Lib.hid (HW5.out.below ((Below.refl _ _).alloc (Nat.le_refl _) (.cells #[.slice A9 n9 c9, .slice B9 m9 d9] 24)))
  have HW6 := Lib.hid (HW6.out.below ((Below.refl _ _).alloc (Nat.le_refl _) (.cells #[.slice A9 n9 c9, .slice B9 m9 d9] 24)))
  have HW7 := Lib.hid (HW7.out.below ((Below.refl _ _).alloc (Nat.le_refl _) (.cells #[.slice A9 n9 c9, .slice B9 m9 d9] 24)))
  have HW8 := Lib.hid (HW8.out.below ((Below.refl _ _).alloc (Nat.le_refl _) (.cells #[.slice A9 n9 c9, .slice B9 m9 d9] 24)))
  have HW9 := Lib.hid (HW9.out.below ((Below.refl _ _).alloc (Nat.le_refl _) (.cells #[.slice A9 n9 c9, .slice B9 m9 d9] 24)))
  generalize w9.alloc (.cells #[.slice A9 n9 c9, .slice B9 m9 d9] 24) = Z at *
  clear p0 p1 hz HC9
  obtain ⟨rfl, rfl⟩ := Out.unique HN4.out.1 HN5.out.1
  obtain ⟨rfl, rfl⟩ := Out.unique HN6.out.1 HN7.out.1
  obtain ⟨rfl, rfl⟩ := OutL.unique HN8.out.1 HN9.out.1
  have hs4 : Hid (s4.length ≤ 100000 ∧ l4.length ≤ 100000) := HN4.out.2
  have hs6 : Hid (s6.length ≤ 100000 ∧ l6.length ≤ 100000) := HN6.out.2
  have hs8 : Hid (s8.length ≤ 100000 ∧ l8.length ≤ 100000) := HN8.out.2
  go_region_held3 (fun V => V.cell? ⟨w9.heap.size, 0, none⟩ = some (.slice A9 n9 c9) ∧ V.cell? ⟨w9.heap.size, 1, none⟩ = some (.slice B9 m9 d9) ∧ V.cell? ⟨w8.heap.size, 0, none⟩ = some (.slice A8 n8 c8) ∧ V.cell? ⟨w8.heap.size, 1, none⟩ = some (.slice B8 m8 d8) ∧ V.cell? ⟨w7.heap.size, 0, none⟩ = some (.slice A7 n7 c7) ∧ V.cell? ⟨w7.heap.size, 1, none⟩ = some (.slice B7 m7 d7) ∧ V.cell? ⟨w6.heap.size, 0, none⟩ = some (.slice A6 n6 c6) ∧ V.cell? ⟨w6.heap.size, 1, none⟩ = some (.slice B6 m6 d6) ∧ V.cell? ⟨w5.heap.size, 0, none⟩ = some (.slice A5 n5 c5) ∧ V.cell? ⟨w5.heap.size, 1, none⟩ = some (.slice B5 m5 d5) ∧ V.cell? ⟨w4.heap.size, 0, none⟩ = some (.slice A4 n4 c4) ∧ V.cell? ⟨w4.heap.size, 1, none⟩ = some (.slice B4 m4 d4) ∧ V.cell? ⟨w.heap.size, 0, none⟩ = some (.slice A n c) ∧ V.cell? ⟨w.heap.size, 1, none⟩ = some (.slice B m d))
    (first
      | exact cells14 (HCZ.out.below k1)
      | exact cells14 (HCZ.out.below k2)
      | exact cells14 (HCZ.out.below k3)
      | exact cells14 (HCZ.out.below k4)
      | exact cells14 (HCZ.out.below k5)
      | exact cells14 (HCZ.out.below k6)
      | exact cells14 (HCZ.out.below ((Below.refl Z.heap.size Z).drew)))
    (first
      | (go_at_call 23; refine (HVa.out _ HBZ.out.drew).mono ?_; rintro e z1 ⟨rfl, b1⟩; have k1 : Below Z.heap.size Z z1 := ((Below.refl _ _).drew).trans b1)
      | (go_at_call 24; refine (HRv.out _ (HBZ.out.trans (k1.mono HBZ.out.size))).mono ?_; rintro e z2 ⟨rfl, b2⟩; have k2 : Below Z.heap.size Z z2 := k1.trans (b2.mono k1.size))
      | (have hgo := k4; clear hgo; go_at_call 25; refine (is_same A8 B8 A9 B9 n8 c8 m8 d8 n9 c9 m9 d9 s8 l8 cL z4 (HW8.out.below k4).1 (HW8.out.below k4).2.1 (HW9.out.below k4).1 (HW9.out.below k4).2.1 HW8.out.2.2.1 HW8.out.2.2.2 HW9.out.2.2.1 HW9.out.2.2.2 hs8.out.1 hs8.out.2).mono ?_; rintro e z5 ⟨rfl, b5⟩; have k5 : Below Z.heap.size Z z5 := k4.trans (b5.mono k4.size))
      | (have hgo := k3; clear hgo; go_at_call 25; refine (is_same A6 B6 A7 B7 n6 c6 m6 d6 n7 c7 m7 d7 s6 l6 cF z3 (HW6.out.below k3).1 (HW6.out.below k3).2.1 (HW7.out.below k3).1 (HW7.out.below k3).2.1 HW6.out.2.2.1 HW6.out.2.2.2 HW7.out.2.2.1 HW7.out.2.2.2 hs6.out.1 hs6.out.2).mono ?_; rintro e z4 ⟨rfl, b4⟩; have k4 : Below Z.heap.size Z z4 := k3.trans (b4.mono k3.size))
      | (have hgo := k2; clear hgo; go_at_call 25; refine (is_same A4 B4 A5 B5 n4 c4 m4 d4 n5 c5 m5 d5 s4 l4 cN z2 (HW4.out.below k2).1 (HW4.out.below k2).2.1 (HW5.out.below k2).1 (HW5.out.below k2).2.1 HW4.out.2.2.1 HW4.out.2.2.2 HW5.out.2.2.1 HW5.out.2.2.2 hs4.out.1 hs4.out.2).mono ?_; rintro e z3 ⟨rfl, b3⟩; have k3 : Below Z.heap.size Z z3 := k2.trans (b3.mono k2.size))
      | (go_at_call 14; refine (awake_any z5).mono ?_; rintro e z6 ⟨rfl, b6⟩; have k6 : Below Z.heap.size Z z6 := k5.trans (b6.mono k5.size))
      | fail)
  go_wp2_with fail
  go_ret
  exact ⟨rfl, HBZ.out.trans (k6.mono HBZ.out.size)⟩

end Go.Proofs.YtnkmmmagdmnngaaDoor.Wd
