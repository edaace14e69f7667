/-
  AutFills of layer 5: the law's walk.
-/
import Derived.Test.YtalgbcndifaaiaaF46
import Derived.Test.YtalgbcndifaaiaaF44
import Derived.Deep.RegionHeld3
import Derived.BigQuiet
import Derived.Test.YtalgbcndifaaiaaF21
import Derived.Deep.QuietTactic
namespace Go.Proofs.Ytalgbcndifaaiaa.Wd
open Go.RowKit Go.Maps
set_option linter.unusedVariables false
set_option linter.unusedSimpArgs false

set_option maxRecDepth 100000 in
set_option maxHeartbeats 16000000 in
theorem fills_good_1 (p S kd mm n S2 M2 : Nat) (A E : Option Addr) (c ne ce : Nat) (st st2 : List Int) (es es2 : List Ed) (A' B' : Option Addr) (n' c' m' d' : Nat) (sl lp : List Int) (w : World) (ha : Ints w A n st) (he : EdgesAt w E ne es) (hbo : BitsOK es) (hx : Ints w A' n' sl) (hy : Ints w B' m' lp) (hnc : n' ≤ c') (hmd : m' ≤ d') (hs : n' + m' ≤ 20) (hn : n ≤ 1)
    (hv : autB p S kd mm st es = true) (hcl : clashB p es ne = false) (hf : few5B 20 100 8 p S kd mm st es n ne = true) (D : Bd p S kd mm n S2 M2 st st2 es es2)
    (hyA : Hid (fullB p es S = false)) (hyB : Hid (n = 1)) (HA1 : ∀ W, Below w.heap.size w W → Calls Try.prog 7 #[.agg #[.int .i64 p, .int .i64 S, .slice A n c, .int .i64 kd, .int .i64 mm, .slice E ne ce]] W fun e w' => FillTo p S2 kd M2 st2 es2 W w' e) :
    Calls Try.prog 3 #[.agg #[.int .i64 p, .int .i64 S, .slice A n c, .int .i64 kd, .int .i64 mm, .slice E ne ce], .agg #[.slice A' n' c', .slice B' m' d']] w fun e w' => e = .returned (.bool true) ∧ Below w.heap.size w w' := by
  obtain ⟨⟨_, h2, _, h6, h0, h5⟩, hM, hstB, h4, h7⟩ := autB_true hv
  obtain ⟨⟨_, _, _, q6, _, _⟩, qM, qst, q4, q7⟩ := autB_true D.valid
  have hp6 : p ≤ 6 := by omega
  have hDf := D.few
  have hL := he.1
  have hnL := ha.1
  have hfew := hf
  unfold few5B at hfew
  rw [hv] at hfew
  simp only [Bool.and_eq_true, Bool.or_eq_true, Bool.not_true, Bool.false_eq_true, false_or, decide_eq_true_eq] at hfew
  obtain ⟨⟨f1, _⟩, f2, f3⟩ := hfew
  have hne : ne ≤ 100 := by omega
  have hS20 : S ≤ 20 := by omega
  have hcl2 := hcl
  rw [← hL] at hcl2
  have HFW := Lib.hid (fun W g (hW : Below w.heap.size w W) (hx : Box6 W g p S A n c kd mm E ne ce) => by
    have h := few5_any refValid_ok 20 100 8 p S kd mm A E n c ne ce g st es W (by decide) (by decide) (ha.below hW) (by omega) (he.below hW) (by omega) hx
    rw [hf] at h
    exact h)
  have HFO := Lib.hid (show ∀ W g, Box2 W g A' n' c' B' m' d' → Calls Try.prog 5 #[.int .i64 20, .slice (some ⟨g, 0, none⟩) 1 1] W fun e w' => e = .returned (.bool true) ∧ Below W.heap.size W w' from fun W g hx => by
    have h := few_one g 20 A' B' n' c' m' d' W hx (by decide) (by omega) (by omega)
    rw [decide_eq_true hs] at h
    exact h)
  have HXA := Lib.hid (fun W => Box6.new W p S A n c kd mm E ne ce 25)
  have HXB := Lib.hid (fun W => Box2.new W A' n' c' B' m' d' 27)
  have HAW := Lib.hid (fun W => awake5_any W)
  have HVA := Lib.hid (fun W (hW : Below w.heap.size w W) => by
    have h := refValid_ok p S kd mm A E n c ne ce st es W (ha.below hW) (by omega) (he.below hW) (by omega)
    rw [hv] at h
    exact h)
  have HHA := Lib.hid (fun W (hW : Below w.heap.size w W) => by
    have h := refHalf_any p S kd mm A E n c ne ce es W (he.below hW) (by omega) (by omega) hp6 (by omega) h7 hbo
    rw [hcl, decide_eq_true hn] at h
    exact h)
  have HOA := Lib.hid (fun W (hW : Below w.heap.size w W) => by
    have h := refOne_any p S kd mm A E n c ne ce st es W hnL (he.below hW) (by omega) hp6 (by omega) h7 hbo
    rw [hcl2, hnL] at h
    exact h)
  have HWA := Lib.hid (fun W (hW : Below w.heap.size w W) => refWhole_any p S kd mm A E n c ne ce es W (he.below hW) (by omega) hp6 (by omega) (fun j hj => from_of hv j (by omega)))
  have HVB := Lib.hid (fun W A1 c1 A2 c2 (g1 : Ints W A1 1 st2) (g2 : EdgesAt W A2 es2.length es2) => by
    have h := refValid_ok p S2 kd M2 A1 A2 1 c1 es2.length c2 st2 es2 W g1 (by omega) g2 (by omega)
    rw [D.valid] at h
    exact h)
  have HOB := Lib.hid (fun W A1 c1 A2 c2 (g1 : Ints W A1 1 st2) (g2 : EdgesAt W A2 es2.length es2) => by
    have h := refOne_any p S2 kd M2 A1 A2 1 c1 es2.length c2 st2 es2 W g1.1 g2 (by omega) hp6 (by omega) q7 D.bits
    rw [D.clash, D.one] at h
    exact h)
  have HWB := Lib.hid (fun W A1 c1 A2 c2 (g1 : Ints W A1 1 st2) (g2 : EdgesAt W A2 es2.length es2) => by
    have h := refWhole_any p S2 kd M2 A1 A2 1 c1 es2.length c2 es2 W g2 (by omega) hp6 (by omega) (fun j hj => from_of D.valid j (by omega))
    rw [D.whole] at h
    exact h)
  have HFB := Lib.hid (fun W A1 c1 A2 c2 (g1 : Ints W A1 1 st2) (g2 : EdgesAt W A2 es2.length es2) => fill_i A1 A2 c1 c2 W g1 g2 D.valid D.clash D.whole)
  have HSB := Lib.hid (fun W A1 c1 A2 c2 A3 c3 A4 c4 (g1 : Ints W A1 1 st2) (g2 : EdgesAt W A2 es2.length es2) (g3 : Ints W A3 1 st2) (g4 : EdgesAt W A4 es2.length es2) => refSame_true p S2 kd M2 A1 A3 A2 A4 1 c1 c3 es2.length c2 c4 st2 es2 W g1 g3 g2 g4 (by omega) (by omega))
  have HNA := Lib.hid (fun W (hW : Below w.heap.size w W) (s : Nat) (l : Int) h => refOut_none p S kd mm s l A E n c ne ce es W (he.below hW) (by omega) h)
  have HSA := Lib.hid (fun W (hW : Below w.heap.size w W) (s j : Nat) (l : Int) h => refOut_some p S kd mm s j l A E n c ne ce es W (he.below hW) (by omega) h)
  have HOU := Lib.hid (fun W A1 c1 A2 c2 (g2 : EdgesAt W A2 es2.length es2) (s j : Nat) (l : Int) h => refOut_some p S2 kd M2 s j l A1 A2 1 c1 es2.length c2 es2 W g2 (by omega) h)
  have HWV := Lib.hid (fun W (hW : Below w.heap.size w W) => refValid_any A' B' n' c' m' d' p sl lp W (hx.below hW) (hy.below hW) (by omega) (by omega))
  have HIA := Lib.hid (fun W (hW : Below w.heap.size w W) (hvb : validB p sl lp = true) => is_acc p S kd mm n A E c ne ce st es A' B' n' c' m' d' sl lp W (ha.below hW) (he.below hW) (hx.below hW) (hy.below hW) hnc hmd hvb hs (by omega) (by omega) hn hv)
  have HIB := Lib.hid (fun W A1 c1 A2 c2 (hW : Below w.heap.size w W) (g1 : Ints W A1 1 st2) (g2 : EdgesAt W A2 es2.length es2) (hvb : validB p sl lp = true) => is_acc p S2 kd M2 1 A1 A2 c1 es2.length c2 st2 es2 A' B' n' c' m' d' sl lp W g1 g2 (hx.below hW) (hy.below hW) hnc hmd hvb hs (by omega) (by omega) (by omega) D.valid)
  obtain ⟨N, hN, HN⟩ : ∃ N : Nat, IntKind.i64.wrap ((2 : Int) ^ p) = (N : Int) ∧ Hid (2 ^ p = N) := ⟨2 ^ p, (pow_six hp6).1, rfl⟩
  have hN64 : N ≤ 64 := by rw [← HN.out]; exact (pow_six hp6).2
  have hp0 : (0 : Int) ≤ (p : Int) := by omega
  have hp6i : (p : Int) ≤ 6 := by omega
  have HEL := Lib.hid hL
  obtain ⟨hB0, hx6, hx2⟩ := boxes62 w p S A n c kd mm E ne ce A' n' c' B' m' d'
  have HB0 := Lib.hid hB0
  have HX6 := Lib.hid hx6
  have HX2 := Lib.hid hx2
  have HBZ := Lib.hid (HB0.out.alloc HB0.out.size (.cells #[.int .i64 p, .int .i64 S, .slice A n c, .int .i64 kd, .int .i64 mm, .slice E ne ce] 25))
  have HXZ := Lib.hid (show Box6 (((w.alloc (.cells #[.int .i64 p, .int .i64 S, .slice A n c, .int .i64 kd, .int .i64 mm, .slice E ne ce] 25)).alloc (.cells #[.slice A' n' c', .slice B' m' d'] 27)).alloc (.cells #[.int .i64 p, .int .i64 S, .slice A n c, .int .i64 kd, .int .i64 mm, .slice E ne ce] 25)) (w.heap.size + 1 + 1) p S A n c kd mm E ne ce by
    have h := HXA.out ((w.alloc (.cells #[.int .i64 p, .int .i64 S, .slice A n c, .int .i64 kd, .int .i64 mm, .slice E ne ce] 25)).alloc (.cells #[.slice A' n' c', .slice B' m' d'] 27))
    rw [World.size_alloc, World.size_alloc] at h
    exact h)
  have HX6Z := Lib.hid (HX6.out.below ((Below.refl _ _).alloc (Nat.le_refl _) (.cells #[.int .i64 p, .int .i64 S, .slice A n c, .int .i64 kd, .int .i64 mm, .slice E ne ce] 25)))
  have HX2Z := Lib.hid (HX2.out.below ((Below.refl _ _).alloc (Nat.le_refl _) (.cells #[.int .i64 p, .int .i64 S, .slice A n c, .int .i64 kd, .int .i64 mm, .slice E ne ce] 25)))
  have HHE := Lib.hid he
  have HHX := Lib.hid hx
  have HHY := Lib.hid hy
  have HHA1 := Lib.hid HA1
  have HHD := Lib.hid D
  have HHV := Lib.hid hv
  have HHa := Lib.hid ha
  clear HB0 HX6 HX2 hB0 hx6 hx2 ha he hx hy hbo hv hcl hcl2 hf HA1 D hM hstB h7 q7 qst qM f1
  go_enter Try.func3, Try.ntmps3
  go_wp2_with fail
  refine (HFW.out _ (w.heap.size + 1 + 1) HBZ.out HXZ.out).mono ?_
  rintro x w1 ⟨rfl, hb1⟩
  have HB1 := Lib.hid (HBZ.out.trans (hb1.mono HBZ.out.size))
  have HX61 := Lib.hid (HX6Z.out.below hb1)
  have HX21 := Lib.hid (HX2Z.out.below hb1)
  obtain ⟨hz, p0, p1, p2, p3, p4, p5⟩ := HX61.out
  obtain ⟨hz2, r0, r1⟩ := HX21.out
  clear hb1 HX6Z HX2Z HBZ HXZ HFW HXA
  go_wp2_with fail
  refine (HFO.out _ w1.heap.size (HXB.out w1)).mono ?_
  rintro x w2 ⟨rfl, hb2⟩
  have hb2' := Lib.hid (((Below.refl w1.heap.size w1).alloc (Nat.le_refl _) (.cells #[.slice A' n' c', .slice B' m' d'] 27)).trans (hb2.mono (by simp)))
  have HB2 := Lib.hid (HB1.out.trans (hb2'.out.mono HB1.out.size))
  have HX62 := Lib.hid (HX61.out.below hb2'.out)
  have HX22 := Lib.hid (HX21.out.below hb2'.out)
  clear hb2 hz p0 p1 p2 p3 p4 p5 hz2 r0 r1 hb2' HX61 HX21 HB1 HFO HXB
  obtain ⟨hz, p0, p1, p2, p3, p4, p5⟩ := HX62.out
  obtain ⟨hz2, r0, r1⟩ := HX22.out
  go_wp2_with fail
  refine (HHA1.out _ HB2.out).mono ?_
  rintro x w3 ⟨A1, c1, A2, c2, rfl, i1, i2, hb3⟩
  have HB3 := Lib.hid (HB2.out.trans (hb3.mono HB2.out.size))
  have HX63 := Lib.hid (HX62.out.below hb3)
  have HX23 := Lib.hid (HX22.out.below hb3)
  have HI1 := Lib.hid i1
  have HI2 := Lib.hid i2
  clear i1 i2 hb3 hz p0 p1 p2 p3 p4 p5 hz2 r0 r1 HX62 HX22 HHA1
  obtain ⟨hz, p0, p1, p2, p3, p4, p5⟩ := HX63.out
  obtain ⟨hz2, r0, r1⟩ := HX23.out
  go_wp2_with fail
  have W3B := Lib.hid (show Below w3.heap.size w3 (w3.alloc (.cells #[.int .i64 p, .int .i64 S2, .slice A1 1 c1, .int .i64 kd, .int .i64 M2, .slice A2 es2.length c2] 25)) from (Below.refl _ _).alloc (Nat.le_refl _) _)
  have HB30 := Lib.hid (HB3.out.trans (W3B.out.mono HB3.out.size))
  have XA30 := Lib.hid (HX63.out.below W3B.out)
  have XW30 := Lib.hid (HX23.out.below W3B.out)
  have XB30 := Lib.hid (Box6.new w3 p S2 A1 1 c1 kd M2 A2 es2.length c2 25)
  have I30 := Lib.hid (And.intro (HI1.out.below W3B.out) (HI2.out.below W3B.out))
  clear W3B HX63 HX23 HI1 HI2 HB3 hz p0 p1 p2 p3 p4 p5 hz2 r0 r1
  obtain ⟨hz, p0, p1, p2, p3, p4, p5⟩ := XA30.out
  obtain ⟨hz2, r0, r1⟩ := XW30.out
  obtain ⟨hz3, t0, t1, t2, t3, t4, t5⟩ := XB30.out
  refine (HVA.out _ HB30.out).mono ?_
  rintro x w4 ⟨rfl, hb4⟩
  have HB4 := Lib.hid (HB30.out.trans (hb4.mono HB30.out.size))
  have XA4 := Lib.hid (XA30.out.below hb4)
  have XW4 := Lib.hid (XW30.out.below hb4)
  have XB4 := Lib.hid (XB30.out.below hb4)
  have I4 := Lib.hid (And.intro (I30.out.1.below hb4) (I30.out.2.below hb4))
  clear hb4 HB30 XA30 XW30 XB30 I30 hz p0 p1 p2 p3 p4 p5 hz2 r0 r1 hz3 t0 t1 t2 t3 t4 t5
  obtain ⟨hz, p0, p1, p2, p3, p4, p5⟩ := XA4.out
  obtain ⟨hz2, r0, r1⟩ := XW4.out
  obtain ⟨hz3, t0, t1, t2, t3, t4, t5⟩ := XB4.out
  go_wp2_with fail
  refine (HHA.out _ HB4.out).mono ?_
  rintro x w5 ⟨rfl, hb5⟩
  have HB5 := Lib.hid (HB4.out.trans (hb5.mono HB4.out.size))
  have XA5 := Lib.hid (XA4.out.below hb5)
  have XW5 := Lib.hid (XW4.out.below hb5)
  have XB5 := Lib.hid (XB4.out.below hb5)
  have I5 := Lib.hid (And.intro (I4.out.1.below hb5) (I4.out.2.below hb5))
  clear hb5 HB4 XA4 XW4 XB4 I4 hz p0 p1 p2 p3 p4 p5 hz2 r0 r1 hz3 t0 t1 t2 t3 t4 t5
  obtain ⟨hz, p0, p1, p2, p3, p4, p5⟩ := XA5.out
  obtain ⟨hz2, r0, r1⟩ := XW5.out
  obtain ⟨hz3, t0, t1, t2, t3, t4, t5⟩ := XB5.out
  go_wp2_with fail
  refine (HFB.out _ A1 c1 A2 c2 I5.out.1 I5.out.2).mono ?_
  rintro x w6 ⟨A3, c3, A4, c4, rfl, i3, i4, hb6⟩
  have W6B := Lib.hid (hb6.trans (((Below.refl _ _).alloc (Nat.le_refl _) (.cells #[.int .i64 p, .int .i64 S2, .slice A3 1 c3, .int .i64 kd, .int .i64 M2, .slice A4 es2.length c4] 25) : Below w6.heap.size w6 (w6.alloc (.cells #[.int .i64 p, .int .i64 S2, .slice A3 1 c3, .int .i64 kd, .int .i64 M2, .slice A4 es2.length c4] 25))).mono hb6.size))
  have HB60 := Lib.hid (HB5.out.trans (W6B.out.mono HB5.out.size))
  have XA60 := Lib.hid (XA5.out.below W6B.out)
  have XW60 := Lib.hid (XW5.out.below W6B.out)
  have XB60 := Lib.hid (XB5.out.below W6B.out)
  have I60 := Lib.hid (And.intro (I5.out.1.below W6B.out) (I5.out.2.below W6B.out))
  have XC60 := Lib.hid (Box6.new w6 p S2 A3 1 c3 kd M2 A4 es2.length c4 25)
  have J60 := Lib.hid (And.intro (i3.alloc (.cells #[.int .i64 p, .int .i64 S2, .slice A3 1 c3, .int .i64 kd, .int .i64 M2, .slice A4 es2.length c4] 25)) (i4.below ((Below.refl w6.heap.size w6).alloc (Nat.le_refl _) (.cells #[.int .i64 p, .int .i64 S2, .slice A3 1 c3, .int .i64 kd, .int .i64 M2, .slice A4 es2.length c4] 25))))
  clear W6B HB5 XA5 XW5 XB5 I5 hb6 i3 i4 hz p0 p1 p2 p3 p4 p5 hz2 r0 r1 hz3 t0 t1 t2 t3 t4 t5
  obtain ⟨hz, p0, p1, p2, p3, p4, p5⟩ := XA60.out
  obtain ⟨hz2, r0, r1⟩ := XW60.out
  obtain ⟨hz3, t0, t1, t2, t3, t4, t5⟩ := XB60.out
  obtain ⟨hz4, u0, u1, u2, u3, u4, u5⟩ := XC60.out
  go_wp2_with fail
  refine (HVB.out _ A1 c1 A2 c2 I60.out.1 I60.out.2).mono ?_
  rintro x w7 ⟨rfl, hb7⟩
  have HB7 := Lib.hid (HB60.out.trans (hb7.mono HB60.out.size))
  have XA7 := Lib.hid (XA60.out.below hb7)
  have XW7 := Lib.hid (XW60.out.below hb7)
  have XB7 := Lib.hid (XB60.out.below hb7)
  have I7 := Lib.hid (And.intro (I60.out.1.below hb7) (I60.out.2.below hb7))
  have XC7 := Lib.hid (XC60.out.below hb7)
  have J7 := Lib.hid (And.intro (J60.out.1.below hb7) (J60.out.2.below hb7))
  clear hb7 HB60 XA60 XW60 XB60 I60 hz p0 p1 p2 p3 p4 p5 hz2 r0 r1 hz3 t0 t1 t2 t3 t4 t5 XC60 J60 hz4 u0 u1 u2 u3 u4 u5
  obtain ⟨hz, p0, p1, p2, p3, p4, p5⟩ := XA7.out
  obtain ⟨hz2, r0, r1⟩ := XW7.out
  obtain ⟨hz3, t0, t1, t2, t3, t4, t5⟩ := XB7.out
  obtain ⟨hz4, u0, u1, u2, u3, u4, u5⟩ := XC7.out
  go_wp2_with fail
  refine (HOB.out _ A1 c1 A2 c2 I7.out.1 I7.out.2).mono ?_
  rintro x w8 ⟨rfl, hb8⟩
  have HB8 := Lib.hid (HB7.out.trans (hb8.mono HB7.out.size))
  have XA8 := Lib.hid (XA7.out.below hb8)
  have XW8 := Lib.hid (XW7.out.below hb8)
  have XB8 := Lib.hid (XB7.out.below hb8)
  have I8 := Lib.hid (And.intro (I7.out.1.below hb8) (I7.out.2.below hb8))
  have XC8 := Lib.hid (XC7.out.below hb8)
  have J8 := Lib.hid (And.intro (J7.out.1.below hb8) (J7.out.2.below hb8))
  clear hb8 HB7 XA7 XW7 XB7 I7 hz p0 p1 p2 p3 p4 p5 hz2 r0 r1 hz3 t0 t1 t2 t3 t4 t5 XC7 J7 hz4 u0 u1 u2 u3 u4 u5
  obtain ⟨hz, p0, p1, p2, p3, p4, p5⟩ := XA8.out
  obtain ⟨hz2, r0, r1⟩ := XW8.out
  obtain ⟨hz3, t0, t1, t2, t3, t4, t5⟩ := XB8.out
  obtain ⟨hz4, u0, u1, u2, u3, u4, u5⟩ := XC8.out
  go_wp2_with fail
  refine (HWB.out _ A1 c1 A2 c2 I8.out.1 I8.out.2).mono ?_
  rintro x w9 ⟨rfl, hb9⟩
  have HB9 := Lib.hid (HB8.out.trans (hb9.mono HB8.out.size))
  have XA9 := Lib.hid (XA8.out.below hb9)
  have XW9 := Lib.hid (XW8.out.below hb9)
  have XB9 := Lib.hid (XB8.out.below hb9)
  have I9 := Lib.hid (And.intro (I8.out.1.below hb9) (I8.out.2.below hb9))
  have XC9 := Lib.hid (XC8.out.below hb9)
  have J9 := Lib.hid (And.intro (J8.out.1.below hb9) (J8.out.2.below hb9))
  clear hb9 HB8 XA8 XW8 XB8 I8 hz p0 p1 p2 p3 p4 p5 hz2 r0 r1 hz3 t0 t1 t2 t3 t4 t5 XC8 J8 hz4 u0 u1 u2 u3 u4 u5
  obtain ⟨hz, p0, p1, p2, p3, p4, p5⟩ := XA9.out
  obtain ⟨hz2, r0, r1⟩ := XW9.out
  obtain ⟨hz3, t0, t1, t2, t3, t4, t5⟩ := XB9.out
  obtain ⟨hz4, u0, u1, u2, u3, u4, u5⟩ := XC9.out
  go_wp2_with fail
  have e1 : ((kd : Int) != (kd : Int)) = false := by simp
  have e2 : ((p : Int) != (p : Int)) = false := by simp
  refine (HSB.out _ A1 c1 A2 c2 A3 c3 A4 c4 I9.out.1 I9.out.2 J9.out.1 J9.out.2).mono ?_
  rintro x w10 ⟨rfl, hb10⟩
  have HB10 := Lib.hid (HB9.out.trans (hb10.mono HB9.out.size))
  have XA10 := Lib.hid (XA9.out.below hb10)
  have XW10 := Lib.hid (XW9.out.below hb10)
  have XB10 := Lib.hid (XB9.out.below hb10)
  have I10 := Lib.hid (And.intro (I9.out.1.below hb10) (I9.out.2.below hb10))
  clear XC9 J9 hz4 u0 u1 u2 u3 u4 u5 hb10 HB9 XA9 XW9 XB9 I9 hz p0 p1 p2 p3 p4 p5 hz2 r0 r1 hz3 t0 t1 t2 t3 t4 t5
  obtain ⟨hz, p0, p1, p2, p3, p4, p5⟩ := XA10.out
  obtain ⟨hz2, r0, r1⟩ := XW10.out
  obtain ⟨hz3, t0, t1, t2, t3, t4, t5⟩ := XB10.out
  go_wp2_with fail
  clear HFB HVB HOB HWB HHA
  rcases HHD.out.how with ⟨hn1, hfu, hS2, hM2, hs2, he2⟩ | ⟨hS2, F⟩
  · exact absurd hfu (by rw [hyA.out]; simp)
  · have e5 : ((S2 : Int) != (S2 : Int)) = false := by simp
    have hS2w : IntKind.i64.wrap ((S : Int) + 1) = (S2 : Int) := (IntWalk.i64_in _ (by omega)).trans (by omega)
    have HS2 := Lib.hid hS2
    have HE5 := Lib.hid (And.intro e5 hS2w)
    clear hS2 e5 hS2w
    have hn01 : n = 1 ∨ n = 0 := by omega
    have HF := Lib.hid F
    clear F
    rcases hn01 with rfl | rfl
    case' inl =>
      have HOA1 := Lib.hid (fun W (hW : Below w.heap.size w W) => by
        have h := HOA.out W hW
        rw [show (decide (1 = 1) && !false) = true from rfl] at h
        exact h)
      have HWA1 := Lib.hid (fun W (hW : Below w.heap.size w W) => by
        have h := HWA.out W hW
        rw [HF.out.lack rfl] at h
        exact h)
      clear HOA HWA
      refine (HOA1.out _ HB10.out).mono ?_
      rintro x w11 ⟨rfl, hb11⟩
      have HB11 := Lib.hid (HB10.out.trans (hb11.mono HB10.out.size))
      have XA11 := Lib.hid (XA10.out.below hb11)
      have XW11 := Lib.hid (XW10.out.below hb11)
      have XB11 := Lib.hid (XB10.out.below hb11)
      have I11 := Lib.hid (And.intro (I10.out.1.below hb11) (I10.out.2.below hb11))
      clear hb11 HB10 XA10 XW10 XB10 I10 hz p0 p1 p2 p3 p4 p5 hz2 r0 r1 hz3 t0 t1 t2 t3 t4 t5
      obtain ⟨hz, p0, p1, p2, p3, p4, p5⟩ := XA11.out
      obtain ⟨hz2, r0, r1⟩ := XW11.out
      obtain ⟨hz3, t0, t1, t2, t3, t4, t5⟩ := XB11.out
      go_wp2_with fail
      refine (HWA1.out _ HB11.out).mono ?_
      rintro x w12 ⟨rfl, hb12⟩
      have HB12 := Lib.hid (HB11.out.trans (hb12.mono HB11.out.size))
      have XA12 := Lib.hid (XA11.out.below hb12)
      have XW12 := Lib.hid (XW11.out.below hb12)
      have XB12 := Lib.hid (XB11.out.below hb12)
      have I12 := Lib.hid (And.intro (I11.out.1.below hb12) (I11.out.2.below hb12))
      clear hb12 HB11 XA11 XW11 XB11 I11 hz p0 p1 p2 p3 p4 p5 hz2 r0 r1 hz3 t0 t1 t2 t3 t4 t5
      obtain ⟨hz, p0, p1, p2, p3, p4, p5⟩ := XA12.out
      obtain ⟨hz2, r0, r1⟩ := XW12.out
      obtain ⟨hz3, t0, t1, t2, t3, t4, t5⟩ := XB12.out
      obtain ⟨ba, oa, rfl, hla, hca⟩ := (HHa.out.below HB12.out).2 (by omega)
      obtain ⟨bb, ob, rfl, hlb, hcb⟩ := (I12.out.1).2 (by omega)
      have y0 := hca 0 (by omega)
      have y1 := hcb 0 (by omega)
      rw [Nat.add_zero] at y0 y1
      rw [HF.out.one rfl] at y1
      generalize st.getD 0 0 = z0 at y0 y1
      have e6 : (z0 != z0) = false := by simp
      clear hca hcb
      go_wp2_with fail
      obtain ⟨e5, hS2w⟩ := HE5.out
      go_quiet (fail)
      clear e5 hS2w y0 y1 e6 hla hlb
      go_wp2_with fail
    case inr => exact absurd hyB.out (by decide)
    case inl =>
      obtain ⟨W3, hW3⟩ : ∃ W3, w12.drewN nq = W3 := ⟨_, rfl⟩
      have hD3 : Below w12.heap.size w12 W3 := by rw [← hW3]; exact below_drewN (Below.refl _ _) nq
      have HB13 := Lib.hid (HB12.out.trans (hD3.mono HB12.out.size))
      have XA13 := Lib.hid (XA12.out.below hD3)
      have XW13 := Lib.hid (XW12.out.below hD3)
      have XB13 := Lib.hid (XB12.out.below hD3)
      have I13 := Lib.hid (And.intro (I12.out.1.below hD3) (I12.out.2.below hD3))
      rw [hW3]
      clear hW3 hD3 HB12 XA12 XW12 XB12 I12 hz p0 p1 p2 p3 p4 p5 hz2 r0 r1 hz3 t0 t1 t2 t3 t4 t5
      generalize w3.heap.size = bx at *
      go_loopg [146] S2 (fun g i wx => ∃ s : Nat, s + g = S2 ∧ i = .int .i64 s ∧ Hid (Below W3.heap.size W3 wx))
      case atStart => exact ⟨0, by omega, rfl, Below.refl _ _⟩
      case round =>
        obtain ⟨s, hsg, rfl, HX⟩ := hrel
        have hsi : (0 : Int) ≤ (s : Int) := by omega
        obtain ⟨hz, p0, p1, p2, p3, p4, p5⟩ := XA13.out.below HX.out
        obtain ⟨hz2, r0, r1⟩ := XW13.out.below HX.out
        obtain ⟨hz3, t0, t1, t2, t3, t4, t5⟩ := XB13.out.below HX.out
        cases gk with
        | zero =>
          have HBw := Lib.hid (HB13.out.trans (HX.out.mono HB13.out.size))
          obtain rfl : S2 = s := by omega
          go_wp2_with fail
          refine (HWV.out _ HBw.out).mono ?_
          rintro x w20 ⟨rfl, hb20⟩
          have HB20 := Lib.hid (HBw.out.trans (hb20.mono HBw.out.size))
          have XA20 := Lib.hid ((XA13.out.below HX.out).below hb20)
          have XW20 := Lib.hid ((XW13.out.below HX.out).below hb20)
          have XB20 := Lib.hid ((XB13.out.below HX.out).below hb20)
          have I20 := Lib.hid (And.intro ((I13.out.1.below HX.out).below hb20) ((I13.out.2.below HX.out).below hb20))
          clear hz p0 p1 p2 p3 p4 p5 hz2 r0 r1 hz3 t0 t1 t2 t3 t4 t5 hb20 HX XA13 XW13 XB13 I13 HBw
          cases hvb : validB p sl lp
          · go_wp2_with fail
            refine (HAW.out _).mono ?_
            rintro x w21 ⟨rfl, hb21⟩
            have HB21 := Lib.hid (HB20.out.trans (hb21.mono HB20.out.size))
            clear hb21
            go_wp2_with fail
            go_ret
            exact ⟨rfl, HB21.out⟩
          · have HIA2 := Lib.hid (fun W hW => HIA.out W hW hvb)
            have HIB2 := Lib.hid (fun W hW g1 g2 => HIB.out W (some ⟨bb, ob, none⟩) c1 A2 c2 hW g1 g2 hvb)
            have HSV := Lib.hid (show ∀ V, Below w20.heap.size w20 V → (V.cell? ⟨w.heap.size, 0, none⟩ = some (.int .i64 p) ∧ V.cell? ⟨w.heap.size, 1, none⟩ = some (.int .i64 S) ∧ V.cell? ⟨w.heap.size, 2, none⟩ = some (.slice (some ⟨ba, oa, none⟩) 1 c) ∧ V.cell? ⟨w.heap.size, 3, none⟩ = some (.int .i64 kd) ∧ V.cell? ⟨w.heap.size, 4, none⟩ = some (.int .i64 mm) ∧ V.cell? ⟨w.heap.size, 5, none⟩ = some (.slice E ne ce)) ∧ (V.cell? ⟨w.heap.size + 1, 0, none⟩ = some (.slice A' n' c') ∧ V.cell? ⟨w.heap.size + 1, 1, none⟩ = some (.slice B' m' d')) ∧ (V.cell? ⟨bx, 0, none⟩ = some (.int .i64 p) ∧ V.cell? ⟨bx, 1, none⟩ = some (.int .i64 S2) ∧ V.cell? ⟨bx, 2, none⟩ = some (.slice (some ⟨bb, ob, none⟩) 1 c1) ∧ V.cell? ⟨bx, 3, none⟩ = some (.int .i64 kd) ∧ V.cell? ⟨bx, 4, none⟩ = some (.int .i64 M2) ∧ V.cell? ⟨bx, 5, none⟩ = some (.slice A2 es2.length c2)) from fun V hV => ⟨(XA20.out.below hV).2, (XW20.out.below hV).2, (XB20.out.below hV).2⟩)
            have HACC := Lib.hid (HF.out.acc (at_ sl lp))
            obtain ⟨⟨p0, p1, p2, p3, p4, p5⟩, ⟨r0, r1⟩, t0, t1, t2, t3, t4, t5⟩ := HSV.out _ (Below.refl _ _)
            clear hvb XA20 XW20 XB20 HIA HIB HWV
            go_wp2_with fail
            go_region_held3 (fun V => (V.cell? ⟨w.heap.size, 0, none⟩ = some (.int .i64 p) ∧ V.cell? ⟨w.heap.size, 1, none⟩ = some (.int .i64 S) ∧ V.cell? ⟨w.heap.size, 2, none⟩ = some (.slice (some ⟨ba, oa, none⟩) 1 c) ∧ V.cell? ⟨w.heap.size, 3, none⟩ = some (.int .i64 kd) ∧ V.cell? ⟨w.heap.size, 4, none⟩ = some (.int .i64 mm) ∧ V.cell? ⟨w.heap.size, 5, none⟩ = some (.slice E ne ce)) ∧ (V.cell? ⟨w.heap.size + 1, 0, none⟩ = some (.slice A' n' c') ∧ V.cell? ⟨w.heap.size + 1, 1, none⟩ = some (.slice B' m' d')) ∧ (V.cell? ⟨bx, 0, none⟩ = some (.int .i64 p) ∧ V.cell? ⟨bx, 1, none⟩ = some (.int .i64 S2) ∧ V.cell? ⟨bx, 2, none⟩ = some (.slice (some ⟨bb, ob, none⟩) 1 c1) ∧ V.cell? ⟨bx, 3, none⟩ = some (.int .i64 kd) ∧ V.cell? ⟨bx, 4, none⟩ = some (.int .i64 M2) ∧ V.cell? ⟨bx, 5, none⟩ = some (.slice A2 es2.length c2)))
              (first
                | exact HSV.out _ k3
                | exact HSV.out _ k2
                | exact HSV.out _ k1
                | exact HSV.out _ ((Below.refl _ _).drew))
              (first
                | (have hgo := k2; clear hgo; go_at_call 6; refine (HAW.out _).mono ?_; rintro x z3 ⟨rfl, b3⟩; have k3 : Below w20.heap.size w20 z3 := k2.trans (b3.mono k2.size))
                | (have hgo := k1; clear hgo; go_at_call 15; refine (HIB2.out _ (HB20.out.trans (k1.mono HB20.out.size)) (I20.out.1.below k1) (I20.out.2.below k1)).mono ?_; rintro x z2 ⟨rb, rfl, RB, b2⟩; have k2 : Below w20.heap.size w20 z2 := k1.trans (b2.mono k1.size); obtain rfl : rb = ra := Bool.eq_iff_iff.2 (RB.out.trans (HACC.out.trans RA.out.symm)))
                | (go_at_call 15; refine (HIA2.out _ (HB20.out.drew)).mono ?_; rintro x z1 ⟨ra, rfl, RA, b1⟩; have k1 : Below w20.heap.size w20 z1 := ((Below.refl _ _).drew).trans b1)
                | fail)
            have HB22 := Lib.hid (HB20.out.trans (k3.mono HB20.out.size))
            clear k1 k2 k3 b1 b2 b3
            go_wp2_with fail
            go_ret
            exact ⟨rfl, HB22.out⟩
        | succ q =>
          have hs1 : s < S2 := by omega
          have hsi2 : (s : Int) < (S2 : Int) := by omega
          go_wp2_with fail
          clear hz p0 p1 p2 p3 p4 p5 hz2 r0 r1 hz3 t0 t1 t2 t3 t4 t5
          go_loopg [152] N (fun g i wx => ∃ l : Nat, l + g = N ∧ i = .int .i64 l ∧ Hid (Below W3.heap.size W3 wx))
          case atStart => exact ⟨0, by omega, rfl, HX.out⟩
          case round =>
            clear HX
            obtain ⟨l, hlg, rfl, HX⟩ := hrel
            have hli : (0 : Int) ≤ (l : Int) := by omega
            cases gk with
            | zero =>
              obtain rfl : N = l := by omega
              go_wp2_with fail
              go_roundg q
              case measure => omega
              case rel => exact ⟨s + 1, by omega, by go_num, HX.out⟩
            | succ q2 =>
              have hl1 : l < N := by omega
              have hli2 : (l : Int) < (N : Int) := by omega
              obtain ⟨j, hj, hjt⟩ := HF.out.next s l (by have := HS2.out; omega) (by rw [HN.out]; exact hl1)
              have hj1 := (nextS_some hj).1
              have hj0 : (0 : Int) ≤ (j : Int) := by omega
              have hj2 : (j : Int) < (es2.length : Int) := by omega
              have HOX := Lib.hid (fun W (g2 : EdgesAt W A2 es2.length es2) => HOU.out W (some ⟨bb, ob, none⟩) c1 A2 c2 g2 s j (l : Int) hj)
              have HBw := Lib.hid (HB13.out.trans (HX.out.mono HB13.out.size))
              have HXA := Lib.hid (XA13.out.below HX.out)
              have HXB := Lib.hid (XB13.out.below HX.out)
              have HIE := Lib.hid (I13.out.2.below HX.out)
              obtain ⟨be, oe, rfl, hbe, hce⟩ := HIE.out.2 (by omega)
              have g1 := (hce j hj1).2.1
              have HS := Lib.hid (show ∀ V, Below wr.heap.size wr V → (V.cell? ⟨bx, 0, none⟩ = some (.int .i64 p) ∧ V.cell? ⟨bx, 1, none⟩ = some (.int .i64 S2) ∧ V.cell? ⟨bx, 2, none⟩ = some (.slice (some ⟨bb, ob, none⟩) 1 c1) ∧ V.cell? ⟨bx, 3, none⟩ = some (.int .i64 kd) ∧ V.cell? ⟨bx, 4, none⟩ = some (.int .i64 M2) ∧ V.cell? ⟨bx, 5, none⟩ = some (.slice (some ⟨be, oe, none⟩) es2.length c2)) ∧ V.cell? ⟨be, oe + j * 5 + 1, none⟩ = some (.int .i64 (es2.getD j ed0).t) from fun V hV => ⟨(HXB.out.below hV).2, (hV.cell (p := ⟨be, oe + j * 5 + 1, none⟩) hbe).trans g1⟩)
              clear hce
              obtain ⟨⟨t0, t1, t2, t3, t4, t5⟩, g1⟩ := HS.out _ (Below.refl _ _)
              have HJT := Lib.hid hjt
              clear hjt hj
              generalize (es2.getD j ed0).t = x at *
              go_wp2_with fail
              refine wp_region_until_drew (st := []) (S := fun V => (V.cell? ⟨bx, 0, none⟩ = some (.int .i64 p) ∧ V.cell? ⟨bx, 1, none⟩ = some (.int .i64 S2) ∧ V.cell? ⟨bx, 2, none⟩ = some (.slice (some ⟨bb, ob, none⟩) 1 c1) ∧ V.cell? ⟨bx, 3, none⟩ = some (.int .i64 kd) ∧ V.cell? ⟨bx, 4, none⟩ = some (.int .i64 M2) ∧ V.cell? ⟨bx, 5, none⟩ = some (.slice (some ⟨be, oe, none⟩) es2.length c2)) ∧ V.cell? ⟨be, oe + j * 5 + 1, none⟩ = some (.int .i64 x)) (by kernel_rfl) ⟨⟨t0, t1, t2, t3, t4, t5⟩, g1⟩ (fun hHeld => ?_)
              refine wpAnyU_pure (i := 0) (v := ?vq0) rfl (by kernel_rfl) (by kernel_rfl) (by kernel_rfl) (by kernel_rfl) (fun _ _ _ h => h) (Or.inl ⟨by rfl, fun V _ => ?hyq0⟩) (fun _ => hHeld) ?restq0
              case hyq0 => go_simp; try with_reducible rfl
              try simp only [Act.put, List.getElem_toArray, List.getElem_cons_zero, List.getElem_cons_succ, List.setIfInBounds_toArray, List.set_cons_zero, List.set_cons_succ]
              refine wpAnyU_load (i := 1) (v := ?vq1) rfl (by kernel_rfl) (by kernel_rfl) (by kernel_rfl) (by kernel_rfl) (fun _ _ _ h => h) (Or.inl ⟨by rfl, fun V hSw => ?hyq1⟩) hHeld ?restq1
              case hyq1 => (obtain ⟨⟨v0, v1, v2, v3, v4, v5⟩, v6⟩ := hSw); go_simp; try with_reducible rfl
              try simp only [Act.put, List.getElem_toArray, List.getElem_cons_zero, List.getElem_cons_succ, List.setIfInBounds_toArray, List.set_cons_zero, List.set_cons_succ]
              refine wpAnyU_load (i := 2) (v := ?vq2) rfl (by kernel_rfl) (by kernel_rfl) (by kernel_rfl) (by kernel_rfl) (fun _ _ _ h => h) (Or.inl ⟨by rfl, fun V hSw => ?hyq2⟩) hHeld ?restq2
              case hyq2 => (obtain ⟨⟨v0, v1, v2, v3, v4, v5⟩, v6⟩ := hSw); go_simp; try with_reducible rfl
              try simp only [Act.put, List.getElem_toArray, List.getElem_cons_zero, List.getElem_cons_succ, List.setIfInBounds_toArray, List.set_cons_zero, List.set_cons_succ]
              refine wpAnyU_pure (i := 3) (v := ?vq3) rfl (by kernel_rfl) (by kernel_rfl) (by kernel_rfl) (by kernel_rfl) (fun _ _ _ h => h) (Or.inl ⟨by rfl, fun V _ => ?hyq3⟩) (fun _ => hHeld) ?restq3
              case hyq3 => go_simp; try with_reducible rfl
              try simp only [Act.put, List.getElem_toArray, List.getElem_cons_zero, List.getElem_cons_succ, List.setIfInBounds_toArray, List.set_cons_zero, List.set_cons_succ]
              refine wpAnyU_pure (i := 4) (v := ?vq4) rfl (by kernel_rfl) (by kernel_rfl) (by kernel_rfl) (by kernel_rfl) (fun _ _ _ h => h) (Or.inl ⟨by rfl, fun V _ => ?hyq4⟩) (fun _ => hHeld) ?restq4
              case hyq4 => go_simp; try with_reducible rfl
              try simp only [Act.put, List.getElem_toArray, List.getElem_cons_zero, List.getElem_cons_succ, List.setIfInBounds_toArray, List.set_cons_zero, List.set_cons_succ]
              refine wpAnyU_ready (rs := [5]) (by kernel_rfl) (by simp) (AllU.cons (i := 5) rfl (fun K hK => ?_) AllU.nil)
              simp only [List.getElem_toArray, List.getElem_cons_zero, List.getElem_cons_succ]
              go_simp
              go_at_call 13
              refine (HOX.out _ (HIE.out.below ((Below.refl _ _).drew))).mono ?_
              rintro e z1 ⟨b4, k4, c4, rfl, y0, y1, y2, b1⟩
              have HK1 := Lib.hid (show Below wr.heap.size wr z1 from ((Below.refl _ _).drew).trans b1)
              clear b1 hHeld
              have hHeld := HS.out _ HK1.out
              refine hK.out _ _ (fun _ => hHeld) ?_
              clear hK K
              have hk4 : (0 : Int) < ((k4 + 1 : Nat) : Int) := by omega
              refine wpAnyU_pure (i := 6) (v := ?vq6) rfl (by kernel_rfl) (by kernel_rfl) (by kernel_rfl) (by kernel_rfl) (fun _ _ _ h => h) (Or.inl ⟨by rfl, fun V _ => ?hyq6⟩) (fun _ => hHeld) ?restq6
              case hyq6 => go_simp; try with_reducible rfl
              try simp only [Act.put, List.getElem_toArray, List.getElem_cons_zero, List.getElem_cons_succ, List.setIfInBounds_toArray, List.set_cons_zero, List.set_cons_succ]
              refine wpAnyU_ready (rs := [7]) (by kernel_rfl) (by simp) (AllU.cons (i := 7) rfl (fun K hK => ?_) AllU.nil)
              simp only [List.getElem_toArray, List.getElem_cons_zero, List.getElem_cons_succ]
              go_simp
              refine hK.out _ _ (fun _ => hHeld) ?_
              clear hK K
              refine wpAnyU_pure (i := 8) (v := ?vq8) rfl (by kernel_rfl) (by kernel_rfl) (by kernel_rfl) (by kernel_rfl) (fun _ _ _ h => h) (Or.inl ⟨by rfl, fun V _ => ?hyq8⟩) (fun _ => hHeld) ?restq8
              case hyq8 => go_simp; try with_reducible rfl
              try simp only [Act.put, List.getElem_toArray, List.getElem_cons_zero, List.getElem_cons_succ, List.setIfInBounds_toArray, List.set_cons_zero, List.set_cons_succ]
              refine wpAnyU_pure (i := 9) (v := ?vq9) rfl (by kernel_rfl) (by kernel_rfl) (by kernel_rfl) (by kernel_rfl) (fun _ _ _ h => h) (Or.inl ⟨by rfl, fun V _ => ?hyq9⟩) (fun _ => hHeld) ?restq9
              case hyq9 => go_simp; try with_reducible rfl
              try simp only [Act.put, List.getElem_toArray, List.getElem_cons_zero, List.getElem_cons_succ, List.setIfInBounds_toArray, List.set_cons_zero, List.set_cons_succ]
              refine wpAnyU_load (i := 10) (v := ?vq10) rfl (by kernel_rfl) (by kernel_rfl) (by kernel_rfl) (by kernel_rfl) (fun _ _ _ h => h) (Or.inl ⟨by rfl, fun V hSw => ?hyq10⟩) hHeld ?restq10
              case hyq10 => (obtain ⟨⟨v0, v1, v2, v3, v4, v5⟩, v6⟩ := hSw); go_simp; try with_reducible rfl
              try simp only [Act.put, List.getElem_toArray, List.getElem_cons_zero, List.getElem_cons_succ, List.setIfInBounds_toArray, List.set_cons_zero, List.set_cons_succ]
              refine wpAnyU_pure (i := 11) (v := ?vq11) rfl (by kernel_rfl) (by kernel_rfl) (by kernel_rfl) (by kernel_rfl) (fun _ _ _ h => h) (Or.inl ⟨by rfl, fun V _ => ?hyq11⟩) (fun _ => hHeld) ?restq11
              case hyq11 => go_simp; try with_reducible rfl
              try simp only [Act.put, List.getElem_toArray, List.getElem_cons_zero, List.getElem_cons_succ, List.setIfInBounds_toArray, List.set_cons_zero, List.set_cons_succ]
              refine wpAnyU_done (by kernel_rfl) ?_ _
              have HX1 := Lib.hid (HX.out.trans (HK1.out.mono HX.out.size))
              have HBz := Lib.hid (HBw.out.trans (HK1.out.mono HBw.out.size))
              clear hHeld t0 t1 t2 t3 t4 t5 g1 y0 y1 y2 hbe HK1 HX HBw HXB HOX HIE HS hk4
              obtain ⟨hz, p0, p1, p2, p3, p4, p5⟩ := XA13.out.below HX1.out
              by_cases hsS : s < S
              · have hsS2 : (s : Int) < (S : Int) := by omega
                cases hns : nextS es s (l : Int) with
                | none =>
                  obtain rfl : x = (S : Int) := by
                    have h := HJT.out
                    rw [if_pos hsS, hns] at h
                    exact h
                  have HOY := Lib.hid (fun W hW => HNA.out W hW s (l : Int) hns)
                  have e9 : ((S : Int) != (S : Int)) = false := by simp
                  clear hns hsS HJT
                  go_wp2_with fail
                  refine (HOY.out _ HBz.out).mono ?_
                  rintro e z2 ⟨A5, c5, rfl, b2⟩
                  have HX2 := Lib.hid (HX1.out.trans (b2.mono HX1.out.size))
                  clear b2
                  go_wp2_with fail
                  go_roundg q2
                  case measure => omega
                  case rel => exact ⟨l + 1, by omega, by go_num, HX2.out⟩
                | some i =>
                  obtain rfl : x = (es.getD i ed0).t := by
                    have h := HJT.out
                    rw [if_pos hsS, hns] at h
                    exact h
                  have HOY := Lib.hid (fun W hW => HSA.out W hW s i (l : Int) hns)
                  have hi1 : i < ne := by rw [← HEL.out]; exact (nextS_some hns).1
                  have hi0 : (0 : Int) ≤ (i : Int) := by omega
                  have hi2 : (i : Int) < (ne : Int) := by omega
                  have e9 : ((es.getD i ed0).t != (es.getD i ed0).t) = false := by simp
                  clear hns hsS HJT
                  go_wp2_with fail
                  refine (HOY.out _ HBz.out).mono ?_
                  rintro e z2 ⟨b5, k5, c5, rfl, v0, v1, v2, b2⟩
                  have HX2 := Lib.hid (HX1.out.trans (b2.mono HX1.out.size))
                  have HBy := Lib.hid (HBz.out.trans (b2.mono HBz.out.size))
                  clear b2 hz p0 p1 p2 p3 p4 p5
                  obtain ⟨hz, p0, p1, p2, p3, p4, p5⟩ := XA13.out.below HX2.out
                  obtain ⟨ba5, oa5, rfl, hba5, hca5⟩ := (HHE.out.below HBy.out).2 (by omega)
                  have g5 := (hca5 i hi1).2.1
                  have hk5 : (0 : Int) < ((k5 + 1 : Nat) : Int) := by omega
                  clear hca5
                  generalize (es.getD i ed0).t = y at *
                  go_wp2_with fail
                  go_quiet (fail)
                  go_wp2_with fail
                  go_roundg q2
                  case measure => omega
                  case rel => exact ⟨l + 1, by omega, by go_num, below_drewN HX2.out _⟩
              · have hsS2 : ¬ (s : Int) < (S : Int) := by omega
                obtain rfl : x = (S : Int) := by
                  have h := HJT.out
                  rw [if_neg hsS] at h
                  exact h
                have e9 : ((S : Int) != (S : Int)) = false := by simp
                clear hsS HJT
                go_wp2_with fail
                go_roundg q2
                case measure => omega
                case rel => exact ⟨l + 1, by omega, by go_num, HX1.out⟩


end Go.Proofs.Ytalgbcndifaaiaa.Wd
