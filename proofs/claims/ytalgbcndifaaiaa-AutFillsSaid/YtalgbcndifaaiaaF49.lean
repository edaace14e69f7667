/-
  AutFills of layer 5: the short ways of the law.
  AutFills of layer 5: the law is true for all automata and all words.
  An automaton that comes in as an argument, opened.
  A list of edges that comes in as an argument, opened.
  An automaton that comes in as an argument, opened.
  The reach bounds the lists of an automaton argument.
-/
import Derived.Test.YtalgbcndifaaiaaF45
import Derived.Test.YtalgbcndifaaiaaF44
import Derived.Test.YtalgbcndifaaiaaF47
import Derived.Test.YtalgbcndifaaiaaF48
import Derived.Test.YtalgbcndifaaiaaF36
import Derived.WalkKit
import Derived.ProofKit
import Derived.OpenShut
import Derived.Deep.Slices
import Derived.Lib.SmallJoins
import Derived.SizedLaws
namespace Go.Proofs.Ytalgbcndifaaiaa.Wd
open Go.RowKit Go.Maps
set_option linter.unusedVariables false
set_option linter.unusedSimpArgs false

set_option maxRecDepth 100000 in
set_option maxHeartbeats 8000000 in
theorem fills_few (P S K M : Int) (A E : Option Addr) (n c ne ce : Nat) (st : List Int) (es : List Ed) (A' B' : Option Addr) (n' c' m' d' : Nat) (sl lp : List Int) (w : World) (ha : Ints w A n st) (hn : n ≤ 17592186044416) (he : EdgesAt w E ne es) (hne : ne ≤ 17592186044416) (hn' : n' ≤ 17592186044416) (hm' : m' ≤ 17592186044416) (hf : few5B 20 100 8 P S K M st es n ne = false) :
    Calls Try.prog 3 #[.agg #[.int .i64 P, .int .i64 S, .slice A n c, .int .i64 K, .int .i64 M, .slice E ne ce], .agg #[.slice A' n' c', .slice B' m' d']] w fun e w' => e = .returned (.bool true) ∧ Below w.heap.size w w' := by
  have HFW := Lib.hid (fun W g (hW : Below w.heap.size w W) (hx : Box6 W g P S A n c K M E ne ce) => few5_any refValid_ok 20 100 8 P S K M A E n c ne ce g st es W (by decide) (by decide) (ha.below hW) hn (he.below hW) hne hx)
  have HFO := Lib.hid (show ∀ W g, Box2 W g A' n' c' B' m' d' → Calls Try.prog 5 #[.int .i64 20, .slice (some ⟨g, 0, none⟩) 1 1] W fun e w' => e = .returned (.bool (decide (n' + m' ≤ 20))) ∧ Below W.heap.size W w' from fun W g hx => few_one g 20 A' B' n' c' m' d' W hx (by decide) hn' hm')
  have HXA := Lib.hid (fun W => Box6.new W P S A n c K M E ne ce 25)
  have HXB := Lib.hid (fun W => Box2.new W A' n' c' B' m' d' 27)
  have HAW := Lib.hid (fun W => awake5_any W)
  rw [hf] at HFW
  clear hf
  obtain ⟨hB0, hx6, hx2⟩ := boxes62 w P S A n c K M E ne ce A' n' c' B' m' d'
  have HB0 := Lib.hid hB0
  have HX6 := Lib.hid hx6
  have HX2 := Lib.hid hx2
  have HBZ := Lib.hid (HB0.out.alloc HB0.out.size (.cells #[.int .i64 P, .int .i64 S, .slice A n c, .int .i64 K, .int .i64 M, .slice E ne ce] 25))
  have HXZ := Lib.hid (show Box6 (((w.alloc (.cells #[.int .i64 P, .int .i64 S, .slice A n c, .int .i64 K, .int .i64 M, .slice E ne ce] 25)).alloc (.cells #[.slice A' n' c', .slice B' m' d'] 27)).alloc (.cells #[.int .i64 P, .int .i64 S, .slice A n c, .int .i64 K, .int .i64 M, .slice E ne ce] 25)) (w.heap.size + 1 + 1) P S A n c K M E ne ce by
    have h := HXA.out ((w.alloc (.cells #[.int .i64 P, .int .i64 S, .slice A n c, .int .i64 K, .int .i64 M, .slice E ne ce] 25)).alloc (.cells #[.slice A' n' c', .slice B' m' d'] 27))
    rw [World.size_alloc, World.size_alloc] at h
    exact h)
  have HX6Z := Lib.hid (HX6.out.below ((Below.refl _ _).alloc (Nat.le_refl _) (.cells #[.int .i64 P, .int .i64 S, .slice A n c, .int .i64 K, .int .i64 M, .slice E ne ce] 25)))
  have HX2Z := Lib.hid (HX2.out.below ((Below.refl _ _).alloc (Nat.le_refl _) (.cells #[.int .i64 P, .int .i64 S, .slice A n c, .int .i64 K, .int .i64 M, .slice E ne ce] 25)))
  clear HB0 HX6 HX2 hB0 hx6 hx2 ha he
  go_enter Try.func3, Try.ntmps3
  go_wp2_with fail
  refine (HFW.out _ (w.heap.size + 1 + 1) HBZ.out HXZ.out).mono ?_
  rintro x w1 ⟨rfl, hb1⟩
  have HB1 := Lib.hid (HBZ.out.trans (hb1.mono HBZ.out.size))
  have HX61 := Lib.hid (HX6Z.out.below hb1)
  have HX21 := Lib.hid (HX2Z.out.below hb1)
  obtain ⟨hz, p0, p1, p2, p3, p4, p5⟩ := HX61.out
  obtain ⟨hz2, r0, r1⟩ := HX21.out
  clear hb1
  go_wp2_with fail
  have HBL := HB1
  refine (HAW.out _).mono ?_
  rintro x w9 ⟨rfl, hb9⟩
  have HB9 := Lib.hid (HBL.out.trans (hb9.mono HBL.out.size))
  clear hb9
  go_wp2_with fail
  go_ret
  exact ⟨rfl, HB9.out⟩

set_option maxRecDepth 100000 in
set_option maxHeartbeats 8000000 in
theorem fills_long (P S K M : Int) (A E : Option Addr) (n c ne ce : Nat) (st : List Int) (es : List Ed) (A' B' : Option Addr) (n' c' m' d' : Nat) (sl lp : List Int) (w : World) (ha : Ints w A n st) (hn : n ≤ 17592186044416) (he : EdgesAt w E ne es) (hne : ne ≤ 17592186044416) (hn' : n' ≤ 17592186044416) (hm' : m' ≤ 17592186044416) (hf : few5B 20 100 8 P S K M st es n ne = true) (hs : ¬ n' + m' ≤ 20) :
    Calls Try.prog 3 #[.agg #[.int .i64 P, .int .i64 S, .slice A n c, .int .i64 K, .int .i64 M, .slice E ne ce], .agg #[.slice A' n' c', .slice B' m' d']] w fun e w' => e = .returned (.bool true) ∧ Below w.heap.size w w' := by
  have HFW := Lib.hid (fun W g (hW : Below w.heap.size w W) (hx : Box6 W g P S A n c K M E ne ce) => few5_any refValid_ok 20 100 8 P S K M A E n c ne ce g st es W (by decide) (by decide) (ha.below hW) hn (he.below hW) hne hx)
  have HFO := Lib.hid (show ∀ W g, Box2 W g A' n' c' B' m' d' → Calls Try.prog 5 #[.int .i64 20, .slice (some ⟨g, 0, none⟩) 1 1] W fun e w' => e = .returned (.bool (decide (n' + m' ≤ 20))) ∧ Below W.heap.size W w' from fun W g hx => few_one g 20 A' B' n' c' m' d' W hx (by decide) hn' hm')
  have HXA := Lib.hid (fun W => Box6.new W P S A n c K M E ne ce 25)
  have HXB := Lib.hid (fun W => Box2.new W A' n' c' B' m' d' 27)
  have HAW := Lib.hid (fun W => awake5_any W)
  rw [hf] at HFW
  rw [decide_eq_false hs] at HFO
  clear hf hs
  obtain ⟨hB0, hx6, hx2⟩ := boxes62 w P S A n c K M E ne ce A' n' c' B' m' d'
  have HB0 := Lib.hid hB0
  have HX6 := Lib.hid hx6
  have HX2 := Lib.hid hx2
  have HBZ := Lib.hid (HB0.out.alloc HB0.out.size (.cells #[.int .i64 P, .int .i64 S, .slice A n c, .int .i64 K, .int .i64 M, .slice E ne ce] 25))
  have HXZ := Lib.hid (show Box6 (((w.alloc (.cells #[.int .i64 P, .int .i64 S, .slice A n c, .int .i64 K, .int .i64 M, .slice E ne ce] 25)).alloc (.cells #[.slice A' n' c', .slice B' m' d'] 27)).alloc (.cells #[.int .i64 P, .int .i64 S, .slice A n c, .int .i64 K, .int .i64 M, .slice E ne ce] 25)) (w.heap.size + 1 + 1) P S A n c K M E ne ce by
    have h := HXA.out ((w.alloc (.cells #[.int .i64 P, .int .i64 S, .slice A n c, .int .i64 K, .int .i64 M, .slice E ne ce] 25)).alloc (.cells #[.slice A' n' c', .slice B' m' d'] 27))
    rw [World.size_alloc, World.size_alloc] at h
    exact h)
  have HX6Z := Lib.hid (HX6.out.below ((Below.refl _ _).alloc (Nat.le_refl _) (.cells #[.int .i64 P, .int .i64 S, .slice A n c, .int .i64 K, .int .i64 M, .slice E ne ce] 25)))
  have HX2Z := Lib.hid (HX2.out.below ((Below.refl _ _).alloc (Nat.le_refl _) (.cells #[.int .i64 P, .int .i64 S, .slice A n c, .int .i64 K, .int .i64 M, .slice E ne ce] 25)))
  clear HB0 HX6 HX2 hB0 hx6 hx2 ha he
  go_enter Try.func3, Try.ntmps3
  go_wp2_with fail
  refine (HFW.out _ (w.heap.size + 1 + 1) HBZ.out HXZ.out).mono ?_
  rintro x w1 ⟨rfl, hb1⟩
  have HB1 := Lib.hid (HBZ.out.trans (hb1.mono HBZ.out.size))
  have HX61 := Lib.hid (HX6Z.out.below hb1)
  have HX21 := Lib.hid (HX2Z.out.below hb1)
  obtain ⟨hz, p0, p1, p2, p3, p4, p5⟩ := HX61.out
  obtain ⟨hz2, r0, r1⟩ := HX21.out
  clear hb1
  go_wp2_with fail
  refine (HFO.out _ w1.heap.size (HXB.out w1)).mono ?_
  rintro x w2 ⟨rfl, hb2⟩
  have hb2' := Lib.hid (((Below.refl w1.heap.size w1).alloc (Nat.le_refl _) (.cells #[.slice A' n' c', .slice B' m' d'] 27)).trans (hb2.mono (by simp)))
  have HB2 := Lib.hid (HB1.out.trans (hb2'.out.mono HB1.out.size))
  have HX62 := Lib.hid (HX61.out.below hb2'.out)
  clear hb2 hz p0 p1 p2 p3 p4 p5 hz2 r0 r1 hb2' HX61 HX21 HB1
  obtain ⟨hz, p0, p1, p2, p3, p4, p5⟩ := HX62.out
  go_wp2_with fail
  have HBL := HB2
  refine (HAW.out _).mono ?_
  rintro x w9 ⟨rfl, hb9⟩
  have HB9 := Lib.hid (HBL.out.trans (hb9.mono HBL.out.size))
  clear hb9
  go_wp2_with fail
  go_ret
  exact ⟨rfl, HB9.out⟩

set_option maxRecDepth 100000 in
set_option maxHeartbeats 8000000 in
theorem fills_bad (P S K M : Int) (A E : Option Addr) (n c ne ce : Nat) (st : List Int) (es : List Ed) (A' B' : Option Addr) (n' c' m' d' : Nat) (sl lp : List Int) (w : World) (ha : Ints w A n st) (hn : n ≤ 17592186044416) (he : EdgesAt w E ne es) (hne : ne ≤ 17592186044416) (hn' : n' ≤ 17592186044416) (hm' : m' ≤ 17592186044416) (hf : few5B 20 100 8 P S K M st es n ne = true) (hs : n' + m' ≤ 20) (hv : autB P S K M st es = false) :
    Calls Try.prog 3 #[.agg #[.int .i64 P, .int .i64 S, .slice A n c, .int .i64 K, .int .i64 M, .slice E ne ce], .agg #[.slice A' n' c', .slice B' m' d']] w fun e w' => e = .returned (.bool true) ∧ Below w.heap.size w w' := by
  have HFW := Lib.hid (fun W g (hW : Below w.heap.size w W) (hx : Box6 W g P S A n c K M E ne ce) => few5_any refValid_ok 20 100 8 P S K M A E n c ne ce g st es W (by decide) (by decide) (ha.below hW) hn (he.below hW) hne hx)
  have HFO := Lib.hid (show ∀ W g, Box2 W g A' n' c' B' m' d' → Calls Try.prog 5 #[.int .i64 20, .slice (some ⟨g, 0, none⟩) 1 1] W fun e w' => e = .returned (.bool (decide (n' + m' ≤ 20))) ∧ Below W.heap.size W w' from fun W g hx => few_one g 20 A' B' n' c' m' d' W hx (by decide) hn' hm')
  have HXA := Lib.hid (fun W => Box6.new W P S A n c K M E ne ce 25)
  have HXB := Lib.hid (fun W => Box2.new W A' n' c' B' m' d' 27)
  have HAW := Lib.hid (fun W => awake5_any W)
  rw [hf] at HFW
  rw [decide_eq_true hs] at HFO
  have HFI := Lib.hid (fun W (hW : Below w.heap.size w W) => by
    have h := fill_bad P S K M A E n c ne ce st es W (ha.below hW) hn (he.below hW) hne hv
    unfold zeroA at h
    exact h)
  have HVA := Lib.hid (fun W (hW : Below w.heap.size w W) => by
    have h := refValid_ok P S K M A E n c ne ce st es W (ha.below hW) hn (he.below hW) hne
    rw [hv] at h
    exact h)
  clear hf hs hv
  obtain ⟨hB0, hx6, hx2⟩ := boxes62 w P S A n c K M E ne ce A' n' c' B' m' d'
  have HB0 := Lib.hid hB0
  have HX6 := Lib.hid hx6
  have HX2 := Lib.hid hx2
  have HBZ := Lib.hid (HB0.out.alloc HB0.out.size (.cells #[.int .i64 P, .int .i64 S, .slice A n c, .int .i64 K, .int .i64 M, .slice E ne ce] 25))
  have HXZ := Lib.hid (show Box6 (((w.alloc (.cells #[.int .i64 P, .int .i64 S, .slice A n c, .int .i64 K, .int .i64 M, .slice E ne ce] 25)).alloc (.cells #[.slice A' n' c', .slice B' m' d'] 27)).alloc (.cells #[.int .i64 P, .int .i64 S, .slice A n c, .int .i64 K, .int .i64 M, .slice E ne ce] 25)) (w.heap.size + 1 + 1) P S A n c K M E ne ce by
    have h := HXA.out ((w.alloc (.cells #[.int .i64 P, .int .i64 S, .slice A n c, .int .i64 K, .int .i64 M, .slice E ne ce] 25)).alloc (.cells #[.slice A' n' c', .slice B' m' d'] 27))
    rw [World.size_alloc, World.size_alloc] at h
    exact h)
  have HX6Z := Lib.hid (HX6.out.below ((Below.refl _ _).alloc (Nat.le_refl _) (.cells #[.int .i64 P, .int .i64 S, .slice A n c, .int .i64 K, .int .i64 M, .slice E ne ce] 25)))
  have HX2Z := Lib.hid (HX2.out.below ((Below.refl _ _).alloc (Nat.le_refl _) (.cells #[.int .i64 P, .int .i64 S, .slice A n c, .int .i64 K, .int .i64 M, .slice E ne ce] 25)))
  clear HB0 HX6 HX2 hB0 hx6 hx2 ha he
  go_enter Try.func3, Try.ntmps3
  go_wp2_with fail
  refine (HFW.out _ (w.heap.size + 1 + 1) HBZ.out HXZ.out).mono ?_
  rintro x w1 ⟨rfl, hb1⟩
  have HB1 := Lib.hid (HBZ.out.trans (hb1.mono HBZ.out.size))
  have HX61 := Lib.hid (HX6Z.out.below hb1)
  have HX21 := Lib.hid (HX2Z.out.below hb1)
  obtain ⟨hz, p0, p1, p2, p3, p4, p5⟩ := HX61.out
  obtain ⟨hz2, r0, r1⟩ := HX21.out
  clear hb1
  go_wp2_with fail
  refine (HFO.out _ w1.heap.size (HXB.out w1)).mono ?_
  rintro x w2 ⟨rfl, hb2⟩
  have hb2' := Lib.hid (((Below.refl w1.heap.size w1).alloc (Nat.le_refl _) (.cells #[.slice A' n' c', .slice B' m' d'] 27)).trans (hb2.mono (by simp)))
  have HB2 := Lib.hid (HB1.out.trans (hb2'.out.mono HB1.out.size))
  have HX62 := Lib.hid (HX61.out.below hb2'.out)
  clear hb2 hz p0 p1 p2 p3 p4 p5 hz2 r0 r1 hb2' HX61 HX21 HB1
  obtain ⟨hz, p0, p1, p2, p3, p4, p5⟩ := HX62.out
  go_wp2_with fail
  refine (HFI.out _ HB2.out).mono ?_
  rintro x w3 ⟨rfl, hb3⟩
  have HB3 := Lib.hid (HB2.out.trans (hb3.mono HB2.out.size))
  have HX63 := Lib.hid (HX62.out.below hb3)
  have HBL0 := Lib.hid (show Below w.heap.size w (w3.alloc (.cells #[.int .i64 0, .int .i64 0, .slice none 0 0, .int .i64 0, .int .i64 0, .slice none 0 0] 25)) from HB3.out.alloc HB3.out.size _)
  have HX64 := Lib.hid (HX63.out.below ((Below.refl _ _).alloc (Nat.le_refl _) (.cells #[.int .i64 0, .int .i64 0, .slice none 0 0, .int .i64 0, .int .i64 0, .slice none 0 0] 25)))
  clear hb3 hz p0 p1 p2 p3 p4 p5
  obtain ⟨hz, p0, p1, p2, p3, p4, p5⟩ := HX64.out
  go_wp2_with fail
  refine (HVA.out _ HBL0.out).mono ?_
  rintro x w4 ⟨rfl, hb4⟩
  have HB4 := Lib.hid (HBL0.out.trans (hb4.mono HBL0.out.size))
  have HX65 := Lib.hid (HX64.out.below hb4)
  clear hb4 hz p0 p1 p2 p3 p4 p5
  obtain ⟨hz, p0, p1, p2, p3, p4, p5⟩ := HX65.out
  go_wp2_with fail
  have HBL := HB4
  refine (HAW.out _).mono ?_
  rintro x w9 ⟨rfl, hb9⟩
  have HB9 := Lib.hid (HBL.out.trans (hb9.mono HBL.out.size))
  clear hb9
  go_wp2_with fail
  go_ret
  exact ⟨rfl, HB9.out⟩

set_option maxRecDepth 100000 in
set_option maxHeartbeats 8000000 in
theorem fills_kind (P S : Nat) (K M : Int) (A E : Option Addr) (n c ne ce : Nat) (st : List Int) (es : List Ed) (A' B' : Option Addr) (n' c' m' d' : Nat) (sl lp : List Int) (w : World) (ha : Ints w A n st) (hn : n ≤ 17592186044416) (he : EdgesAt w E ne es) (hne : ne ≤ 17592186044416) (hn' : n' ≤ 17592186044416) (hm' : m' ≤ 17592186044416) (hbo : BitsOK es) (hf : few5B 20 100 8 P S K M st es n ne = true) (hs : n' + m' ≤ 20) (hv : autB P S K M st es = true) (hk : clashB P es ne = true ∨ (clashB P es ne = false ∧ 1 < n)) :
    Calls Try.prog 3 #[.agg #[.int .i64 P, .int .i64 S, .slice A n c, .int .i64 K, .int .i64 M, .slice E ne ce], .agg #[.slice A' n' c', .slice B' m' d']] w fun e w' => e = .returned (.bool true) ∧ Below w.heap.size w w' := by
  have HFW := Lib.hid (fun W g (hW : Below w.heap.size w W) (hx : Box6 W g P S A n c K M E ne ce) => few5_any refValid_ok 20 100 8 P S K M A E n c ne ce g st es W (by decide) (by decide) (ha.below hW) hn (he.below hW) hne hx)
  have HFO := Lib.hid (show ∀ W g, Box2 W g A' n' c' B' m' d' → Calls Try.prog 5 #[.int .i64 20, .slice (some ⟨g, 0, none⟩) 1 1] W fun e w' => e = .returned (.bool (decide (n' + m' ≤ 20))) ∧ Below W.heap.size W w' from fun W g hx => few_one g 20 A' B' n' c' m' d' W hx (by decide) hn' hm')
  have HXA := Lib.hid (fun W => Box6.new W P S A n c K M E ne ce 25)
  have HXB := Lib.hid (fun W => Box2.new W A' n' c' B' m' d' 27)
  have HAW := Lib.hid (fun W => awake5_any W)
  rw [hf] at HFW
  rw [decide_eq_true hs] at HFO
  obtain ⟨⟨h1, h2, h5, h6, _⟩, _, _, h4, h7⟩ := autB_true hv
  have hL := he.1
  have HFI := Lib.hid (fun W (hW : Below w.heap.size w W) => by
    have h := fill_kind P S K M A E n c ne ce st es W (ha.below hW) hn (by omega) (by omega) (he.below hW) (by omega) hv hk (fun j hj => from_state h7 j (by omega))
    unfold zeroA at h
    exact h)
  have HVA := Lib.hid (fun W (hW : Below w.heap.size w W) => by
    have h := refValid_ok P S K M A E n c ne ce st es W (ha.below hW) hn (he.below hW) hne
    rw [hv] at h
    exact h)
  have HHA := Lib.hid (fun W (hW : Below w.heap.size w W) => by
    have h := refHalf_any P S K M A E n c ne ce es W (he.below hW) (by omega) hn (by omega) (by omega) h7 hbo
    rw [show (decide (n ≤ 1) && !clashB P es ne) = false by
      rcases hk with hk | ⟨_, hk⟩
      · have hk2 : clashB P es ne = true := hk
        rw [hk2]; simp
      · rw [decide_eq_false (by omega)]; rfl] at h
    exact h)
  clear hf hs hv hk hbo h1 h2 h4 h5 h6 h7 hL
  obtain ⟨hB0, hx6, hx2⟩ := boxes62 w P S A n c K M E ne ce A' n' c' B' m' d'
  have HB0 := Lib.hid hB0
  have HX6 := Lib.hid hx6
  have HX2 := Lib.hid hx2
  have HBZ := Lib.hid (HB0.out.alloc HB0.out.size (.cells #[.int .i64 P, .int .i64 S, .slice A n c, .int .i64 K, .int .i64 M, .slice E ne ce] 25))
  have HXZ := Lib.hid (show Box6 (((w.alloc (.cells #[.int .i64 P, .int .i64 S, .slice A n c, .int .i64 K, .int .i64 M, .slice E ne ce] 25)).alloc (.cells #[.slice A' n' c', .slice B' m' d'] 27)).alloc (.cells #[.int .i64 P, .int .i64 S, .slice A n c, .int .i64 K, .int .i64 M, .slice E ne ce] 25)) (w.heap.size + 1 + 1) P S A n c K M E ne ce by
    have h := HXA.out ((w.alloc (.cells #[.int .i64 P, .int .i64 S, .slice A n c, .int .i64 K, .int .i64 M, .slice E ne ce] 25)).alloc (.cells #[.slice A' n' c', .slice B' m' d'] 27))
    rw [World.size_alloc, World.size_alloc] at h
    exact h)
  have HX6Z := Lib.hid (HX6.out.below ((Below.refl _ _).alloc (Nat.le_refl _) (.cells #[.int .i64 P, .int .i64 S, .slice A n c, .int .i64 K, .int .i64 M, .slice E ne ce] 25)))
  have HX2Z := Lib.hid (HX2.out.below ((Below.refl _ _).alloc (Nat.le_refl _) (.cells #[.int .i64 P, .int .i64 S, .slice A n c, .int .i64 K, .int .i64 M, .slice E ne ce] 25)))
  clear HB0 HX6 HX2 hB0 hx6 hx2 ha he
  go_enter Try.func3, Try.ntmps3
  go_wp2_with fail
  refine (HFW.out _ (w.heap.size + 1 + 1) HBZ.out HXZ.out).mono ?_
  rintro x w1 ⟨rfl, hb1⟩
  have HB1 := Lib.hid (HBZ.out.trans (hb1.mono HBZ.out.size))
  have HX61 := Lib.hid (HX6Z.out.below hb1)
  have HX21 := Lib.hid (HX2Z.out.below hb1)
  obtain ⟨hz, p0, p1, p2, p3, p4, p5⟩ := HX61.out
  obtain ⟨hz2, r0, r1⟩ := HX21.out
  clear hb1
  go_wp2_with fail
  refine (HFO.out _ w1.heap.size (HXB.out w1)).mono ?_
  rintro x w2 ⟨rfl, hb2⟩
  have hb2' := Lib.hid (((Below.refl w1.heap.size w1).alloc (Nat.le_refl _) (.cells #[.slice A' n' c', .slice B' m' d'] 27)).trans (hb2.mono (by simp)))
  have HB2 := Lib.hid (HB1.out.trans (hb2'.out.mono HB1.out.size))
  have HX62 := Lib.hid (HX61.out.below hb2'.out)
  clear hb2 hz p0 p1 p2 p3 p4 p5 hz2 r0 r1 hb2' HX61 HX21 HB1
  obtain ⟨hz, p0, p1, p2, p3, p4, p5⟩ := HX62.out
  go_wp2_with fail
  refine (HFI.out _ HB2.out).mono ?_
  rintro x w3 ⟨rfl, hb3⟩
  have HB3 := Lib.hid (HB2.out.trans (hb3.mono HB2.out.size))
  have HX63 := Lib.hid (HX62.out.below hb3)
  have HBL0 := Lib.hid (show Below w.heap.size w (w3.alloc (.cells #[.int .i64 0, .int .i64 0, .slice none 0 0, .int .i64 0, .int .i64 0, .slice none 0 0] 25)) from HB3.out.alloc HB3.out.size _)
  have HX64 := Lib.hid (HX63.out.below ((Below.refl _ _).alloc (Nat.le_refl _) (.cells #[.int .i64 0, .int .i64 0, .slice none 0 0, .int .i64 0, .int .i64 0, .slice none 0 0] 25)))
  clear hb3 hz p0 p1 p2 p3 p4 p5
  obtain ⟨hz, p0, p1, p2, p3, p4, p5⟩ := HX64.out
  go_wp2_with fail
  refine (HVA.out _ HBL0.out).mono ?_
  rintro x w4 ⟨rfl, hb4⟩
  have HB4 := Lib.hid (HBL0.out.trans (hb4.mono HBL0.out.size))
  have HX65 := Lib.hid (HX64.out.below hb4)
  clear hb4 hz p0 p1 p2 p3 p4 p5
  obtain ⟨hz, p0, p1, p2, p3, p4, p5⟩ := HX65.out
  go_wp2_with fail
  refine (HHA.out _ HB4.out).mono ?_
  rintro x w5 ⟨rfl, hb5⟩
  have HBL := Lib.hid (HB4.out.trans (hb5.mono HB4.out.size))
  clear hb5
  go_wp2_with fail
  refine (HAW.out _).mono ?_
  rintro x w9 ⟨rfl, hb9⟩
  have HB9 := Lib.hid (HBL.out.trans (hb9.mono HBL.out.size))
  clear hb9
  go_wp2_with fail
  go_ret
  exact ⟨rfl, HB9.out⟩

end Go.Proofs.Ytalgbcndifaaiaa.Wd

namespace Go.Proofs.Ytalgbcndifaaiaa.Wd
open Go.RowKit
set_option linter.unusedVariables false

theorem fills_law (P S K M : Int) (A E : Option Addr) (n c ne ce : Nat) (st : List Int) (es : List Ed) (A' B' : Option Addr) (n' c' m' d' : Nat) (sl lp : List Int) (w : World) (ha : Ints w A n st) (hn : n ≤ 17592186044416) (he : EdgesAt w E ne es) (hne : ne ≤ 17592186044416) (hbo : BitsOK es) (hx : Ints w A' n' sl) (hy : Ints w B' m' lp) (hnc : n' ≤ c') (hmd : m' ≤ d') (hn' : n' ≤ 17592186044416) (hm' : m' ≤ 17592186044416) :
    Calls Try.prog 3 #[.agg #[.int .i64 P, .int .i64 S, .slice A n c, .int .i64 K, .int .i64 M, .slice E ne ce], .agg #[.slice A' n' c', .slice B' m' d']] w fun e w' => e = .returned (.bool true) ∧ Below w.heap.size w w' := by
  cases hf : few5B 20 100 8 P S K M st es n ne
  · exact fills_few P S K M A E n c ne ce st es A' B' n' c' m' d' sl lp w ha hn he hne hn' hm' hf
  · by_cases hs : n' + m' ≤ 20
    · cases hv : autB P S K M st es
      · exact fills_bad P S K M A E n c ne ce st es A' B' n' c' m' d' sl lp w ha hn he hne hn' hm' hf hs hv
      · obtain ⟨⟨h1, h2, h5, h6, h0, _⟩, hM, _, h4, _⟩ := autB_true hv
        obtain ⟨p, rfl⟩ := Int.eq_ofNat_of_zero_le h1
        obtain ⟨s, rfl⟩ := Int.eq_ofNat_of_zero_le h5
        obtain ⟨kd, rfl⟩ := Int.eq_ofNat_of_zero_le h0
        obtain ⟨mm, rfl⟩ := Int.eq_ofNat_of_zero_le (marksB_few hM).1
        cases hcl : clashB p es ne
        · by_cases hn1 : n ≤ 1
          · obtain rfl : es.length = ne := he.1
            have hfew := hf
            unfold few5B at hfew
            rw [hv] at hfew
            simp only [Bool.and_eq_true, Bool.or_eq_true, Bool.not_true, Bool.false_eq_true, false_or, decide_eq_true_eq] at hfew
            obtain ⟨⟨f1, _⟩, f2, f3⟩ := hfew
            by_cases hfu : n = 1 ∧ fullB p es s = true
            · obtain ⟨rfl, hfu⟩ := hfu
              exact fills_good_a p s kd mm 1 s mm A E c es.length ce st st es es A' B' n' c' m' d' sl lp w ha he hbo hx hy hnc hmd hs hn1 hv hcl hf (bd_full hv hcl ha.1 hfu (by omega) (by omega) hbo) (Lib.hid hfu) (Lib.hid rfl) (fun W hW => fill_i A E c ce W (ha.below hW) (he.below hW) hv hcl hfu)
            · have hfu' : n = 1 → fullB p es s = false := fun h => Bool.eq_false_iff.2 fun h2 => hfu ⟨h, h2⟩
              have D := bd_lack hv hcl ha.1 hn1 hfu' (by omega) (by omega) hbo
              have hlen := D.few.2
              by_cases hn0 : n = 0
              · exact fills_good_0 p s kd mm n (s + 1) ((mm : Int) + addF kd mm).toNat A E c es.length ce st (stF n s st) es (fillL p s kd mm es) A' B' n' c' m' d' sl lp w ha he hbo hx hy hnc hmd hs hn1 hv hcl hf D (Lib.hid hn0) (fun W hW => fill_ii A E n c ce W (ha.below hW) (he.below hW) hv hcl hn1 hfu' (by omega) (by omega))
              · exact fills_good_1 p s kd mm n (s + 1) ((mm : Int) + addF kd mm).toNat A E c es.length ce st (stF n s st) es (fillL p s kd mm es) A' B' n' c' m' d' sl lp w ha he hbo hx hy hnc hmd hs hn1 hv hcl hf D (Lib.hid (hfu' (by omega))) (Lib.hid (by omega)) (fun W hW => fill_ii A E n c ce W (ha.below hW) (he.below hW) hv hcl hn1 hfu' (by omega) (by omega))
          · exact fills_kind p s kd mm A E n c ne ce st es A' B' n' c' m' d' sl lp w ha hn he hne hn' hm' hbo hf hs hv (.inr ⟨hcl, by omega⟩)
        · exact fills_kind p s kd mm A E n c ne ce st es A' B' n' c' m' d' sl lp w ha hn he hne hn' hm' hbo hf hs hv (.inl hcl)
    · exact fills_long P S K M A E n c ne ce st es A' B' n' c' m' d' sl lp w ha hn he hne hn' hm' hf hs

end Go.Proofs.Ytalgbcndifaaiaa.Wd

namespace Go.Proofs.Ytalgbcndifaaiaa.Wd
open Go.ChangeShapes Go.WideShapes Go.ChangeAt Go.RowKit Go.Joins
set_option linter.unusedVariables false

theorem cellsInt5 : Try.prog.cellsOf 3 = 1 := by kernel_rfl
theorem cellsEdge : Try.prog.cellsOf 37 = 5 := by kernel_rfl
theorem cellsAut : Try.prog.cellsOf 25 = 6 := by kernel_rfl
theorem cellsInts5 : Try.prog.cellsOf 22 = 1 := by kernel_rfl
theorem cellsEdges : Try.prog.cellsOf 23 = 1 := by kernel_rfl
/-- A word of 64 bits. -/
def W64 (x : Int) : Prop := -9223372036854775808 ≤ x ∧ x < 9223372036854775808
theorem w64_of {x : Int} (h : (Lit.int .i64 x).wf = true) : W64 x := by
  simp only [Lit.wf, Bool.and_eq_true, decide_eq_true_eq] at h
  unfold W64
  have h1 := h.1
  have h2 := h.2
  simp [IntKind.min, IntKind.max, IntKind.bits, IntKind.signed] at h1 h2
  omega

theorem list5 {α : Type} {l : List α} (h : l.length = 5) : ∃ a b c d e, l = [a, b, c, d, e] := by
  match l, h with
  | [a, b, c, d, e], _ => exact ⟨a, b, c, d, e, rfl⟩

section
variable {H : Type} {enc : TypeId × Value → H} {w : World}
set_option maxRecDepth 100000 in
theorem open_edge {n : Nat} {cs : List Value} {y : DataW H × List MemPlace} (h : DataW.trod enc Try.prog w 0 (fun _ => true) true n 37 cs = some y) : ∃ e : Ed, cs = edV e ∧ W64 e.f ∧ W64 e.t ∧ W64 e.c ∧ W64 e.b ∧ W64 e.m := by
  obtain ⟨xs, k, _, rfl, hl, hlen, hf⟩ := DataW.trod_struct Try.underlying37 h
  rw [cellsEdge] at hl
  obtain ⟨v0, v1, v2, v3, v4, rfl⟩ := list5 hl
  have key : ∀ (v : Value) (r : DataW H × List MemPlace), DataW.trod enc Try.prog w 0 (fun _ => true) true k 3 [v] = some r → ∃ x : Int, v = .int .i64 x ∧ W64 x := fun v r hr => by
    obtain ⟨x, h1, _, h3⟩ := DataW.trod_int Try.underlying3 hr
    exact ⟨x, by simpa using h1, w64_of h3⟩
  obtain ⟨y0, y1, y2, y3, y4, rfl⟩ := list5 (by simpa using hlen)
  have h0 : DataW.trod enc Try.prog w 0 (fun _ => true) true k 3 [v0] = some y0 := by
    have h := hf 0 _ rfl
    simpa [cellsInt5] using h
  have h1 : DataW.trod enc Try.prog w 0 (fun _ => true) true k 3 [v1] = some y1 := by
    have h := hf 1 _ rfl
    simpa [cellsInt5] using h
  have h2 : DataW.trod enc Try.prog w 0 (fun _ => true) true k 3 [v2] = some y2 := by
    have h := hf 2 _ rfl
    simpa [cellsInt5] using h
  have h3 : DataW.trod enc Try.prog w 0 (fun _ => true) true k 3 [v3] = some y3 := by
    have h := hf 3 _ rfl
    simpa [cellsInt5] using h
  have h4 : DataW.trod enc Try.prog w 0 (fun _ => true) true k 3 [v4] = some y4 := by
    have h := hf 4 _ rfl
    simpa [cellsInt5] using h
  obtain ⟨x0, rfl, g0⟩ := key _ _ h0
  obtain ⟨x1, rfl, g1⟩ := key _ _ h1
  obtain ⟨x2, rfl, g2⟩ := key _ _ h2
  obtain ⟨x3, rfl, g3⟩ := key _ _ h3
  obtain ⟨x4, rfl, g4⟩ := key _ _ h4
  exact ⟨⟨x0, x1, x2, x3, x4⟩, rfl, g0, g1, g2, g3, g4⟩
end

end Go.Proofs.Ytalgbcndifaaiaa.Wd

namespace Go.Proofs.Ytalgbcndifaaiaa.Wd
open Go.ChangeShapes Go.WideShapes Go.ChangeAt Go.RowKit Go.Joins
set_option linter.unusedVariables false

/-- The datum of a slice whose array has c elements. -/
def SlD {H : Type} (d : DataW H) (c : Nat) : Prop := (d = .nil ∧ c = 0) ∨ ∃ es sp, d = .slice es sp ∧ es.length + sp.length = c

theorem cells5_at {w : World} {a : Addr} {c0 c1 c2 c3 c4 : Value} (h : w.cells? 0 a 5 = some [c0, c1, c2, c3, c4]) : w.cell? (a.add 0) = some c0 ∧ w.cell? (a.add 1) = some c1 ∧ w.cell? (a.add 2) = some c2 ∧ w.cell? (a.add 3) = some c3 ∧ w.cell? (a.add 4) = some c4 := by
  unfold World.cells? at h
  rw [if_pos (Nat.zero_le _), show List.range 5 = [0, 1, 2, 3, 4] from rfl] at h
  cases h0 : w.cell? (a.add 0) with
  | none => simp [List.mapM_cons, h0] at h
  | some x0 =>
    cases h1 : w.cell? (a.add 1) with
    | none => simp [List.mapM_cons, h0, h1] at h
    | some x1 =>
      cases h2 : w.cell? (a.add 2) with
      | none => simp [List.mapM_cons, h0, h1, h2] at h
      | some x2 =>
        cases h3 : w.cell? (a.add 3) with
        | none => simp [List.mapM_cons, h0, h1, h2, h3] at h
        | some x3 =>
          cases h4 : w.cell? (a.add 4) with
          | none => simp [List.mapM_cons, h0, h1, h2, h3, h4] at h
          | some x4 =>
            simp [List.mapM_cons, h0, h1, h2, h3, h4] at h
            obtain ⟨rfl, rfl, rfl, rfl, rfl⟩ := h
            exact ⟨rfl, rfl, rfl, rfl, rfl⟩

section
variable {H : Type} {enc : TypeId × Value → H} {w : World}
set_option maxRecDepth 100000 in
theorem open_edges {n : Nat} {v : Value} {y : DataW H × List MemPlace} (h : DataW.trod enc Try.prog w 0 (fun _ => true) true n 23 [v] = some y) :
    ∃ A len c es, v = .slice A len c ∧ EdgesAt w A len es ∧ BitsOK es ∧ len ≤ c ∧ c ≤ maxLen ∧ SlD y.1 c := by
  rcases Go.Deep.open_slice Try.underlying23 h with ⟨e, rfl⟩ | ⟨a, len, cap, m, k, D, Pl, e, _, hl, hm, hmm, rfl, hc⟩
  · exact ⟨none, 0, 0, [], by simpa using e, ⟨rfl, fun h => by omega⟩, (fun i hi => by simp at hi), by omega, by simp [maxLen], .inl ⟨rfl, rfl⟩⟩
  · rw [if_pos rfl] at hmm
    subst hmm
    rw [cellsEdge] at hc
    have key : ∀ i, ∃ e : Ed, i < m → (w.cells? 0 (a.add (i * 5)) 5 = some (edV e) ∧ W64 e.b) := fun i => by
      by_cases hi : i < m
      · obtain ⟨cs', h1, h2⟩ := hc i hi
        obtain ⟨e, rfl, _, _, _, h3, _⟩ := open_edge h2
        exact ⟨e, fun _ => ⟨h1, h3⟩⟩
      · exact ⟨ed0, fun h => absurd h hi⟩
    obtain ⟨f, hf⟩ := Classical.skolem.1 key
    have hget : ∀ j, j < len → ((List.range len).map f).getD j ed0 = f j := fun j hj => by simp [List.getD_eq_getElem?_getD, hj]
    refine ⟨some a, len, m, (List.range len).map f, by simpa using e, ⟨by simp, fun hn => ?_⟩, fun i hi => ?_, hl, hm, .inr ⟨_, _, rfl, by simp; omega⟩⟩
    · obtain ⟨b, off, spot⟩ := a
      have h0 := cells5_at (hf 0 (by omega)).1
      have hspot : spot = none := by simpa [Addr.add] using World.cell?_spot h0.1
      subst hspot
      refine ⟨b, off, rfl, ?_, fun j hj => ?_⟩
      · have := World.block_lt_of_cell? _ _ h0.1
        simpa [Addr.add] using this
      · rw [hget j hj]
        obtain ⟨g0, g1, g2, g3, g4⟩ := cells5_at (hf j (by omega)).1
        rw [Addr.add_lit, Addr.add_lit] at g0 g1 g2 g3 g4
        exact ⟨g0, g1, g2, g3, g4⟩
    · have hi2 : i < len := by simpa using hi
      rw [hget i hi2]
      exact (hf i (by omega)).2
end

end Go.Proofs.Ytalgbcndifaaiaa.Wd

namespace Go.Proofs.Ytalgbcndifaaiaa.Wd
open Go.ChangeShapes Go.WideShapes Go.ChangeAt Go.RowKit Go.Joins
set_option linter.unusedVariables false

theorem list6 {α : Type} {l : List α} (h : l.length = 6) : ∃ a b c d e f, l = [a, b, c, d, e, f] := by
  match l, h with
  | [a, b, c, d, e, f], _ => exact ⟨a, b, c, d, e, f, rfl⟩
theorem array6 {α : Type} {l : Array α} (h : l.size = 6) : ∃ a b c d e f, l = #[a, b, c, d, e, f] := by
  obtain ⟨l⟩ := l
  obtain ⟨a, b, c, d, e, f, rfl⟩ := list6 (by simpa using h)
  exact ⟨a, b, c, d, e, f, rfl⟩

section
variable {H : Type} {enc : TypeId × Value → H} {w : World}
theorem open_list5 {n : Nat} {v : Value} {y : DataW H × List MemPlace} (h : DataW.trod enc Try.prog w 0 (fun _ => true) true n 22 [v] = some y) :
    ∃ A len c xs, v = .slice A len c ∧ Ints w A len xs ∧ len ≤ c ∧ SlD y.1 c := by
  rcases open_ints Try.underlying22 Try.underlying3 cellsInt5 h with ⟨e, rfl⟩ | ⟨a, len, cap, zs, e, _, hl, hm, hz, rfl, hc, hw⟩
  · exact ⟨none, 0, 0, [], by simpa using e, Ints.none_, Nat.le_refl _, .inl ⟨rfl, rfl⟩⟩
  · simp only [if_true] at hz
    refine ⟨some a, len, cap, zs.take len, by simpa using e, ⟨by rw [List.length_take]; omega, fun hn => ?_⟩, hl, .inr ⟨_, _, rfl, by simp [lits]; omega⟩⟩
    obtain ⟨b, off, spot⟩ := a
    have h0 := hc 0 (by omega)
    have hspot : spot = none := by simpa [Addr.add] using World.cell?_spot h0
    subst hspot
    refine ⟨b, off, rfl, ?_, fun j hj => ?_⟩
    · have := World.block_lt_of_cell? _ _ h0
      simpa [Addr.add] using this
    · have := hc j (by omega)
      rw [Addr.add_lit] at this
      rw [this]
      simp [List.getD_eq_getElem?_getD, hj]

set_option maxRecDepth 100000 in
theorem open_aut {r : Reach} {b0 : Nat} {v : Value} {d : DataW H} {p : List MemPlace} (hv : Value.okWide Try.prog w r b0 25 v) (h : DataW.Trod enc Try.prog w 0 (fun _ => true) true 25 v d p) :
    ∃ P S K M A n c E ne ce st es, ∃ d0 d1 d2 d3 d4 d5, d = .agg [d0, d1, d2, d3, d4, d5] ∧ SlD d2 c ∧ SlD d5 ce ∧ v = .agg #[.int .i64 P, .int .i64 S, .slice A n c, .int .i64 K, .int .i64 M, .slice E ne ce] ∧ Ints w A n st ∧ EdgesAt w E ne es ∧ BitsOK es ∧ n ≤ c ∧ ne ≤ ce ∧ W64 P ∧ W64 S ∧ W64 K ∧ W64 M := by
  obtain ⟨cs, rfl, hsz⟩ := okWide_struct Try.underlying25 hv
  obtain ⟨v0, v1, v2, v3, v4, v5, rfl⟩ := array6 (hsz.trans cellsAut)
  obtain ⟨fuel, hf⟩ := h
  obtain ⟨xs, k, _, hx, hl, hlen, hf⟩ := DataW.trod_struct Try.underlying25 hf
  obtain ⟨y0, y1, y2, y3, y4, y5, rfl⟩ := list6 (by simpa using hlen)
  have key : ∀ (v : Value) (r : DataW H × List MemPlace), DataW.trod enc Try.prog w 0 (fun _ => true) true k 3 [v] = some r → ∃ x : Int, v = .int .i64 x ∧ W64 x := fun v r hr => by
    obtain ⟨x, h1, _, h3⟩ := DataW.trod_int Try.underlying3 hr
    exact ⟨x, by simpa using h1, w64_of h3⟩
  have h0 : DataW.trod enc Try.prog w 0 (fun _ => true) true k 3 [v0] = some y0 := by
    have h := hf 0 _ rfl
    simpa [Value.cells, cellsInt5] using h
  have h1 : DataW.trod enc Try.prog w 0 (fun _ => true) true k 3 [v1] = some y1 := by
    have h := hf 1 _ rfl
    simpa [Value.cells, cellsInt5] using h
  have h2 : DataW.trod enc Try.prog w 0 (fun _ => true) true k 22 [v2] = some y2 := by
    have h := hf 2 _ rfl
    simpa [Value.cells, cellsInts5] using h
  have h3 : DataW.trod enc Try.prog w 0 (fun _ => true) true k 3 [v3] = some y3 := by
    have h := hf 3 _ rfl
    simpa [Value.cells, cellsInt5] using h
  have h4 : DataW.trod enc Try.prog w 0 (fun _ => true) true k 3 [v4] = some y4 := by
    have h := hf 4 _ rfl
    simpa [Value.cells, cellsInt5] using h
  have h5 : DataW.trod enc Try.prog w 0 (fun _ => true) true k 23 [v5] = some y5 := by
    have h := hf 5 _ rfl
    simpa [Value.cells, cellsEdges] using h
  obtain ⟨P, rfl, g0⟩ := key _ _ h0
  obtain ⟨S, rfl, g1⟩ := key _ _ h1
  obtain ⟨K, rfl, g3⟩ := key _ _ h3
  obtain ⟨M, rfl, g4⟩ := key _ _ h4
  obtain ⟨A, n, c, st, rfl, i1, i2, i3⟩ := open_list5 h2
  obtain ⟨E, ne, ce, es, rfl, e1, e2, e3, _, e4⟩ := open_edges h5
  simp only [Prod.mk.injEq] at hx
  exact ⟨P, S, K, M, A, n, c, E, ne, ce, st, es, _, _, _, _, _, _, hx.1, i3, e4, rfl, i1, e1, e2, i2, e3, g0, g1, g3, g4⟩
end

end Go.Proofs.Ytalgbcndifaaiaa.Wd

namespace Go.Proofs.Ytalgbcndifaaiaa.Wd
open Go.ChangeShapes Go.WideShapes Go.ChangeAt Go.RowKit Go.Joins
set_option linter.unusedVariables false

theorem bytesInt5 : Try.prog.bytesOf 3 = 8 := by kernel_rfl
theorem bytesEdge : Try.prog.bytesOf 37 = 40 := by kernel_rfl

section
variable {H : Type} {enc : TypeId × Value → H} {w : World}
set_option maxRecDepth 100000 in
theorem reach_aut {ts : List TypeId} {ds : List (DataW H)} (hsz : (DataW.weightsEach Try.prog ts ds).all (· ≤ reachBytes) = true) {j : Nat} (ht : ts[j]? = some 25) {d0 d1 d2 d3 d4 d5 : DataW H} (hd : ds[j]? = some (.agg [d0, d1, d2, d3, d4, d5])) {c ce : Nat} (s2 : SlD d2 c) (s5 : SlD d5 ce) :
    c ≤ 17592186044416 ∧ ce ≤ 17592186044416 := by
  have key : ∀ k ∈ (DataW.agg [d0, d1, d2, d3, d4, d5]).weights Try.prog 25, k ≤ reachBytes := fun k hk => by
    exact of_decide_eq_true (List.all_eq_true.1 hsz k (DataW.weights_mem_each ht hd k hk))
  simp only [reachBytes] at key
  constructor
  · rcases s2 with ⟨_, rfl⟩ | ⟨es, sp, rfl, rfl⟩
    · omega
    · have := key ((es.length + sp.length) * 8) (by simp [DataW.weights, DataW.weightsEach, Try.underlying25, Try.underlying22, bytesInt5])
      omega
  · rcases s5 with ⟨_, rfl⟩ | ⟨es, sp, rfl, rfl⟩
    · omega
    · have := key ((es.length + sp.length) * 40) (by simp [DataW.weights, DataW.weightsEach, Try.underlying25, Try.underlying23, bytesEdge])
      omega
end

end Go.Proofs.Ytalgbcndifaaiaa.Wd
