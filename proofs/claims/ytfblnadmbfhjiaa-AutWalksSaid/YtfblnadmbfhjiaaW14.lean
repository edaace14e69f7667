/-
  AutWalks of layer 5: the law's walk.
-/
import Derived.Test.YtfblnadmbfhjiaaW12
import Derived.Test.YtfblnadmbfhjiaaW13
namespace Go.Proofs.Ytfblnadmbfhjiaa.Wd
open Go.RowKit Go.Maps
set_option linter.unusedVariables false
set_option linter.unusedSimpArgs false

theorem walk_any (P S K M : Int) (A E : Option Addr) (n c ne ce : Nat) (st : List Int) (es : List Ed) (A' B' : Option Addr) (n' c' m' d' : Nat) (sl lp : List Int) (w : World) (ha : Ints w A n st) (hn : n ≤ 17592186044416) (he : EdgesAt w E ne es) (hne : ne ≤ 17592186044416) (hx : Ints w A' n' sl) (hy : Ints w B' m' lp) (hn' : n' ≤ 100000) (hm' : m' ≤ 100000) :
    Calls Try.prog 25 #[.agg #[.int .i64 P, .int .i64 S, .slice A n c, .int .i64 K, .int .i64 M, .slice E ne ce], .agg #[.slice A' n' c', .slice B' m' d']] w fun e w' => ResW (WalR P S K M st es sl lp (WalkA es (at_ sl lp) (st.getD 0 0).toNat n' m' S.toNat)) w w' e := by
  cases hv : autB P S K M st es
  · exact walk_bad P S K M A E n c ne ce st es A' B' n' c' m' d' sl lp _ w ha hn he hne (.inl hv)
  · cases hd : detB P st es
    · exact walk_bad P S K M A E n c ne ce st es A' B' n' c' m' d' sl lp _ w ha hn he hne (.inr ⟨hv, hd⟩)
    · obtain ⟨⟨h1, h2, h5, h6, _⟩, _⟩ := autB_true hv
      obtain ⟨p, rfl⟩ := Int.eq_ofNat_of_zero_le h1
      obtain ⟨s, rfl⟩ := Int.eq_ofNat_of_zero_le h5
      exact walk_good p s K M A E n c ne ce st es A' B' n' c' m' d' sl lp w ha hn he hne hx hy hn' hm' hv hd
theorem refWalk_any (P S K M : Int) (A E : Option Addr) (n c ne ce : Nat) (st : List Int) (es : List Ed) (A' B' : Option Addr) (n' c' m' d' : Nat) (sl lp : List Int) (w : World) (ha : Ints w A n st) (hn : n ≤ 17592186044416) (he : EdgesAt w E ne es) (hne : ne ≤ 17592186044416) (hbo : BitsOK es) (hx : Ints w A' n' sl) (hy : Ints w B' m' lp) (hnc : n' ≤ c') (hmd : m' ≤ d') (hnm : n' + m' ≤ 100000) :
    Calls Try.prog 26 #[.agg #[.int .i64 P, .int .i64 S, .slice A n c, .int .i64 K, .int .i64 M, .slice E ne ce], .agg #[.slice A' n' c', .slice B' m' d']] w fun e w' => ResW (WalR P S K M st es sl lp (WalkB es (at_ sl lp) (st.getD 0 0).toNat n' m' S.toNat)) w w' e := by
  cases hv : autB P S K M st es
  · exact refWalk_bad P S K M A E n c ne ce st es A' B' n' c' m' d' sl lp _ w ha hn he hne hbo hx hy (by omega) (by omega) (.inl hv)
  · cases hd : detB P st es
    · exact refWalk_bad P S K M A E n c ne ce st es A' B' n' c' m' d' sl lp _ w ha hn he hne hbo hx hy (by omega) (by omega) (.inr (.inl ⟨hv, hd⟩))
    · cases hvb : validB P sl lp
      · exact refWalk_bad P S K M A E n c ne ce st es A' B' n' c' m' d' sl lp _ w ha hn he hne hbo hx hy (by omega) (by omega) (.inr (.inr ⟨hv, hd, hvb⟩))
      · obtain ⟨⟨h1, h2, h5, h6, _⟩, _⟩ := autB_true hv
        obtain ⟨p, rfl⟩ := Int.eq_ofNat_of_zero_le h1
        obtain ⟨s, rfl⟩ := Int.eq_ofNat_of_zero_le h5
        exact refWalk_good p s K M A E n c ne ce st es A' B' n' c' m' d' sl lp w ha hn he hne hbo hx hy hnc hmd hnm hv hd hvb
theorem walks_agree {P S K M : Int} {st : List Int} {es : List Ed} {sl lp : List Int} {n' m' : Nat} (hs : sl.length = n') (hl : lp.length = m') {x x' : Int} {d d' : Bool} {c c' : Int}
    (h : WalR P S K M st es sl lp (WalkA es (at_ sl lp) (st.getD 0 0).toNat n' m' S.toNat) x d c) (h' : WalR P S K M st es sl lp (WalkB es (at_ sl lp) (st.getD 0 0).toNat n' m' S.toNat) x' d' c') : x = x' ∧ d = d' ∧ c = c' := by
  refine h.unique (fun hv x x' d d' h1 h2 => ?_) h'
  have hlp0 : 0 < lp.length := by
    unfold validB at hv
    simp only [Bool.and_eq_true] at hv
    exact of_decide_eq_true hv.1.1.1.2
  refine walk_same (by omega) (fun t ht => ?_) h1 h2
  rw [at_ge (by omega), at_ge (by omega), hl, hs, show t + m' - n' = (t - n') + m' by omega, Nat.add_mod_right]

/-- Few of law 01 at one word. -/
theorem few_one (g most : Nat) (A B : Option Addr) (n c m d : Nat) (w : World) (h : Box2 w g A n c B m d) (hm : most ≤ 1000) (h1 : n ≤ 17592186044416) (h2 : m ≤ 17592186044416) :
    Calls Try.prog 24 #[.int .i64 most, .slice (some ⟨g, 0, none⟩) 1 1] w fun e w' => e = .returned (.bool (decide (n + m ≤ most))) ∧ Below w.heap.size w w' := by
  have hk := Few_any g 1 1 most (fun _ => A) (fun _ => B) (fun _ => n) (fun _ => c) (fun _ => m) (fun _ => d) w h.1 (by omega) hm (fun i _ => ⟨h1, h2⟩) (fun i hi => by
    obtain rfl : i = 0 := by omega
    exact ⟨h.2.1, h.2.2⟩)
  have e : fewB most (fun _ => n) (fun _ => m) 1 = decide (n + m ≤ most) := by simp [fewB]
  rw [e] at hk
  exact hk

theorem box_two' {w w1 : World} {a b : Obj} (hb : Below ((w.alloc a).alloc b).heap.size ((w.alloc a).alloc b) w1) : Below w.heap.size w w1 :=
  (((Below.refl _ _).alloc (Nat.le_refl _) _).alloc (by simp) _).trans (hb.mono (by simp; omega))

set_option maxRecDepth 100000 in
set_option maxHeartbeats 8000000 in
theorem walks_law (P S K M : Int) (A E : Option Addr) (n c ne ce : Nat) (st : List Int) (es : List Ed) (A' B' : Option Addr) (n' c' m' d' : Nat) (sl lp : List Int) (w : World) (ha : Ints w A n st) (hn : n ≤ 17592186044416) (he : EdgesAt w E ne es) (hne : ne ≤ 17592186044416) (hbo : BitsOK es) (hx : Ints w A' n' sl) (hy : Ints w B' m' lp) (hnc : n' ≤ c') (hmd : m' ≤ d') (hn' : n' ≤ 17592186044416) (hm' : m' ≤ 17592186044416) :
    Calls Try.prog 5 #[.agg #[.int .i64 P, .int .i64 S, .slice A n c, .int .i64 K, .int .i64 M, .slice E ne ce], .agg #[.slice A' n' c', .slice B' m' d']] w fun e w' => e = .returned (.bool true) ∧ Below w.heap.size w w' := by
  have HFW := Lib.hid (fun W g (hW : Below w.heap.size w W) (hx : Box6 W g P S A n c K M E ne ce) => few5_any refValid_ok 40 300 40 P S K M A E n c ne ce g st es W (by decide) (by decide) (ha.below hW) hn (he.below hW) hne hx)
  have HFO := Lib.hid (show ∀ W g, Box2 W g A' n' c' B' m' d' → Calls Try.prog 24 #[.int .i64 40, .slice (some ⟨g, 0, none⟩) 1 1] W fun e w' => e = .returned (.bool (decide (n' + m' ≤ 40))) ∧ Below W.heap.size W w' from fun W g hx => few_one g 40 A' B' n' c' m' d' W hx (by decide) hn' hm')
  have HXA := Lib.hid (fun W => Box6.new W P S A n c K M E ne ce 25)
  have HXB := Lib.hid (fun W => Box2.new W A' n' c' B' m' d' 45)
  have HAW := Lib.hid (fun W => awake5_any W)
  have H1 := Lib.hid (fun (hs : n' + m' ≤ 40) W (hW : Below w.heap.size w W) => walk_any P S K M A E n c ne ce st es A' B' n' c' m' d' sl lp W (ha.below hW) hn (he.below hW) hne (hx.below hW) (hy.below hW) (by omega) (by omega))
  have H2 := Lib.hid (fun (hs : n' + m' ≤ 40) W (hW : Below w.heap.size w W) => refWalk_any P S K M A E n c ne ce st es A' B' n' c' m' d' sl lp W (ha.below hW) hn (he.below hW) hne hbo (hx.below hW) (hy.below hW) hnc hmd (by omega))
  have HLS := Lib.hid hx.1
  have HLL := Lib.hid hy.1
  obtain ⟨hB0, hx6, hx2⟩ := boxes62 w P S A n c K M E ne ce A' n' c' B' m' d'
  have HB0 := Lib.hid hB0
  have HX6 := Lib.hid hx6
  have HX2 := Lib.hid hx2
  clear ha he hx hy hB0 hx6 hx2 hbo
  have HBZ := Lib.hid (HB0.out.alloc HB0.out.size (.cells #[.int .i64 P, .int .i64 S, .slice A n c, .int .i64 K, .int .i64 M, .slice E ne ce] 25))
  have HXZ := Lib.hid (show Box6 (((w.alloc (.cells #[.int .i64 P, .int .i64 S, .slice A n c, .int .i64 K, .int .i64 M, .slice E ne ce] 25)).alloc (.cells #[.slice A' n' c', .slice B' m' d'] 45)).alloc (.cells #[.int .i64 P, .int .i64 S, .slice A n c, .int .i64 K, .int .i64 M, .slice E ne ce] 25)) (w.heap.size + 1 + 1) P S A n c K M E ne ce by
    have h := HXA.out ((w.alloc (.cells #[.int .i64 P, .int .i64 S, .slice A n c, .int .i64 K, .int .i64 M, .slice E ne ce] 25)).alloc (.cells #[.slice A' n' c', .slice B' m' d'] 45))
    rw [World.size_alloc, World.size_alloc] at h
    exact h)
  have HX6Z := Lib.hid (HX6.out.below ((Below.refl _ _).alloc (Nat.le_refl _) (.cells #[.int .i64 P, .int .i64 S, .slice A n c, .int .i64 K, .int .i64 M, .slice E ne ce] 25)))
  have HX2Z := Lib.hid (HX2.out.below ((Below.refl _ _).alloc (Nat.le_refl _) (.cells #[.int .i64 P, .int .i64 S, .slice A n c, .int .i64 K, .int .i64 M, .slice E ne ce] 25)))
  clear HB0 HX6 HX2
  cases hf : few5B 40 300 40 P S K M st es n ne
  · rw [hf] at HFW
    clear hf
    go_enter Try.func5, Try.ntmps5
    go_wp2_with fail
    refine (HFW.out _ (w.heap.size + 1 + 1) HBZ.out HXZ.out).mono ?_
    rintro x w1 ⟨rfl, hb1⟩
    have HB1 := Lib.hid (HBZ.out.trans (hb1.mono HBZ.out.size))
    have HX61 := Lib.hid (HX6Z.out.below hb1)
    have HX21 := Lib.hid (HX2Z.out.below hb1)
    obtain ⟨hz, p0, p1, p2, p3, p4, p5⟩ := HX61.out
    obtain ⟨hz2, r0, r1⟩ := HX21.out
    clear hb1
    go_wp2_with fail
    refine (HAW.out _).mono ?_
    rintro x w9 ⟨rfl, hb9⟩
    have HB9 := Lib.hid (HB1.out.trans (hb9.mono HB1.out.size))
    clear hb9
    go_wp2_with fail
    go_ret
    exact ⟨rfl, HB9.out⟩
  · rw [hf] at HFW
    clear hf
    by_cases hs : n' + m' ≤ 40
    · have H1S := Lib.hid (H1.out hs)
      have H2S := Lib.hid (H2.out hs)
      rw [decide_eq_true hs] at HFO
      clear H1 H2 hs
      go_enter Try.func5, Try.ntmps5
      go_wp2_with fail
      refine (HFW.out _ (w.heap.size + 1 + 1) HBZ.out HXZ.out).mono ?_
      rintro x w1 ⟨rfl, hb1⟩
      have HB1 := Lib.hid (HBZ.out.trans (hb1.mono HBZ.out.size))
      have HX61 := Lib.hid (HX6Z.out.below hb1)
      have HX21 := Lib.hid (HX2Z.out.below hb1)
      obtain ⟨hz, p0, p1, p2, p3, p4, p5⟩ := HX61.out
      obtain ⟨hz2, r0, r1⟩ := HX21.out
      clear hb1
      go_wp2_with fail
      refine (HFO.out _ w1.heap.size (HXB.out w1)).mono ?_
      rintro x w2 ⟨rfl, hb2⟩
      have hb2' := Lib.hid (((Below.refl w1.heap.size w1).alloc (Nat.le_refl _) (.cells #[.slice A' n' c', .slice B' m' d'] 45)).trans (hb2.mono (by simp)))
      have HB2 := Lib.hid (HB1.out.trans (hb2'.out.mono HB1.out.size))
      have HX62 := Lib.hid (HX61.out.below hb2'.out)
      have HX22 := Lib.hid (HX21.out.below hb2'.out)
      clear hb2 hz p0 p1 p2 p3 p4 p5 hz2 r0 r1 hb2' HX61 HX21 HB1
      obtain ⟨hz, p0, p1, p2, p3, p4, p5⟩ := HX62.out
      obtain ⟨hz2, r0, r1⟩ := HX22.out
      go_wp2_with fail
      refine (H1S.out _ HB2.out).mono ?_
      rintro x w3 ⟨x1, d1, e1, rfl, R1, hb3⟩
      have HB3 := Lib.hid (HB2.out.trans (hb3.mono HB2.out.size))
      have HX63 := Lib.hid (HX62.out.below hb3)
      have HX23 := Lib.hid (HX22.out.below hb3)
      clear hb3 hz p0 p1 p2 p3 p4 p5 hz2 r0 r1 HX62 HX22
      obtain ⟨hz, p0, p1, p2, p3, p4, p5⟩ := HX63.out
      obtain ⟨hz2, r0, r1⟩ := HX23.out
      go_wp2_with fail
      refine (H2S.out _ HB3.out).mono ?_
      rintro x w4 ⟨x2, d2, e2, rfl, R2, hb4⟩
      have HB4 := Lib.hid (HB3.out.trans (hb4.mono HB3.out.size))
      obtain ⟨rfl, rfl, rfl⟩ := walks_agree HLS.out HLL.out R1.out R2.out
      clear hb4 hz p0 p1 p2 p3 p4 p5 hz2 r0 r1 HX63 HX23 R1 R2
      go_wp2_with fail
      refine (HAW.out _).mono ?_
      rintro x w9 ⟨rfl, hb9⟩
      have HB9 := Lib.hid (HB4.out.trans (hb9.mono HB4.out.size))
      clear hb9
      go_wp2_with fail
      go_ret
      exact ⟨rfl, HB9.out⟩
    · rw [decide_eq_false hs] at HFO
      clear hs
      go_enter Try.func5, Try.ntmps5
      go_wp2_with fail
      refine (HFW.out _ (w.heap.size + 1 + 1) HBZ.out HXZ.out).mono ?_
      rintro x w1 ⟨rfl, hb1⟩
      have HB1 := Lib.hid (HBZ.out.trans (hb1.mono HBZ.out.size))
      have HX61 := Lib.hid (HX6Z.out.below hb1)
      have HX21 := Lib.hid (HX2Z.out.below hb1)
      obtain ⟨hz, p0, p1, p2, p3, p4, p5⟩ := HX61.out
      obtain ⟨hz2, r0, r1⟩ := HX21.out
      clear hb1
      go_wp2_with fail
      refine (HFO.out _ w1.heap.size (HXB.out w1)).mono ?_
      rintro x w2 ⟨rfl, hb2⟩
      have hb2' := Lib.hid (((Below.refl w1.heap.size w1).alloc (Nat.le_refl _) (.cells #[.slice A' n' c', .slice B' m' d'] 45)).trans (hb2.mono (by simp)))
      have HB2 := Lib.hid (HB1.out.trans (hb2'.out.mono HB1.out.size))
      have HX62 := Lib.hid (HX61.out.below hb2'.out)
      have HX22 := Lib.hid (HX21.out.below hb2'.out)
      clear hb2 hz p0 p1 p2 p3 p4 p5 hz2 r0 r1 hb2' HX61 HX21 HB1
      obtain ⟨hz, p0, p1, p2, p3, p4, p5⟩ := HX62.out
      obtain ⟨hz2, r0, r1⟩ := HX22.out
      go_wp2_with fail
      refine (HAW.out _).mono ?_
      rintro x w9 ⟨rfl, hb9⟩
      have HB9 := Lib.hid (HB2.out.trans (hb9.mono HB2.out.size))
      clear hb9
      go_wp2_with fail
      go_ret
      exact ⟨rfl, HB9.out⟩

end Go.Proofs.Ytfblnadmbfhjiaa.Wd
