/-
  AutFacts of layer 5: the law's walk.
-/
import Derived.Test.YtfblnadmbfhjiaaF07
import Derived.Test.YtfblnadmbfhjiaaF13
import Derived.Test.YtfblnadmbfhjiaaF05
import Derived.Deep.RegionHeld3
namespace Go.Proofs.Ytfblnadmbfhjiaa.Wd
open Go.RowKit
set_option linter.unusedVariables false
set_option linter.unusedSimpArgs false

theorem few5_len {X Y Z P S K M : Int} {st : List Int} {es : List Ed} {n ne : Nat} (he : es.length = ne) (h : few5B X Y Z P S K M st es n ne = true) : (es.length : Int) ≤ Y := by
  unfold few5B at h
  rw [Bool.and_eq_true, Bool.and_eq_true] at h
  have := of_decide_eq_true h.1.1
  omega
theorem pick_len {P S K M : Int} {st : List Int} {es : List Ed} {s l : Int} {L : List Int} {c : Int} (h : PickR P S K M st es s l L c) (he : (es.length : Int) ≤ 1000) : L.length ≤ 100000 := by
  rcases h with ⟨_, rfl, _⟩ | ⟨_, _, rfl, _⟩ | ⟨_, _, rfl, _⟩
  · simp
  · simp
  · have := outL_len es s l es.length; omega
theorem eqB_refl (l : List Int) : eqB l l = true := by
  simp [eqB]
theorem box_two {w w1 : World} {a b : Obj} (hb : Below ((w.alloc a).alloc b).heap.size ((w.alloc a).alloc b) w1) : Below w.heap.size w w1 :=
  (((Below.refl _ _).alloc (Nat.le_refl _) _).alloc (by simp) _).trans (hb.mono (by simp; omega))

set_option maxRecDepth 100000 in
set_option maxHeartbeats 8000000 in
theorem facts_law (P S K M s l : Int) (A E : Option Addr) (n c ne ce : Nat) (st : List Int) (es : List Ed) (w : World) (ha : Ints w A n st) (hn : n ≤ 17592186044416) (he : EdgesAt w E ne es) (hne : ne ≤ 17592186044416) (hbo : BitsOK es) :
    Calls Try.prog 3 #[.agg #[.int .i64 P, .int .i64 S, .slice A n c, .int .i64 K, .int .i64 M, .slice E ne ce], .int .i64 s, .int .i64 l] w fun e w' => e = .returned (.bool true) ∧ Below w.heap.size w w' := by
  have HFW := Lib.hid (fun W g (hW : Below w.heap.size w W) (hx : Box6 W g P S A n c K M E ne ce) => few5_any refValid_ok 200 1000 40 P S K M A E n c ne ce g st es W (by decide) (by decide) (ha.below hW) hn (he.below hW) hne hx)
  have HX0 := Lib.hid (Box6.new w P S A n c K M E ne ce 25)
  have HXA := Lib.hid (fun W => Box6.new W P S A n c K M E ne ce 25)
  have HAW := Lib.hid (fun W => awake5_any W)
  have HV := Lib.hid (fun W (hW : Below w.heap.size w W) => autValid_any P S K M A E n c ne ce st es W (ha.below hW) hn (he.below hW) hne)
  have HRV := Lib.hid (fun W (hW : Below w.heap.size w W) => refValid_ok P S K M A E n c ne ce st es W (ha.below hW) hn (he.below hW) hne)
  have H1 := Lib.hid (fun W (hW : Below w.heap.size w W) => det_any P S K M A E n c ne ce st es W (ha.below hW) hn (he.below hW) hne)
  have H2 := Lib.hid (fun W (hW : Below w.heap.size w W) => refDet_any refValid_ok P S K M A E n c ne ce st es W (ha.below hW) hn (he.below hW) hne hbo)
  have H3 := Lib.hid (fun W (hW : Below w.heap.size w W) => com_any P S K M A E n c ne ce st es W (ha.below hW) hn (he.below hW) hne)
  have H4 := Lib.hid (fun W (hW : Below w.heap.size w W) => refCom_any refValid_ok P S K M A E n c ne ce st es W (ha.below hW) hn (he.below hW) hne)
  have H5 := Lib.hid (fun W (hW : Below w.heap.size w W) => reach_any P S K M A E n c ne ce st es W (ha.below hW) hn (he.below hW) hne)
  have H6 := Lib.hid (fun W (hW : Below w.heap.size w W) => refReach_any refValid_ok P S K M A E n c ne ce st es W (ha.below hW) hn (he.below hW) hne)
  have H7 := Lib.hid (fun W (hW : Below w.heap.size w W) => step_any P S K M s l A E n c ne ce st es W (ha.below hW) hn (he.below hW) hne)
  have H8 := Lib.hid (fun W (hW : Below w.heap.size w W) => refStep_any refValid_ok P S K M s l A E n c ne ce st es W (ha.below hW) hn (he.below hW) hne)
  have HFL := Lib.hid (few5_len (X := 200) (Y := 1000) (Z := 40) (P := P) (S := S) (K := K) (M := M) (st := st) (es := es) (n := n) (ne := ne) he.1)
  obtain ⟨vb, hvb, HVB⟩ : ∃ vb, autB P S K M st es = vb ∧ Hid (autB P S K M st es = vb) := ⟨_, rfl, rfl⟩
  rw [hvb] at HV HRV
  clear ha he hbo hvb
  cases hf : few5B 200 1000 40 P S K M st es n ne
  · rw [hf] at HFW
    clear hf
    go_enter Try.func3, Try.ntmps3
    go_wp2_with fail
    refine (HFW.out _ (w.heap.size + 1) (((Below.refl _ _).alloc (Nat.le_refl _) _).alloc (by simp) _) (by have h := HXA.out (w.alloc (.cells #[.int .i64 P, .int .i64 S, .slice A n c, .int .i64 K, .int .i64 M, .slice E ne ce] 25)); rw [World.size_alloc] at h; exact h)).mono ?_
    rintro e w1 ⟨rfl, hb1⟩
    have HB1 := Lib.hid (box_two hb1)
    clear hb1
    go_wp2_with fail
    refine (HAW.out _).mono ?_
    rintro e w2 ⟨rfl, hb2⟩
    have HB2 := Lib.hid (HB1.out.trans (hb2.mono HB1.out.size))
    clear hb2
    go_wp2_with fail
    go_ret
    exact ⟨rfl, HB2.out⟩
  · rw [hf] at HFW
    have HFL2 := Lib.hid (HFL.out hf)
    clear hf
    go_enter Try.func3, Try.ntmps3
    go_wp2_with fail
    refine (HFW.out _ (w.heap.size + 1) (((Below.refl _ _).alloc (Nat.le_refl _) _).alloc (by simp) _) (by have h := HXA.out (w.alloc (.cells #[.int .i64 P, .int .i64 S, .slice A n c, .int .i64 K, .int .i64 M, .slice E ne ce] 25)); rw [World.size_alloc] at h; exact h)).mono ?_
    rintro e w0 ⟨rfl, hb0⟩
    have HB0 := Lib.hid (box_two hb0)
    have HX0' := Lib.hid (HX0.out.below (((Below.refl _ _).alloc (Nat.le_refl _) _).trans (hb0.mono (by simp))))
    obtain ⟨hz, p0, p1, p2, p3, p4, p5⟩ := HX0'.out
    clear hb0
    go_wp2_with fail
    refine (H1.out _ HB0.out).mono ?_
    rintro x w1 ⟨r1, c1, rfl, D1, hb1⟩
    have HX1 := Lib.hid (HX0'.out.below hb1)
    have HB1 := Lib.hid (HB0.out.trans (hb1.mono HB0.out.size))
    clear hz p0 p1 p2 p3 p4 p5 hb1
    obtain ⟨hz, p0, p1, p2, p3, p4, p5⟩ := HX1.out
    go_wp2_with fail
    refine (H2.out _ HB1.out).mono ?_
    rintro x w2 ⟨r2, c2, rfl, D2, hb2⟩
    have HX2 := Lib.hid (HX1.out.below hb2)
    have HB2 := Lib.hid (HB1.out.trans (hb2.mono HB1.out.size))
    obtain ⟨rfl, rfl⟩ := DetR.unique D1.out D2.out
    clear hz p0 p1 p2 p3 p4 p5 hb2
    obtain ⟨hz, p0, p1, p2, p3, p4, p5⟩ := HX2.out
    go_wp2_with fail
    refine (H3.out _ HB2.out).mono ?_
    rintro x w3 ⟨r3, c3, rfl, D3, hb3⟩
    have HX3 := Lib.hid (HX2.out.below hb3)
    have HB3 := Lib.hid (HB2.out.trans (hb3.mono HB2.out.size))
    clear hz p0 p1 p2 p3 p4 p5 hb3
    obtain ⟨hz, p0, p1, p2, p3, p4, p5⟩ := HX3.out
    go_wp2_with fail
    refine (H4.out _ HB3.out).mono ?_
    rintro x w4 ⟨r4, c4, rfl, D4, hb4⟩
    have HX4 := Lib.hid (HX3.out.below hb4)
    have HB4 := Lib.hid (HB3.out.trans (hb4.mono HB3.out.size))
    obtain ⟨rfl, rfl⟩ := ComR.unique D3.out D4.out
    clear hz p0 p1 p2 p3 p4 p5 hb4
    obtain ⟨hz, p0, p1, p2, p3, p4, p5⟩ := HX4.out
    go_wp2_with fail
    refine (H5.out _ HB4.out).mono ?_
    rintro x w5 ⟨A5, n5, k5, F5, c5, rfl, ba5, hn5, D5, hb5⟩
    have HX5 := Lib.hid (HX4.out.below hb5)
    have HB5 := Lib.hid (HB4.out.trans (hb5.mono HB4.out.size))
    have HA5 := Lib.hid ba5
    clear ba5
    clear hz p0 p1 p2 p3 p4 p5 hb5
    obtain ⟨hz, p0, p1, p2, p3, p4, p5⟩ := HX5.out
    go_wp2_with fail
    refine (H6.out _ HB5.out).mono ?_
    rintro x w6 ⟨A6, n6, k6, F6, c6, rfl, ba6, hn6, D6, hb6⟩
    have HX6 := Lib.hid (HX5.out.below hb6)
    have HB6 := Lib.hid (HB5.out.trans (hb6.mono HB5.out.size))
    have HA6 := Lib.hid ba6
    have HA56 := Lib.hid (HA5.out.below hb6)
    obtain ⟨hbB, rfl⟩ := ReaR.unique D5.out D6.out
    have HBB := Lib.hid hbB
    clear ba6 hbB
    clear hz p0 p1 p2 p3 p4 p5 hb6
    obtain ⟨hz, p0, p1, p2, p3, p4, p5⟩ := HX6.out
    go_wp2_with fail
    refine (H7.out _ HB6.out).mono ?_
    rintro x w7 ⟨v7, L7, c7, rfl, ho7, D7, hb7⟩
    have HX7 := Lib.hid (HX6.out.below hb7)
    have HB7 := Lib.hid (HB6.out.trans (hb7.mono HB6.out.size))
    obtain ⟨A7, k7, hv7, _⟩ := own_slice ho7
    subst hv7
    have HO7 := Lib.hid (Ints.of_own ho7)
    have HA57 := Lib.hid (HA56.out.below hb7)
    have HA67 := Lib.hid (HA6.out.below hb7)
    clear ho7
    clear hz p0 p1 p2 p3 p4 p5 hb7
    obtain ⟨hz, p0, p1, p2, p3, p4, p5⟩ := HX7.out
    go_wp2_with fail
    refine (H8.out _ HB7.out).mono ?_
    rintro x w8 ⟨v8, L8, c8, rfl, ho8, D8, hb8⟩
    have HX8 := Lib.hid (HX7.out.below hb8)
    have HB8 := Lib.hid (HB7.out.trans (hb8.mono HB7.out.size))
    obtain ⟨A8, k8, hv8, _⟩ := own_slice ho8
    subst hv8
    have HO8 := Lib.hid (Ints.of_own ho8)
    have HO78 := Lib.hid (HO7.out.below hb8)
    have HA58 := Lib.hid (HA57.out.below hb8)
    have HA68 := Lib.hid (HA67.out.below hb8)
    obtain ⟨rfl, rfl⟩ := PickR.unique D7.out D8.out
    clear ho8
    clear hz p0 p1 p2 p3 p4 p5 hb8
    obtain ⟨hz, p0, p1, p2, p3, p4, p5⟩ := HX8.out
    have hL7 : L7.length ≤ 100000 := pick_len D7.out HFL2.out
    have HS := Lib.hid (show ∀ V, Below w8.heap.size w8 V → (V.cell? ⟨w.heap.size, 0, none⟩ = some (.int .i64 P) ∧ V.cell? ⟨w.heap.size, 1, none⟩ = some (.int .i64 S) ∧ V.cell? ⟨w.heap.size, 2, none⟩ = some (.slice A n c) ∧ V.cell? ⟨w.heap.size, 3, none⟩ = some (.int .i64 K) ∧ V.cell? ⟨w.heap.size, 4, none⟩ = some (.int .i64 M) ∧ V.cell? ⟨w.heap.size, 5, none⟩ = some (.slice E ne ce)) from fun V hV => (HX8.out.below hV).2)
    have HBO := Lib.hid (show ∀ V, Below w8.heap.size w8 V → Calls Try.prog 20 #[.slice A5 n5 k5, .slice A6 n6 k6] V fun e w' => ∃ k : Nat, e = .returned (.bool true) ∧ w' = V.drewN k from fun V hV => by
      have h := bools_any A5 A6 n5 k5 n6 k6 F5 F6 V (HA58.out.below hV) (HA68.out.below hV) (by omega) (by omega)
      rw [HBB.out] at h
      exact h)
    have HLI := Lib.hid (show ∀ V, Below w8.heap.size w8 V → Calls Try.prog 21 #[.slice A7 L7.length k7, .slice A8 L7.length k8] V fun e w' => ∃ k : Nat, e = .returned (.bool true) ∧ w' = V.drewN k from fun V hV => by
      have h := list_any A7 A8 L7.length k7 L7.length k8 L7 L7 V (HO78.out.below hV) (HO8.out.below hV) hL7 hL7
      rw [eqB_refl] at h
      exact h)
    go_wp2_with fail
    clear H1 H2 H3 H4 H5 H6 H7 H8 HFW p0 p1 p2 p3 p4 p5 HX0 HX0' HX1 HX2 HX3 HX4 HX5 HX6 HX7 HX8 HA5 HA6 HA56 HA57 HA67 HA58 HA68 HO7 HO8 HO78 D1 D2 D3 D4 D5 D6 D7 D8 HBB
    go_region_held3 (fun V => V.cell? ⟨w.heap.size, 0, none⟩ = some (.int .i64 P) ∧ V.cell? ⟨w.heap.size, 1, none⟩ = some (.int .i64 S) ∧ V.cell? ⟨w.heap.size, 2, none⟩ = some (.slice A n c) ∧ V.cell? ⟨w.heap.size, 3, none⟩ = some (.int .i64 K) ∧ V.cell? ⟨w.heap.size, 4, none⟩ = some (.int .i64 M) ∧ V.cell? ⟨w.heap.size, 5, none⟩ = some (.slice E ne ce))
        (first
          | exact HS.out _ k5
          | exact HS.out _ k4
          | exact HS.out _ k3
          | exact HS.out _ k2
          | exact HS.out _ k1
          | exact HS.out _ ((Below.refl w8.heap.size w8).drew))
        (first
          | (go_at_call 9; refine (HAW.out _).mono ?_; rintro x z5 ⟨rfl, b5⟩; have k5 : Below w8.heap.size w8 z5 := k4.trans (b5.mono k4.size))
          | (go_at_call 21; refine (HLI.out _ k3).mono ?_; rintro x z4 ⟨y4, rfl, rfl⟩; have k4 := below_drewN k2 (y3 + y4))
          | (go_at_call 20; refine (HBO.out _ k2).mono ?_; rintro x z3 ⟨y3, rfl, rfl⟩; have k3 := below_drewN k2 y3)
          | (go_at_call 19; refine (HRV.out _ (HB8.out.trans (k1.mono HB8.out.size))).mono ?_; rintro x z2 ⟨rfl, b2⟩; have k2 : Below w8.heap.size w8 z2 := k1.trans (b2.mono k1.size))
          | (go_at_call 18; refine (HV.out _ HB8.out.drew).mono ?_; rintro x z1 ⟨rfl, b1⟩; have k1 : Below w8.heap.size w8 z1 := ((Below.refl _ _).drew).trans b1)
          | fail)
    go_wp2_with fail
    go_ret
    exact ⟨rfl, HB8.out.trans (k5.mono HB8.out.size)⟩

end Go.Proofs.Ytfblnadmbfhjiaa.Wd
