/-
  GameParts: Dual, Sub and Trade against the reference, and the example.
-/
import Derived.Test.YtffdbncjndnnaaaGaAwake
import Derived.Test.YtffdbncjndnnaaaGaSub
import Derived.Test.YtffdbncjndnnaaaGaRefSub
import Derived.Test.YtffdbncjndnnaaaGaTrade2
import Derived.Test.YtffdbncjndnnaaaGaRefTrade
namespace Go.Proofs.Ytffdbncjndnnaaa.Wd
open Go.RowKit
set_option linter.unusedVariables false
set_option linter.unusedSimpArgs false

/-- The game is of moderate size. -/
def Bnd (H : Gm) : Prop := H.O.length ≤ 100000 ∧ H.P.length ≤ 100000 ∧ H.X.length ≤ 100000 ∧ ∀ v, (H.X.getD v []).length ≤ 100000
theorem bnd_zero : Bnd gm0 := ⟨by decide, by decide, by decide, fun v => by simp [gm0]⟩
theorem bnd_dual (G : Gm) : Bnd (dualG G) := by
  cases hv : gmB G
  · rw [(dualG_bad hv).1]; exact bnd_zero
  · cases hb : hasB G.P 60
    · rw [(dualG_good hv hb).1]
      obtain ⟨h1, h2, h3, _⟩ := gmB_true hv
      refine ⟨by simp [dualF]; omega, by simp [dualF]; omega, by show G.X.length ≤ 100000; omega, fun v => ?_⟩
      have := gmB_len hv v
      show (G.X.getD v []).length ≤ 100000
      omega
    · rw [(dualG_full hv hb).1]; exact bnd_zero
theorem bnd_sub (G : Gm) (K : Nat → Bool) (nk : Nat) : Bnd (subG G K nk) ∧ (subL G K nk).length ≤ 100000 := by
  cases hv : gmB G
  · rw [(sub_bad hv).1, (sub_bad hv).2.1]; exact ⟨bnd_zero, by simp⟩
  · by_cases hd : nk = G.X.length
    · cases hs : subOK G K nk
      · rw [(sub_none hv hd hs).1, (sub_none hv hd hs).2.1]; exact ⟨bnd_zero, by simp⟩
      · rw [(sub_good hv hd hs).1, (sub_good hv hd hs).2.1]
        obtain ⟨h1, h2, h3, _⟩ := gmB_true hv
        have hn := numK_le K nk
        unfold numK at hn
        obtain ⟨l1, l2, l3⟩ := subP_len (G := G) (K := K) (n := nk) (t := (ofK K nk).length) (Nat.le_refl _)
        refine ⟨⟨by omega, by omega, by omega, fun v => ?_⟩, by unfold castL; rw [List.length_map]; omega⟩
        by_cases hvl : v < (ofK K nk).length
        · have e : (subP G K nk (ofK K nk).length).X.getD v [] = nextK K (G.X.getD ((ofK K nk).getD v 0) []) := by
            unfold subP
            simp [List.getD_eq_getElem?_getD, hvl]
          rw [e]
          have h5 := nextK_len K (G.X.getD ((ofK K nk).getD v 0) [])
          have h6 := gmB_len hv ((ofK K nk).getD v 0)
          omega
        · have e : (subP G K nk (ofK K nk).length).X.getD v [] = [] := by
            rw [List.getD_eq_getElem?_getD, List.getElem?_eq_none (by omega)]
            rfl
          rw [e]
          exact Nat.zero_le _
    · rw [(sub_dim hv hd).1, (sub_dim hv hd).2.1]; exact ⟨bnd_zero, by simp⟩
theorem bnd_trade (G : Gm) (ch : List Int) (q : Int) : Bnd (tradeG G ch q) := by
  cases hv : gmB G
  · rw [(trade_bad hv).1]; exact bnd_zero
  · cases hp : plB q
    · rw [(trade_pl hv hp).1]; exact bnd_zero
    · by_cases hd : ch.length = G.X.length
      · cases ho : allB G.X.length (okT G ch q)
        · rw [(trade_no hv hp hd ho).1]; exact bnd_zero
        · rw [(trade_good hv hp hd ho).1]
          obtain ⟨h1, h2, h3, _⟩ := gmB_true hv
          refine ⟨by show G.O.length ≤ 100000; omega, by show G.P.length ≤ 100000; omega, by rw [tradeF_len]; omega, fun v => ?_⟩
          by_cases hvl : v < G.X.length
          · rw [tradeF_at _ _ _ hvl]
            unfold rowT
            split
            · simp
            · have := gmB_len hv v
              omega
          · rw [List.getD_eq_getElem?_getD, List.getElem?_eq_none (by rw [tradeF_len]; omega)]
            exact Nat.zero_le _
      · rw [(trade_dim hv hp hd).1]; exact bnd_zero

/-- A box of three cells. -/
structure Bx3 (w : World) (b : Nat) (v0 v1 v2 : Value) : Prop where
  lt : b < w.heap.size
  c0 : w.cell? ⟨b, 0, none⟩ = some v0
  c1 : w.cell? ⟨b, 1, none⟩ = some v1
  c2 : w.cell? ⟨b, 2, none⟩ = some v2
theorem Bx3.below {w w' : World} {b : Nat} {v0 v1 v2 : Value} (h : Bx3 w b v0 v1 v2) (hb : Below w.heap.size w w') : Bx3 w' b v0 v1 v2 :=
  ⟨Nat.lt_of_lt_of_le h.lt hb.size, (hb.cell (p := ⟨b, 0, none⟩) h.lt).trans h.c0, (hb.cell (p := ⟨b, 1, none⟩) h.lt).trans h.c1, (hb.cell (p := ⟨b, 2, none⟩) h.lt).trans h.c2⟩
theorem Bx3.new (w : World) (v0 v1 v2 : Value) (t : TypeId) : Bx3 (w.alloc (.cells #[v0, v1, v2] t)) w.heap.size v0 v1 v2 :=
  ⟨by simp, by rw [box_last]; rfl, by rw [box_last]; rfl, by rw [box_last]; rfl⟩
/-- A game in memory, its lengths read off. -/
theorem GameAt.lens {w : World} {v : Value} {H : Gm} (h : GameAt w v H) : ∃ a c p d x e, v = .agg #[.slice a H.O.length c, .slice p H.P.length d, .slice x H.X.length e] ∧ GameIn w a H.O.length p H.P.length x H.X.length H := by
  obtain ⟨a, n, c, p, m, d, x, k, e, rfl, hg⟩ := h
  obtain rfl := hg.o.1
  obtain rfl := hg.p.1
  obtain rfl := hg.x.1
  exact ⟨a, c, p, d, x, e, rfl, hg⟩

set_option maxRecDepth 100000 in
set_option maxHeartbeats 16000000 in
theorem parts_law (a p x A C : Option Addr) (n c m d k e nk ck na ca : Nat) (G : Gm) (K : Nat → Bool) (ch : List Int) (q : Int) (w : World) (h : GameIn w a n p m x k G) (hK : BoolsIn w A nk K) (hC : Ints w C na ch)
    (hn : n ≤ 17592186044416) (hm : m ≤ 17592186044416) (hk : k ≤ 17592186044416) (hnk : nk ≤ 140737488355328) (hna : na ≤ 17592186044416) (hl : ∀ v, (G.X.getD v []).length ≤ 17592186044416) :
    Calls Try.prog 4 #[.agg #[.slice a n c, .slice p m d, .slice x k e], .slice A nk ck, .slice C na ca, .int .i64 q] w fun r w' => r = .returned (.bool true) ∧ Below w.heap.size w w' := by
  obtain ⟨W0, hW0⟩ : ∃ W0, w.alloc (.cells #[.slice a n c, .slice p m d, .slice x k e] 25) = W0 := ⟨_, rfl⟩
  have HBW := Lib.hid (show Below w.heap.size w W0 by rw [← hW0]; exact (Below.refl _ _).alloc (Nat.le_refl _) _)
  have hbx0 : Bx3 W0 w.heap.size (.slice a n c) (.slice p m d) (.slice x k e) := by rw [← hW0]; exact Bx3.new _ _ _ _ _
  have HX0 := Lib.hid hbx0
  obtain ⟨hlt0, q0, q1, q2⟩ := hbx0
  have HFW := Lib.hid (gfew_any 200 1000 a p x n c m d k e G W0 (h.below HBW.out) (by omega) (by omega) hn hm hk hl)
  have HDU := Lib.hid (fun W (hW : Below W0.heap.size W0 W) => gdual_any a p x n c m d k e G W ((h.below HBW.out).below hW) hm hk hl)
  have HRU := Lib.hid (fun W (hW : Below W0.heap.size W0 W) => grefDual_any a p x n c m d k e G W ((h.below HBW.out).below hW) hn hk hl)
  have HSU := Lib.hid (fun (hnk4 : nk ≤ 400) W (hW : Below W0.heap.size W0 W) => gsub_any a p x A n c m d k e nk ck G K W ((h.below HBW.out).below hW) ((hK.below HBW.out).below hW) hn hk (by omega) hl)
  have HRS := Lib.hid (fun (hnk4 : nk ≤ 400) W (hW : Below W0.heap.size W0 W) => grefSub_any a p x A n c m d k e nk ck G K W ((h.below HBW.out).below hW) ((hK.below HBW.out).below hW) hn hk (by omega) hl)
  have HTU := Lib.hid (fun W (hW : Below W0.heap.size W0 W) => gtrade_any a p x C n c m d k e na ca G ch q W ((h.below HBW.out).below hW) ((hC.below HBW.out).below hW) hk hna hl)
  have HRT := Lib.hid (fun W (hW : Below W0.heap.size W0 W) => grefTrade_any a p x C n c m d k e na ca G ch q W ((h.below HBW.out).below hW) ((hC.below HBW.out).below hW) hn hk hna hl)
  have hnk0 : (0 : Int) ≤ (nk : Int) := by omega
  have hna0 : (0 : Int) ≤ (na : Int) := by omega
  have HBD := Lib.hid (bnd_dual G)
  have HBS := Lib.hid (bnd_sub G K nk)
  have HBT := Lib.hid (bnd_trade G ch q)
  clear h hK hC hl
  have small : (gfewB 200 1000 G = false ∨ 400 < nk ∨ 400 < na) → Calls Try.prog 4 #[.agg #[.slice a n c, .slice p m d, .slice x k e], .slice A nk ck, .slice C na ca, .int .i64 q] w fun r w' => r = .returned (.bool true) ∧ Below w.heap.size w w' := fun hs => by
    have HS := Lib.hid hs
    clear hs
    generalize gfewB 200 1000 G = fb at *
    cases fb
    · go_enter Try.func4, Try.ntmps4
      go_wp2_with fail
      clear hW0
      refine HFW.out.mono ?_
      rintro r1 w1 ⟨rfl, hb1⟩
      have HB1 := Lib.hid (HBW.out.trans (hb1.mono HBW.out.size))
      clear hb1
      go_wp2_with fail
      refine (awakeG_any _).mono ?_
      rintro r2 w2 ⟨rfl, hb2⟩
      have HB2 := Lib.hid (HB1.out.trans (hb2.mono HB1.out.size))
      clear hb2
      go_wp2_with fail
      go_ret
      exact ⟨rfl, HB2.out⟩
    · by_cases h4 : 400 < nk
      · have h4' : (400 : Int) < (nk : Int) := by omega
        go_enter Try.func4, Try.ntmps4
        go_wp2_with fail
        clear hW0
        refine HFW.out.mono ?_
        rintro r1 w1 ⟨rfl, hb1⟩
        have HB1 := Lib.hid (HBW.out.trans (hb1.mono HBW.out.size))
        clear hb1
        go_wp2_with fail
        refine (awakeG_any _).mono ?_
        rintro r2 w2 ⟨rfl, hb2⟩
        have HB2 := Lib.hid (HB1.out.trans (hb2.mono HB1.out.size))
        clear hb2
        go_wp2_with fail
        go_ret
        exact ⟨rfl, HB2.out⟩
      · have h5 : 400 < na := by
          rcases HS.out with h | h | h
          · cases h
          · exact absurd h h4
          · exact h
        have h4' : ¬ (400 : Int) < (nk : Int) := by omega
        have h5' : (400 : Int) < (na : Int) := by omega
        go_enter Try.func4, Try.ntmps4
        go_wp2_with fail
        clear hW0
        refine HFW.out.mono ?_
        rintro r1 w1 ⟨rfl, hb1⟩
        have HB1 := Lib.hid (HBW.out.trans (hb1.mono HBW.out.size))
        clear hb1
        go_wp2_with fail
        refine (awakeG_any _).mono ?_
        rintro r2 w2 ⟨rfl, hb2⟩
        have HB2 := Lib.hid (HB1.out.trans (hb2.mono HB1.out.size))
        clear hb2
        go_wp2_with fail
        go_ret
        exact ⟨rfl, HB2.out⟩
  cases hfb : gfewB 200 1000 G
  · exact small (.inl hfb)
  by_cases h4 : 400 < nk
  · exact small (.inr (.inl h4))
  by_cases h5 : 400 < na
  · exact small (.inr (.inr h5))
  clear small
  rw [hfb] at HFW
  have h4' : ¬ (400 : Int) < (nk : Int) := by omega
  have h5' : ¬ (400 : Int) < (na : Int) := by omega
  clear hfb
  go_enter Try.func4, Try.ntmps4
  go_wp2_with fail
  clear hW0
  refine HFW.out.mono ?_
  rintro r1 w1 ⟨rfl, hb1⟩
  have HB1 := Lib.hid hb1
  obtain ⟨_, q0', q1', q2'⟩ := HX0.out.below hb1
  clear hb1 q0 q1 q2 hlt0
  go_wp2_with fail
  refine (HDU.out _ HB1.out).mono ?_
  rintro r2 w2 ⟨v1, rfl, hga, hb⟩
  obtain ⟨a1, c1, p1, d1, x1, e1, rfl, hgi⟩ := hga.lens
  have HG1 := Lib.hid hgi
  have HS2 := Lib.hid (show Below w1.heap.size w1 w2 from hb)
  have HB2 := Lib.hid (HB1.out.trans (hb.mono HB1.out.size))
  obtain ⟨_, q0', q1', q2'⟩ := HX0.out.below HB2.out
  clear hga hgi hb
  go_wp2_with fail
  refine (HRU.out _ (HB2.out.alloc HB2.out.size _)).mono ?_
  rintro r3 w3 ⟨v2, rfl, hga, hb⟩
  obtain ⟨a2, c2, p2, d2, x2, e2, rfl, hgi⟩ := hga.lens
  have HG2 := Lib.hid hgi
  have HS3 := Lib.hid (show Below w2.heap.size w2 w3 from ((Below.refl _ _).alloc (Nat.le_refl _) _).trans (hb.mono (by rw [World.size_alloc]; exact Nat.le_succ _)))
  have HB3 := Lib.hid (HB2.out.trans (HS3.out.mono HB2.out.size))
  have HX1 := Lib.hid ((Bx3.new w2 (.slice a1 (dualG G).O.length c1) (.slice p1 (dualG G).P.length d1) (.slice x1 (dualG G).X.length e1) 25).below hb)
  obtain ⟨_, q0', q1', q2'⟩ := HX0.out.below HB3.out
  clear hga hgi hb
  go_wp2_with fail
  refine (HSU.out (by omega) _ (HB3.out.alloc HB3.out.size _)).mono ?_
  rintro r4 w4 ⟨v3, L3, lc3, rfl, hga, hli, hb⟩
  have HLI3 := Lib.hid hli
  clear hli
  obtain ⟨a3, c3, p3, d3, x3, e3, rfl, hgi⟩ := hga.lens
  have HG3 := Lib.hid hgi
  have HS4 := Lib.hid (show Below w3.heap.size w3 w4 from ((Below.refl _ _).alloc (Nat.le_refl _) _).trans (hb.mono (by rw [World.size_alloc]; exact Nat.le_succ _)))
  have HB4 := Lib.hid (HB3.out.trans (HS4.out.mono HB3.out.size))
  have HX2 := Lib.hid ((Bx3.new w3 (.slice a2 (dualG G).O.length c2) (.slice p2 (dualG G).P.length d2) (.slice x2 (dualG G).X.length e2) 25).below hb)
  have HX1 := Lib.hid (HX1.out.below HS4.out)
  obtain ⟨_, q0', q1', q2'⟩ := HX0.out.below HB4.out
  clear hga hgi hb
  go_wp2_with fail
  refine (HRS.out (by omega) _ (HB4.out.alloc HB4.out.size _)).mono ?_
  rintro r5 w5 ⟨v4, L4, lc4, rfl, hga, hli, hb⟩
  have HLI4 := Lib.hid hli
  clear hli
  obtain ⟨a4, c4, p4, d4, x4, e4, rfl, hgi⟩ := hga.lens
  have HG4 := Lib.hid hgi
  have HS5 := Lib.hid (show Below w4.heap.size w4 w5 from ((Below.refl _ _).alloc (Nat.le_refl _) _).trans (hb.mono (by rw [World.size_alloc]; exact Nat.le_succ _)))
  have HB5 := Lib.hid (HB4.out.trans (HS5.out.mono HB4.out.size))
  have HX3 := Lib.hid ((Bx3.new w4 (.slice a3 (subG G K nk).O.length c3) (.slice p3 (subG G K nk).P.length d3) (.slice x3 (subG G K nk).X.length e3) 25).below hb)
  have HX1 := Lib.hid (HX1.out.below HS5.out)
  have HX2 := Lib.hid (HX2.out.below HS5.out)
  obtain ⟨_, q0', q1', q2'⟩ := HX0.out.below HB5.out
  clear hga hgi hb
  go_wp2_with fail
  refine (HTU.out _ (HB5.out.alloc HB5.out.size _)).mono ?_
  rintro r6 w6 ⟨v5, rfl, hga, hb⟩
  obtain ⟨a5, c5, p5, d5, x5, e5, rfl, hgi⟩ := hga.lens
  have HG5 := Lib.hid hgi
  have HS6 := Lib.hid (show Below w5.heap.size w5 w6 from ((Below.refl _ _).alloc (Nat.le_refl _) _).trans (hb.mono (by rw [World.size_alloc]; exact Nat.le_succ _)))
  have HB6 := Lib.hid (HB5.out.trans (HS6.out.mono HB5.out.size))
  have HX4 := Lib.hid ((Bx3.new w5 (.slice a4 (subG G K nk).O.length c4) (.slice p4 (subG G K nk).P.length d4) (.slice x4 (subG G K nk).X.length e4) 25).below hb)
  have HX1 := Lib.hid (HX1.out.below HS6.out)
  have HX2 := Lib.hid (HX2.out.below HS6.out)
  have HX3 := Lib.hid (HX3.out.below HS6.out)
  obtain ⟨_, q0', q1', q2'⟩ := HX0.out.below HB6.out
  clear hga hgi hb
  go_wp2_with fail
  refine (HRT.out _ (HB6.out.alloc HB6.out.size _)).mono ?_
  rintro r7 w7 ⟨v6, rfl, hga, hb⟩
  obtain ⟨a6, c6, p6, d6, x6, e6, rfl, hgi⟩ := hga.lens
  have HG6 := Lib.hid hgi
  have HS7 := Lib.hid (show Below w6.heap.size w6 w7 from ((Below.refl _ _).alloc (Nat.le_refl _) _).trans (hb.mono (by rw [World.size_alloc]; exact Nat.le_succ _)))
  have HB7 := Lib.hid (HB6.out.trans (HS7.out.mono HB6.out.size))
  have HX5 := Lib.hid ((Bx3.new w6 (.slice a5 (tradeG G ch q).O.length c5) (.slice p5 (tradeG G ch q).P.length d5) (.slice x5 (tradeG G ch q).X.length e5) 25).below hb)
  have HX1 := Lib.hid (HX1.out.below HS7.out)
  have HX2 := Lib.hid (HX2.out.below HS7.out)
  have HX3 := Lib.hid (HX3.out.below HS7.out)
  have HX4 := Lib.hid (HX4.out.below HS7.out)
  obtain ⟨_, q0', q1', q2'⟩ := HX0.out.below HB7.out
  clear hga hgi hb
  go_upto_region 9 with fail
  obtain ⟨W8, hW8⟩ : ∃ W8, w7.alloc (.cells #[.slice a6 (tradeG G ch q).O.length c6, .slice p6 (tradeG G ch q).P.length d6, .slice x6 (tradeG G ch q).X.length e6] 25) = W8 := ⟨_, rfl⟩
  have HX6 := Lib.hid (show Bx3 W8 w7.heap.size (.slice a6 (tradeG G ch q).O.length c6) (.slice p6 (tradeG G ch q).P.length d6) (.slice x6 (tradeG G ch q).X.length e6) by rw [← hW8]; exact Bx3.new _ _ _ _ _)
  have HT7 := Lib.hid (show Below w7.heap.size w7 W8 by rw [← hW8]; exact (Below.refl _ _).alloc (Nat.le_refl _) _)
  rw [hW8]
  clear hW8
  have HT6 := Lib.hid (HS7.out.trans (HT7.out.mono HS7.out.size))
  have HT5 := Lib.hid (HS6.out.trans (HT6.out.mono HS6.out.size))
  have HT4 := Lib.hid (HS5.out.trans (HT5.out.mono HS5.out.size))
  have HT3 := Lib.hid (HS4.out.trans (HT4.out.mono HS4.out.size))
  have HT2 := Lib.hid (HS3.out.trans (HT3.out.mono HS3.out.size))
  have HBQ := Lib.hid (HBW.out.trans ((HB7.out.trans (HT7.out.mono HB7.out.size)).mono HBW.out.size))
  have HX1 := Lib.hid (HX1.out.below HT7.out)
  have HX2 := Lib.hid (HX2.out.below HT7.out)
  have HX3 := Lib.hid (HX3.out.below HT7.out)
  have HX4 := Lib.hid (HX4.out.below HT7.out)
  have HX5 := Lib.hid (HX5.out.below HT7.out)
  have HSA := Lib.hid (fun W (hW : Below W8.heap.size W8 W) => gsame_true a1 p1 x1 a2 p2 x2 _ c1 _ d1 _ e1 c2 d2 e2 (dualG G) W ((HG1.out.below HT2.out).below hW) ((HG2.out.below HT3.out).below hW) HBD.out.1 HBD.out.2.1 HBD.out.2.2.1 HBD.out.2.2.2)
  have HSB := Lib.hid (fun W (hW : Below W8.heap.size W8 W) => gsame_true a3 p3 x3 a4 p4 x4 _ c3 _ d3 _ e3 c4 d4 e4 (subG G K nk) W ((HG3.out.below HT4.out).below hW) ((HG4.out.below HT5.out).below hW) HBS.out.1.1 HBS.out.1.2.1 HBS.out.1.2.2.1 HBS.out.1.2.2.2)
  have HSC := Lib.hid (fun W (hW : Below W8.heap.size W8 W) => gsame_true a5 p5 x5 a6 p6 x6 _ c5 _ d5 _ e5 c6 d6 e6 (tradeG G ch q) W ((HG5.out.below HT6.out).below hW) ((HG6.out.below HT7.out).below hW) HBT.out.1 HBT.out.2.1 HBT.out.2.2.1 HBT.out.2.2.2)
  have HLI := Lib.hid (fun W (hW : Below W8.heap.size W8 W) => List_same L3 L4 (subL G K nk).length lc3 lc4 (subL G K nk) W ((HLI3.out.below HT4.out).below hW) ((HLI4.out.below HT5.out).below hW) (by have := HBS.out.2; omega))
  clear q0' q1' q2'
  obtain ⟨_, m10, m11, m12⟩ := HX1.out
  obtain ⟨_, m20, m21, m22⟩ := HX2.out
  obtain ⟨_, m30, m31, m32⟩ := HX3.out
  obtain ⟨_, m40, m41, m42⟩ := HX4.out
  obtain ⟨_, m50, m51, m52⟩ := HX5.out
  obtain ⟨_, m60, m61, m62⟩ := HX6.out
  generalize hg1O : (dualG G).O.length = n1O at *
  clear hg1O
  generalize hg1P : (dualG G).P.length = n1P at *
  clear hg1P
  generalize hg1X : (dualG G).X.length = n1X at *
  clear hg1X
  generalize hg3O : (subG G K nk).O.length = n3O at *
  clear hg3O
  generalize hg3P : (subG G K nk).P.length = n3P at *
  clear hg3P
  generalize hg3X : (subG G K nk).X.length = n3X at *
  clear hg3X
  generalize hg5O : (tradeG G ch q).O.length = n5O at *
  clear hg5O
  generalize hg5P : (tradeG G ch q).P.length = n5P at *
  clear hg5P
  generalize hg5X : (tradeG G ch q).X.length = n5X at *
  clear hg5X
  generalize hckd : dualC G = kd at *
  clear hckd
  have hqkd : (kd == kd) = true := by simp
  generalize hcks : subC G K nk = ks at *
  clear hcks
  have hqks : (ks == ks) = true := by simp
  generalize hckt : tradeC G ch q = kt at *
  clear hckt
  have hqkt : (kt == kt) = true := by simp
  generalize hgl : (subL G K nk).length = nl at *
  clear hgl
  go_wp2_with fail
  refine (HSA.out _ (Below.refl _ _)).mono ?_
  rintro r9 w9 ⟨rfl, hb9⟩
  have HB9 := Lib.hid hb9
  obtain ⟨_, m30', m31', m32'⟩ := HX3.out.below HB9.out
  obtain ⟨_, m40', m41', m42'⟩ := HX4.out.below HB9.out
  obtain ⟨_, m50', m51', m52'⟩ := HX5.out.below HB9.out
  obtain ⟨_, m60', m61', m62'⟩ := HX6.out.below HB9.out
  clear hb9 m10 m11 m12 m20 m21 m22 m30 m31 m32 m40 m41 m42 m50 m51 m52 m60 m61 m62
  go_wp2_with fail
  refine (HSB.out _ HB9.out).mono ?_
  rintro r10 w10 ⟨rfl, hb10⟩
  have HB10 := Lib.hid (HB9.out.trans (hb10.mono HB9.out.size))
  obtain ⟨_, s50, s51, s52⟩ := HX5.out.below HB10.out
  obtain ⟨_, s60, s61, s62⟩ := HX6.out.below HB10.out
  clear hb10 m30' m31' m32' m40' m41' m42' m50' m51' m52' m60' m61' m62'
  go_wp2_with fail
  refine (HLI.out _ HB10.out).mono ?_
  rintro r11 w11 ⟨rfl, z11, rfl⟩
  go_wp2_with fail
  refine (HSC.out _ (below_drewN HB10.out z11)).mono ?_
  rintro r12 w12 ⟨rfl, hb12⟩
  have HB12 := Lib.hid (show Below W8.heap.size W8 w12 from (below_drewN HB10.out z11).trans (hb12.mono (below_drewN HB10.out z11).size))
  clear hb12
  go_wp2_with fail
  refine (awakeG_any _).mono ?_
  rintro r13 w13 ⟨rfl, hb13⟩
  have HB13 := Lib.hid (HB12.out.trans (hb13.mono HB12.out.size))
  clear hb13
  go_wp2_with fail
  go_ret
  exact ⟨rfl, HBQ.out.trans (HB13.out.mono HBQ.out.size)⟩

end Go.Proofs.Ytffdbncjndnnaaa.Wd
