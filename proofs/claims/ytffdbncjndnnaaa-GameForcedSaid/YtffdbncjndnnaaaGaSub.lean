/-
  Sub of package game.
-/
import Derived.Test.YtffdbncjndnnaaaGaSubM
import Derived.Test.YtffdbncjndnnaaaGaValid
import Derived.Test.YtffdbncjndnnaaaGaRefDual
import Derived.Maps.AppendAt
namespace Go.Proofs.Ytffdbncjndnnaaa.Wd
open Go.RowKit
set_option linter.unusedVariables false
set_option linter.unusedSimpArgs false

set_option maxRecDepth 100000 in
set_option maxHeartbeats 8000000 in
theorem gsub_any (a p x A : Option Addr) (n c m d k e nk ck : Nat) (G : Gm) (K : Nat → Bool) (w : World) (h : GameIn w a n p m x k G) (hK : BoolsIn w A nk K) (hn : n ≤ 17592186044416) (hk : k ≤ 17592186044416) (hnk : nk ≤ 17592186044416) (hl : ∀ v, (G.X.getD v []).length ≤ 17592186044416) :
    Calls Try.prog 19 #[.agg #[.slice a n c, .slice p m d, .slice x k e], .slice A nk ck] w fun r w' => OutS w w' (subG G K nk) (subL G K nk) (subC G K nk) r := by
  have HV := Lib.hid (valid_any a p x n c m d k e G (two w #[.slice a n c, .slice p m d, .slice x k e]) (h.below (two_below w _)) hk hl)
  obtain ⟨vb, hvb, HVB⟩ : ∃ vb, gmB G = vb ∧ Hid (gmB G = vb) := ⟨_, rfl, rfl⟩
  rw [hvb] at HV
  clear hvb
  have H0 := Lib.hid h
  have HK0 := Lib.hid hK
  have hnk0 : (0 : Int) ≤ (nk : Int) := by omega
  clear h hl hK
  unfold two at HV
  cases vb
  · have HD := Lib.hid (sub_bad (K := K) (nk := nk) HVB.out)
    go_enter Try.func19, Try.ntmps19
    go_wp2_with fail
    refine HV.out.mono ?_
    rintro r w1 ⟨rfl, hb1⟩
    have hb1' : Below (two w #[.slice a n c, .slice p m d, .slice x k e]).heap.size (two w #[.slice a n c, .slice p m d, .slice x k e]) w1 := hb1
    have HB1 := Lib.hid (two_trans hb1')
    obtain ⟨⟨q0, q1, q2⟩, ⟨r0, r1, r2⟩, ⟨f0, f1, f2⟩, hz⟩ := two_read hb1'
    clear hb1 hb1'
    go_wp2_with fail
    obtain ⟨x0, x1, x2⟩ := cells3g r0 r1 r2 (.slice none 0 0) (.slice none 0 0) (.slice none 0 0)
    refine bodyPost_ret (v := .tuple #[.agg #[.slice none 0 0, .slice none 0 0, .slice none 0 0], .slice none 0 0, .int .i64 1]) (by simp [results, Try.results19, go_sem, x0, x1, x2]) rfl ?_
    rw [HD.out.1, HD.out.2.1, HD.out.2.2]
    exact ⟨_, none, 0, rfl, GameAt.zero _, Ints.none_, three_below HB1.out _ _ _⟩
  obtain ⟨hg1, hg2, hg3, hg4⟩ := gmB_true HVB.out
  have hxl := H0.out.x.1
  have hol := H0.out.o.1
  have hpl := H0.out.p.1
  obtain rfl : n = k := by omega
  obtain rfl : m = n := by omega
  have hk0 : (0 : Int) ≤ (m : Int) := by omega
  by_cases hd : ¬ nk = m
  · have HD := Lib.hid (sub_dim (K := K) (nk := nk) HVB.out (by omega))
    have hd' : ((nk : Int) != (m : Int)) = true := by simp; omega
    clear hg4
    go_enter Try.func19, Try.ntmps19
    go_wp2_with fail
    refine HV.out.mono ?_
    rintro r w1 ⟨rfl, hb1⟩
    have hb1' : Below (two w #[.slice a m c, .slice p m d, .slice x m e]).heap.size (two w #[.slice a m c, .slice p m d, .slice x m e]) w1 := hb1
    have HB1 := Lib.hid (two_trans hb1')
    obtain ⟨⟨q0, q1, q2⟩, ⟨r0, r1, r2⟩, ⟨f0, f1, f2⟩, hz⟩ := two_read hb1'
    clear hb1 hb1'
    go_wp2_with fail
    obtain ⟨x0, x1, x2⟩ := cells3g r0 r1 r2 (.slice none 0 0) (.slice none 0 0) (.slice none 0 0)
    refine bodyPost_ret (v := .tuple #[.agg #[.slice none 0 0, .slice none 0 0, .slice none 0 0], .slice none 0 0, .int .i64 2]) (by simp [results, Try.results19, go_sem, x0, x1, x2]) rfl ?_
    rw [HD.out.1, HD.out.2.1, HD.out.2.2]
    exact ⟨_, none, 0, rfl, GameAt.zero _, Ints.none_, three_below HB1.out _ _ _⟩
  obtain rfl : nk = m := by omega
  have hd' : ((nk : Int) != (nk : Int)) = false := by simp
  have HPOS := Lib.hid hg4
  have HLENS := Lib.hid (show G.O.length = nk ∧ G.P.length = nk ∧ G.X.length = nk from ⟨hol, hpl, hxl⟩)
  have HSB := Lib.hid (fun h => sub_none (K := K) (nk := nk) HVB.out (by omega) h)
  have HSG := Lib.hid (fun h => sub_good (K := K) (nk := nk) HVB.out (by omega) h)
  have hnn : nk ≤ 20000 := by omega
  clear hg4 hg1 hg2 hg3 hol hpl hxl
  have hmk := run_make_row' (P := Try.prog) 22 3 (.int .i64 0) 8 Try.underlying22 g_ints_info rfl .i64 .i64 nk (by omega) (by omega)
  obtain ⟨i0, hi, hi0, hi1, hi2⟩ := g_info_parts g_ints_info
  obtain ⟨i3, hir, hir0, hir1, hir2⟩ := g_info_parts g_rows_info
  go_enter Try.func19, Try.ntmps19
  go_wp2_with fail
  refine HV.out.mono ?_
  rintro r w1 ⟨rfl, hb1⟩
  have hb1' : Below (two w #[.slice a nk c, .slice p nk d, .slice x nk e]).heap.size (two w #[.slice a nk c, .slice p nk d, .slice x nk e]) w1 := hb1
  have HB1 := Lib.hid (two_trans hb1')
  have HB2 := Lib.hid (hb1'.mono (B' := w.heap.size + 2) (by rw [two_size]; exact Nat.le_refl _))
  obtain ⟨⟨q0, q1, q2⟩, ⟨r0, r1, r2⟩, ⟨f0, f1, f2⟩, hz⟩ := two_read hb1'
  have HTR := Lib.hid (fun W (hW : Below w1.heap.size w1 W) => two_read (hb1'.trans (hW.mono hb1'.size)))
  clear hb1 hb1'
  go_wp2_with fail
  obtain ⟨W1, hW1⟩ : ∃ W1, w1.alloc (.cells (madeCells #[.int .i64 0] nk) 3) = W1 := ⟨_, rfl⟩
  have HN1 := Lib.hid (show W1.rowIs w1.heap.size 3 nk (fun i => .int .i64 0) by rw [← hW1]; exact World.rowIs_made _ _ _ _)
  have HW1 := Lib.hid (show Below w1.heap.size w1 W1 by rw [← hW1]; exact (Below.refl _ _).alloc (Nat.le_refl _) _)
  have HZ1 := Lib.hid (show w1.heap.size + 1 ≤ W1.heap.size by rw [← hW1]; simp)
  rw [hW1]
  clear hW1 hmk
  obtain ⟨bn, hbn, HBN⟩ : ∃ bn, w1.heap.size = bn ∧ Hid (w1.heap.size = bn) := ⟨_, rfl, rfl⟩
  rw [hbn] at HN1 HZ1 ⊢
  rw [hbn] at hz
  clear hbn
  go_loopg [5, 31] nk (fun g s5 i wx => ∃ j : Nat, j + g = nk ∧ i = .int .i64 j ∧ (∃ A5 c5, s5 = .slice A5 (numK K j) c5 ∧ Hid (wx.ownsRow (bn + 1) 3 1 (.slice A5 (numK K j) c5) (numK K j) ((castL (ofK K j)).map (Value.int .i64)))) ∧ Hid (wx.rowIs bn 3 nk (fun i => .int .i64 (if i < j then (if K i then (numK K i : Int) else 0) else 0))) ∧ Hid (Below w1.heap.size w1 wx) ∧ Hid (bn + 1 ≤ wx.heap.size))
  case atStart => exact ⟨0, by omega, rfl, ⟨none, 0, rfl, World.ownsRow_nil _ _ _ _⟩, HN1.out.congr (fun i _ => by rw [if_neg (by omega)]), HW1.out, HZ1.out⟩
  case round =>
    obtain ⟨j, hjg, rfl, ⟨A5, c5, rfl, HO5⟩, HRN, HBX, HZX⟩ := hrel
    have hj0 : (0 : Int) ≤ (j : Int) := by omega
    cases gk with
    | zero =>
      obtain rfl : nk = j := by omega
      obtain ⟨W2, rfl⟩ : ∃ W2, W2 = wr := ⟨_, rfl⟩
      have hnj := numK_le K nk
      have HOF := Lib.hid (Ints.of_own HO5.out)
      have HO5B := Lib.hid (fun b (e : (Value.slice A5 (numK K nk) c5).ownBlock = some b) => HO5.out.lt b e)
      have HWW := Lib.hid (HB1.out.trans (HBX.out.mono HB1.out.size))
      have HBO := Lib.hid (Bld.start (B := W2.heap.size) (((HB2.out.trans (HBX.out.mono (by have := HBN.out; omega))).block (w.heap.size + 1) (by omega)).trans (two_heap w #[.slice a nk c, .slice p nk d, .slice x nk e])))
      have hb2 : W2.cell? ⟨w.heap.size, 2, none⟩ = some (.slice x nk e) := (HTR.out _ HBX.out).1.2.2
      have HTW := Lib.hid (HTR.out _ HBX.out)
      have hcnt0 : (0 : Int) ≤ (numK K nk : Int) := by omega
      have hbdB : w.heap.size + 1 < W2.heap.size := by have := HZX.out; omega
      generalize hcn : numK K nk = cnt at *
      have HCN := Lib.hid (show (ofK K nk).length = cnt from hcn)
      have HCN2 := Lib.hid hcn
      clear hcn
      go_wp2_with fail
      go_loopg [5, 49] cnt (fun g s5 i wx => ∃ t : Nat, t + g = cnt ∧ i = .int .i64 t ∧ s5 = .slice A5 cnt c5 ∧ Hid (∃ V, Bld W2.heap.size (w.heap.size + 1) wx V (subP G K nk t)) ∧ Hid (Keep W2.heap.size (w.heap.size + 1) W2 wx) ∧ Hid (∀ s, s < t → ¬ (nextK K (G.X.getD ((ofK K nk).getD s 0) [])).length = 0))
      case atStart => exact ⟨0, by omega, rfl, rfl, ⟨_, by rw [subP_zero]; exact HBO.out⟩, Keep.refl _ _, fun s hs => by omega⟩
      case round =>
        obtain ⟨t, htg, rfl, rfl, HVV, HKP, HNO⟩ := hrel
        obtain ⟨V, hbld⟩ := HVV.out
        have HU := Lib.hid hbld
        clear hbld HVV
        have ht0 : (0 : Int) ≤ (t : Int) := by omega
        cases gk with
        | zero =>
          obtain rfl : cnt = t := by omega
          have HD := Lib.hid (HSG.out (by
            unfold subOK
            rw [HCN.out]
            exact allB_good fun s hs => decide_eq_true (HNO.out s hs)))
          obtain ⟨⟨y0, y1, y2⟩, ⟨z0, z1, z2⟩⟩ := HU.out.cells
          obtain ⟨A0, cc0, v0, _⟩ := own_slice HU.out.own0
          obtain ⟨A1, cc1, v1, _⟩ := own_slice HU.out.own1
          obtain ⟨A2, cc2, v2, _⟩ := own_slice HU.out.own2
          rw [v0] at y0
          rw [v1] at y1
          rw [v2] at y2
          have HGM := Lib.hid (fun u0 u1 u2 => ((((HU.out.fam.put' (a := ⟨w.heap.size + 1, 0, none⟩) HU.out.ap u0).put' (a := ⟨w.heap.size + 1, 1, none⟩) HU.out.ap u1).put' (a := ⟨w.heap.size + 1, 2, none⟩) HU.out.ap u2)).game)
          rw [v0, v1, v2] at HGM
          clear v0 v1 v2
          generalize (subP G K nk cnt).O.length = d0 at *
          generalize (subP G K nk cnt).P.length = d1 at *
          generalize (subP G K nk cnt).X.length = d2 at *
          go_wp2_with fail
          obtain ⟨x0, x1, x2⟩ := cells3g y0 y1 y2 (.slice A0 d0 cc0) (.slice A1 d1 cc1) (.slice A2 d2 cc2)
          refine bodyPost_ret (v := .tuple #[.agg #[.slice A0 d0 cc0, .slice A1 d1 cc1, .slice A2 d2 cc2], .slice A5 cnt c5, .int .i64 0]) (by simp [results, Try.results19, go_sem, x0, x1, x2]) rfl ?_
          rw [HD.out.1, HD.out.2.1, HD.out.2.2, HCN.out]
          have hcl : (castL (ofK K nk)).length = cnt := by unfold castL; rw [List.length_map, HCN.out]
          refine ⟨_, A5, c5, by rw [hcl], HGM.out _ _ _, ?_, three_below (HWW.out.trans (HKP.out.low.mono (by omega))) _ _ _⟩
          rw [hcl]
          refine ⟨hcl, fun h0 => ?_⟩
          obtain ⟨b5, o5, rfl, hb5, hc5⟩ := HOF.out.2 h0
          have hb5n : bn + 1 ≤ b5 := (HO5B.out b5 rfl).1
          refine ⟨b5, o5, rfl, ?_, fun s hs => ?_⟩
          · rw [size_set, size_set, size_set]
            exact Nat.lt_of_lt_of_le hb5 HKP.out.size
          · have hne : b5 ≠ w.heap.size + 1 := by omega
            refine Eq.trans (World.cell?_of_block (a := ⟨b5, o5 + s, none⟩) ?_) (hc5 s hs)
            exact (set_far _ _ _ hne).trans ((set_far _ _ _ hne).trans ((set_far _ _ _ hne).trans (HKP.out.block b5 hb5 hne)))
        | succ g2 =>
          have htl : t < cnt := by omega
          have htl2 : (t : Int) < (cnt : Int) := by omega
          have hvn := ofK_lt (K := K) (n := nk) (t := t) (by rw [HCN.out]; exact htl)
          obtain ⟨v, hv⟩ : ∃ v, (ofK K nk).getD t 0 = v := ⟨_, rfl⟩
          rw [hv] at hvn
          obtain ⟨b5, o5, rfl, hb5, hc5⟩ := HOF.out.2 (by omega)
          have hb5n : bn + 1 ≤ b5 := (HO5B.out b5 rfl).1
          obtain ⟨bo, oo, rfl, hbo, hco⟩ := H0.out.o.2 (by omega)
          obtain ⟨bp, op, rfl, hbp, hcp⟩ := H0.out.p.2 (by omega)
          obtain ⟨bx, ox, rfl, hbx, hcx⟩ := H0.out.x.2 (by omega)
          obtain ⟨bk, ok, rfl, hbk, hck⟩ := HK0.out (by omega)
          obtain ⟨bl, cl, kl', il⟩ := hcx v hvn
          have hofc : W2.cell? ⟨b5, o5 + t, none⟩ = some (.int .i64 (v : Int)) := by rw [hc5 t htl, castL_at _ (by rw [HCN.out]; exact htl), hv]
          have HRD := Lib.hid (fun W (hW : Keep W2.heap.size (w.heap.size + 1) W2 W) => show (W.cell? ⟨w.heap.size, 0, none⟩ = some (.slice (some ⟨bo, oo, none⟩) nk c) ∧ W.cell? ⟨w.heap.size, 1, none⟩ = some (.slice (some ⟨bp, op, none⟩) nk d) ∧ W.cell? ⟨w.heap.size, 2, none⟩ = some (.slice (some ⟨bx, ox, none⟩) nk e)) ∧ W.cell? ⟨b5, o5 + t, none⟩ = some (.int .i64 (v : Int)) ∧ W.cell? ⟨bo, oo + v, none⟩ = some (.int .i64 (G.O.getD v 0)) ∧ W.cell? ⟨bp, op + v, none⟩ = some (.int .i64 (G.P.getD v 0)) ∧ W.cell? ⟨bx, ox + v, none⟩ = some (.slice bl (G.X.getD v []).length cl) ∧ Ints W bl (G.X.getD v []).length (G.X.getD v []) from by
            have hlow := hW.low
            have hWw : Below w.heap.size w W := HWW.out.trans (hlow.mono (by omega))
            obtain ⟨⟨y0, y1, y2⟩, _⟩ := HTW.out
            exact ⟨⟨(hlow.cell (p := ⟨w.heap.size, 0, none⟩) (by show w.heap.size < w.heap.size + 1; omega)).trans y0, (hlow.cell (p := ⟨w.heap.size, 1, none⟩) (by show w.heap.size < w.heap.size + 1; omega)).trans y1, (hlow.cell (p := ⟨w.heap.size, 2, none⟩) (by show w.heap.size < w.heap.size + 1; omega)).trans y2⟩, (hW.cell hb5 (by omega)).trans hofc, (hWw.cell (p := ⟨bo, oo + v, none⟩) hbo).trans (hco v hvn), (hWw.cell (p := ⟨bp, op + v, none⟩) hbp).trans (hcp v hvn), (hWw.cell (p := ⟨bx, ox + v, none⟩) hbx).trans kl', il.below hWw⟩)
          have HRK := Lib.hid (fun W (hW : Keep W2.heap.size (w.heap.size + 1) W2 W) (u : Nat) (hu : u < nk) => show W.cell? ⟨bk, ok + u, none⟩ = some (.bool (K u)) ∧ W.cell? ⟨bn, u, none⟩ = some (.int .i64 (if K u then (numK K u : Int) else 0)) from by
            have hWw : Below w.heap.size w W := HWW.out.trans (hW.low.mono (by omega))
            refine ⟨(hWw.cell (p := ⟨bk, ok + u, none⟩) hbk).trans (hck u hu), (hW.cell (by have := HZX.out; omega) (by omega)).trans ?_⟩
            have h := HRN.out.cell hu
            rw [if_pos hu] at h
            exact h)
          have HSX := Lib.hid (posB_true (HPOS.out v (by rw [HLENS.out.2.2]; exact hvn))).2.2.2
          have hlv : (G.X.getD v []).length ≤ 64 := gmB_len HVB.out v
          have HNX := Lib.hid (subP_next (G := G) (K := K) (n := nk) (t := t) (by rw [HCN.out]; exact htl))
          have HLX := Lib.hid (subP_len (G := G) (K := K) (n := nk) (t := t) (by rw [HCN.out]; omega))
          rw [hv] at HNX
          have HV5 := Lib.hid hv
          have HGX := Lib.hid HLENS.out.2.2
          clear hco hcp hcx hck kl' il hc5 hofc hv
          obtain ⟨⟨q0, q1, q2⟩, kof, ko, kp, kl, il⟩ := HRD.out _ HKP.out
          have HIL := Lib.hid il
          clear il
          have hv0 : (0 : Int) ≤ (v : Int) := by omega
          have hv1 : (v : Int) < (nk : Int) := by omega
          generalize hl : G.X.getD v [] = l at *
          have HLV := Lib.hid hl
          clear hl
          generalize hll : l.length = ll at *
          have HLL := Lib.hid hll
          clear hll
          have hll0 : (0 : Int) ≤ (ll : Int) := by omega
          go_wp2_with fail
          obtain ⟨W3, rfl⟩ : ∃ W3, W3 = wr := ⟨_, rfl⟩
          go_loopg [12, 59] ll (fun g3 nv i wy => ∃ r : Nat, r + g3 = ll ∧ i = .int .i64 r ∧ (∃ A7 c7, nv = .slice A7 (nextK K (l.take r)).length c7 ∧ Hid (wy.ownsRow W3.heap.size 3 1 (.slice A7 (nextK K (l.take r)).length c7) (nextK K (l.take r)).length ((nextK K (l.take r)).map (Value.int .i64)))) ∧ Hid (Below W3.heap.size W3 wy))
          case atStart => exact ⟨0, by omega, rfl, ⟨none, 0, rfl, World.ownsRow_nil _ _ _ _⟩, Below.refl _ _⟩
          case round =>
            obtain ⟨r, hrg, rfl, ⟨A7, c7, rfl, HO7⟩, HBY⟩ := hrel
            have hr0 : (0 : Int) ≤ (r : Int) := by omega
            have HKY := Lib.hid (HKP.out.below HBY.out (by omega))
            obtain ⟨⟨q0', q1', q2'⟩, kof', ko', kp', kl'', il'⟩ := HRD.out _ HKY.out
            clear q0 q1 q2 kof ko kp kl
            have HIY := Lib.hid il'
            clear il'
            cases gk with
            | zero =>
              obtain rfl : ll = r := by omega
              have HT := Lib.hid (show l.take ll = l from List.take_of_length_le (by rw [HLL.out]; exact Nat.le_refl _))
              rw [HT.out] at HO7 ⊢
              have HUY := Lib.hid (HU.out.below HBY.out)
              have hnl := nextK_len K l
              generalize hnx : nextK K l = nx at *
              have HNXQ := Lib.hid hnx
              clear hnx
              have hnx0 : (0 : Int) ≤ (nx.length : Int) := by omega
              obtain ⟨⟨y0, y1, y2⟩, ⟨z0, z1, z2⟩⟩ := HUY.out.cells
              by_cases hne : nx.length = 0
              · have hne' : ((nx.length : Int) == 0) = true := by rw [hne]; rfl
                have HD := Lib.hid (HSB.out (allB_bad (j := t) (by rw [HCN.out]; exact htl) (by simp only [HV5.out, HLV.out, HNXQ.out, hne]; rfl)))
                obtain ⟨A0, cc0, v0, _⟩ := own_slice HUY.out.own0
                obtain ⟨A1, cc1, v1, _⟩ := own_slice HUY.out.own1
                obtain ⟨A2, cc2, v2, _⟩ := own_slice HUY.out.own2
                rw [v0] at y0
                rw [v1] at y1
                rw [v2] at y2
                clear v0 v1 v2
                go_wp2_with fail
                obtain ⟨x0, x1, x2⟩ := cells3g y0 y1 y2 (.slice none 0 0) (.slice none 0 0) (.slice none 0 0)
                refine bodyPost_ret (v := .tuple #[.agg #[.slice none 0 0, .slice none 0 0, .slice none 0 0], .slice none 0 0, .int .i64 5]) (by simp [results, Try.results19, go_sem, x0, x1, x2]) rfl ?_
                rw [HD.out.1, HD.out.2.1, HD.out.2.2]
                exact ⟨_, none, 0, rfl, GameAt.zero _, Ints.none_, three_below (HWW.out.trans (HKY.out.low.mono (by omega))) _ _ _⟩
              have hne' : ((nx.length : Int) == 0) = false := beq_false_of_ne (by omega)
              have HNO2 := Lib.hid (show ∀ s, s < t + 1 → ¬ (nextK K (G.X.getD ((ofK K nk).getD s 0) [])).length = 0 from fun s hs => by
                by_cases e : s = t
                · rw [e, HV5.out, HLV.out, HNXQ.out]; exact hne
                · exact HNO.out s (by omega))
              have HBES := Lib.hid (show Bes W2.heap.size (w.heap.size + 1) wr V (3 + (subP G K nk t).X.length) (.slice A7 nx.length c7) nx from ⟨own_mono HO7.out HKP.out.size, fun s hs => apt_new (HU.out.fam.own s hs) (by
                  rcases ho : (Value.slice A7 nx.length c7).ownBlock with _ | b
                  · exact .inl rfl
                  · exact .inr ⟨b, rfl, (HO7.out.lt b ho).1⟩), fun e => by
                have := (HO7.out.lt _ e).1
                have := HKP.out.size
                omega⟩)
              clear hne
              generalize ho : G.O.getD v 0 = o at *
              generalize hp : G.P.getD v 0 = q at *
              clear ho hp
              go_wp2_with fail
              have HZ := Lib.hid HKY.out.size
              have hbl : w.heap.size + 1 < wr.heap.size := by have := HKY.out.size; omega
              have hwl : w.heap.size < wr.heap.size := by omega
              go_cut [49] from 49 to 105 (fun s13 wc => s13 = .int .i64 (t : Int) ∧ Hid (∃ V1, Bld W2.heap.size (w.heap.size + 1) wc V1 ⟨(subP G K nk t).O ++ [o], (subP G K nk t).P, (subP G K nk t).X⟩ ∧ Bes W2.heap.size (w.heap.size + 1) wc V1 (3 + (subP G K nk t).X.length) (.slice A7 nx.length c7) nx) ∧ Hid (Keep W2.heap.size (w.heap.size + 1) W2 wc))
              case first =>
                go_region_law (refine step_append_ints _ (by rfl) _ _ _ (by rfl) W2.heap.size 3 i0 _ Try.underlying22 hi hi0 hi1 hi2 rfl (V 0) (subP G K nk t).O.length ((subP G K nk t).O.map (Value.int .i64)) (by rfl) (by exact (HUY.out.own0.alloc _).drew) (some ⟨wr.heap.size, 0, none⟩) 1 1 [o] (by rfl) (by exact (int_new wr _ _).drew) (by have := HLX.out; omega) (al_le HZ.out _) ?_; intro v' w6 hown hgrow hat; obtain ⟨A', c', hve, _⟩ := own_slice hown; have hah := HUY.out.ahead HZ.out (al_below wr _) (below_own ((HUY.out.own0.alloc _).drew) hgrow (al_le HZ.out _)) (f := 0) (by omega) hgrow; have HP := Lib.hid (HUY.out.push0 (al_below wr _) (al_le HZ.out _) hown hgrow hat); have HBS := Lib.hid (HBES.out.push (i := 0) (f := 0) (by omega) (al_below wr _) hgrow hat); obtain ⟨⟨y0', y1', y2'⟩, ⟨z0', z1', z2'⟩, hB2, hz2⟩ := hah; have HB6 := Lib.hid hB2; clear hown hgrow hat hB2 hz2; rw [hve] at HP HBS ⊢)
                all_goals (go_wp2_with fail; go_meet)
                all_goals
                  case rel => exact ⟨rfl, ⟨_, HP.out, HBS.out⟩, HKY.out.step HB6.out (by omega) _⟩
              case rest =>
                obtain ⟨rfl, HVB1, HK1⟩ := hcut
                obtain ⟨V1, hbld1, hbes1⟩ := HVB1.out
                have HU1 := Lib.hid hbld1
                have HE1 := Lib.hid hbes1
                clear hbld1 hbes1 HVB1 y0 y1 y2 z0 z1 z2 hbl hwl
                obtain ⟨⟨q0, q1, q2⟩, kof, ko, kp, -, -⟩ := HRD.out _ HK1.out
                obtain ⟨⟨y0, y1, y2⟩, ⟨z0, z1, z2⟩⟩ := HU1.out.cells
                have HZ := Lib.hid HK1.out.size
                have hbl : w.heap.size + 1 < wc.heap.size := by have := HK1.out.size; omega
                have hwl : w.heap.size < wc.heap.size := by omega
                go_wp2_with fail
                go_cut [49] from 49 to 105 (fun s13 wd => s13 = .int .i64 (t : Int) ∧ Hid (∃ V2, Bld W2.heap.size (w.heap.size + 1) wd V2 ⟨(subP G K nk t).O ++ [o], (subP G K nk t).P ++ [q], (subP G K nk t).X⟩ ∧ Bes W2.heap.size (w.heap.size + 1) wd V2 (3 + (subP G K nk t).X.length) (.slice A7 nx.length c7) nx) ∧ Hid (Keep W2.heap.size (w.heap.size + 1) W2 wd))
                case first =>
                  go_region_law (refine step_append_ints _ (by rfl) _ _ _ (by rfl) W2.heap.size 3 i0 _ Try.underlying22 hi hi0 hi1 hi2 rfl (V1 1) (subP G K nk t).P.length ((subP G K nk t).P.map (Value.int .i64)) (by rfl) (by exact (HU1.out.own1.alloc _).drew) (some ⟨wc.heap.size, 0, none⟩) 1 1 [q] (by rfl) (by exact (int_new wc _ _).drew) (by have := HLX.out; omega) (al_le HZ.out _) ?_; intro v' w6 hown hgrow hat; obtain ⟨A', c', hve, _⟩ := own_slice hown; have hah := HU1.out.ahead HZ.out (al_below wc _) (below_own ((HU1.out.own1.alloc _).drew) hgrow (al_le HZ.out _)) (f := 1) (by omega) hgrow; have HP := Lib.hid (HU1.out.push1 (al_below wc _) (al_le HZ.out _) hown hgrow hat); have HBS := Lib.hid (HE1.out.push (i := 1) (f := 1) (by omega) (al_below wc _) hgrow hat); obtain ⟨⟨y0', y1', y2'⟩, ⟨z0', z1', z2'⟩, hB2, hz2⟩ := hah; have HB6 := Lib.hid hB2; clear hown hgrow hat hB2 hz2; rw [hve] at HP HBS ⊢)
                  all_goals (go_wp2_with fail; go_meet)
                  all_goals
                    case rel => exact ⟨rfl, ⟨_, HP.out, HBS.out⟩, HK1.out.step HB6.out (by omega) _⟩
                case rest =>
                  obtain ⟨rfl, HVB2, HK2⟩ := hcut
                  obtain ⟨V2, hbld2, hbes2⟩ := HVB2.out
                  have HU2 := Lib.hid hbld2
                  have HE2 := Lib.hid hbes2
                  clear hbld2 hbes2 HVB2 y0 y1 y2 z0 z1 z2 hbl hwl
                  obtain ⟨⟨q0, q1, q2⟩, kof, ko, kp, -, -⟩ := HRD.out _ HK2.out
                  obtain ⟨⟨y0, y1, y2⟩, ⟨z0, z1, z2⟩⟩ := HU2.out.cells
                  have HZ := Lib.hid HK2.out.size
                  have hbl : w.heap.size + 1 < wc.heap.size := by have := HK2.out.size; omega
                  have hwl : w.heap.size < wc.heap.size := by omega
                  go_wp2_with (refine wpList_append_vals _ (by rfl) _ _ _ (by rfl) W2.heap.size 22 24 i3 _ Try.underlying23 hir hir0 hir1 hir2 (by decide) rfl (V2 2) (subP G K nk t).X.length ((List.range (subP G K nk t).X.length).map (fun j => V2 (3 + j))) (by rfl) (by exact HU2.out.own2.alloc _) ⟨wc.heap.size, 0, none⟩ 1 1 [.slice A7 nx.length c7] (by rfl) rfl (by exact val_new wc _ _) (by simp [Value.oneCell']) (by have := HLX.out; omega) (by rw [World.size_alloc]; have := HZ.out; omega) ?_
                               intro v4 w7 hown hgrow hat
                               obtain ⟨A4, c4, rfl, hb4, y2'', z2'', hbl4, hz4⟩ := HU2.out.take HZ.out HE2.out hown hgrow hat
                               have HP := Lib.hid hbl4
                               have HB7 := Lib.hid hb4
                               clear hown hgrow hat hb4 hbl4 hz4)
                  go_roundg g2
                  case measure => omega
                  case rel =>
                    have h := HP.out
                    rw [← HNX.out] at h
                    exact ⟨t + 1, by omega, by go_num, rfl, h, HK2.out.step HB7.out (by omega) _, HNO2.out⟩
            | succ g3 =>
              have hrl : r < ll := by omega
              have hrl2 : (r : Int) < (ll : Int) := by omega
              obtain ⟨b9, o9, rfl, _, hc9⟩ := HIY.out.2 (by omega)
              have hcr := hc9 r hrl
              clear hc9
              have hsx := (succB_true HSX.out).2.2 r (by rw [HLL.out]; exact hrl)
              have HYY := Lib.hid (nextK_yes (K := K) (l := l) (r := r) (by rw [HLL.out]; exact hrl))
              have HYN := Lib.hid (nextK_no (K := K) (l := l) (r := r) (by rw [HLL.out]; exact hrl))
              have hnl := nextK_len K (l.take r)
              have hnl2 : (l.take r).length ≤ 64 := by rw [List.length_take, HLL.out]; omega
              rw [HGX.out] at hsx
              obtain ⟨u, hu⟩ : ∃ u : Nat, l.getD r 0 = (u : Int) := ⟨(l.getD r 0).toNat, by omega⟩
              rw [hu] at hcr hsx HYY HYN
              rw [Int.toNat_natCast] at HYY HYN
              have hun : u < nk := by omega
              have hu0 : (0 : Int) ≤ (u : Int) := by omega
              have hu1 : (u : Int) < (nk : Int) := by omega
              obtain ⟨kku, knu⟩ := HRK.out _ HKY.out u hun
              clear hu hsx
              generalize hnx : nextK K (l.take r) = nx at *
              have hnx0 : (0 : Int) ≤ (nx.length : Int) := by omega
              cases hku : K u
              · rw [hku] at kku knu
                have HE := Lib.hid (HYN.out hku)
                go_wp2_with fail
                go_roundg g3
                case measure => omega
                case rel => exact ⟨r + 1, by omega, by go_num, ⟨A7, c7, by rw [HE.out], by rw [HE.out]; exact HO7.out⟩, HBY.out⟩
              · rw [hku, if_pos rfl] at knu
                rw [hku] at kku
                have HE := Lib.hid (HYY.out hku)
                generalize numK K u = nu at *
                go_wp2_with (refine wpList_append_ints _ (by rfl) _ _ _ (by rfl) W3.heap.size 3 i0 _ Try.underlying22 hi hi0 hi1 hi2 rfl (.slice A7 nx.length c7) nx.length (nx.map (Value.int .i64)) (by rfl) (by exact HO7.out.alloc _) (some ⟨wr.heap.size, 0, none⟩) 1 1 [(nu : Int)] (by rfl) (int_new' _ rfl _ _) (by omega) (by rw [World.size_alloc]; exact Nat.le_trans HBY.out.size (Nat.le_succ _)) ?_; intro v' w5 hown hgrow hat; obtain ⟨A8, c8, rfl, _⟩ := own_slice hown; have hbel := below_own (HO7.out.alloc _) hgrow (by rw [World.size_alloc]; exact Nat.le_trans HBY.out.size (Nat.le_succ _)); have HBEL := Lib.hid hbel; have HOWN := Lib.hid hown; clear hown hgrow hat hbel)
                go_roundg g3
                case measure => omega
                case rel =>
                  refine ⟨r + 1, by omega, by go_num, ⟨A8, c8, by rw [HE.out, List.length_append]; rfl, ?_⟩, (HBY.out.alloc HBY.out.size _).trans HBEL.out⟩
                  rw [HE.out, List.length_append, List.map_append]
                  exact HOWN.out
    | succ g =>
      have hjl : j < nk := by omega
      have hjl2 : (j : Int) < (nk : Int) := by omega
      obtain ⟨bk, ok, rfl, hbk, hck⟩ := HK0.out (by omega)
      have kk := ((HB1.out.trans (HBX.out.mono HB1.out.size)).cell (p := ⟨bk, ok + j, none⟩) hbk).trans (hck j hjl)
      clear hck
      have HKY := Lib.hid (fun (h : K j = true) => ofK_yes h)
      have HKN := Lib.hid (fun (h : K j = false) => ofK_no h)
      have hnj := numK_le K j
      have hnum0 : (0 : Int) ≤ (numK K j : Int) := by omega
      cases hkj : K j
      · rw [hkj] at kk
        have HE := Lib.hid (HKN.out hkj)
        have HK2 := Lib.hid hkj
        clear hkj
        have HNE := Lib.hid (show numK K (j + 1) = numK K j by unfold numK; rw [HE.out])
        go_wp2_with fail
        go_roundg g
        case measure => omega
        case rel =>
          refine ⟨j + 1, by omega, by go_num, ⟨A5, c5, by rw [HNE.out], ?_⟩, HRN.out.congr (fun i _ => ?_), HBX.out, HZX.out⟩
          · rw [HNE.out, HE.out]; exact HO5.out
          · by_cases e1 : i < j
            · rw [if_pos e1, if_pos (show i < j + 1 by omega)]
            · rw [if_neg e1]
              by_cases e2 : i < j + 1
              · rw [if_pos e2]
                obtain rfl : i = j := by omega
                rw [HK2.out]
                rfl
              · rw [if_neg e2]
      · rw [hkj] at kk
        have HE := Lib.hid (HKY.out hkj)
        have HK2 := Lib.hid hkj
        clear hkj
        have HNE := Lib.hid (show numK K (j + 1) = numK K j + 1 by unfold numK; rw [HE.out]; simp)
        have kn := HRN.out.cell hjl
        have fn := HRN.out.frozen j
        have hbnl : bn < wr.heap.size := HZX.out
        have HOP := Lib.hid (fun u => own_put HO5.out (a := ⟨bn, j, none⟩) (by show bn < bn + 1; omega) u)
        have HRS := Lib.hid (fun u => HRN.out.set j u)
        generalize hnq : numK K j = nq at *
        go_wp2_with (refine wpList_append_ints _ (by rfl) _ _ _ (by rfl) (bn + 1) 3 i0 _ Try.underlying22 hi hi0 hi1 hi2 rfl (.slice A5 nq c5) nq ((castL (ofK K j)).map (Value.int .i64)) (by rfl) (by exact (HOP.out _).alloc _) (some ⟨wr.heap.size, 0, none⟩) 1 1 [(j : Int)] (by rfl) (int_new' _ (size_set _ _ _) _ _) (by omega) (by rw [World.size_alloc, size_set]; omega) ?_; intro v' w2 hown hgrow hat; obtain ⟨A6, c6, rfl, _⟩ := own_slice hown; have hbel := below_own ((HOP.out _).alloc _) hgrow (by rw [World.size_alloc, size_set]; omega); have HBEL := Lib.hid hbel; have HOWN := Lib.hid hown; clear hown hgrow hat hbel)
        go_roundg g
        case measure => omega
        case rel =>
          refine ⟨j + 1, by omega, by go_num, ⟨A6, c6, by rw [HNE.out], ?_⟩, (((HRS.out _).alloc _).of_block (HBEL.out.block _ (by omega))).congr (fun i _ => ?_), ((HBX.out.setCell (by show w1.heap.size ≤ bn; have := HBN.out; omega) _).alloc (by rw [size_set]; have := HBN.out; omega) _).trans (HBEL.out.mono (by have := HBN.out; omega)), ?_⟩
          · rw [HNE.out, HE.out, castL_app, List.map_append]; exact HOWN.out
          · by_cases e1 : i = j
            · rw [if_pos e1, e1, if_pos (show j < j + 1 by omega), HK2.out]
              rw [← hnq]
              rfl
            · rw [if_neg e1]
              by_cases e2 : i < j
              · rw [if_pos e2, if_pos (show i < j + 1 by omega)]
              · rw [if_neg e2, if_neg (show ¬ i < j + 1 by omega)]
          · have := HBEL.out.size
            rw [World.size_alloc, size_set] at this
            show bn + 1 ≤ w2.heap.size
            omega

end Go.Proofs.Ytffdbncjndnnaaa.Wd
