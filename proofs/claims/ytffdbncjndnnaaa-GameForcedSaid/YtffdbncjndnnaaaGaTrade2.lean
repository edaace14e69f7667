/-
  Trade of package game, walked.
-/
import Derived.Test.YtffdbncjndnnaaaGaTrade
namespace Go.Proofs.Ytffdbncjndnnaaa.Wd
open Go.RowKit
set_option linter.unusedVariables false
set_option linter.unusedSimpArgs false

set_option maxRecDepth 100000 in
set_option maxHeartbeats 8000000 in
theorem gtrade_any (a p x A : Option Addr) (n c m d k e na ca : Nat) (G : Gm) (ch : List Int) (q : Int) (w : World) (h : GameIn w a n p m x k G) (hA : Ints w A na ch) (hk : k ≤ 17592186044416) (hna : na ≤ 17592186044416) (hl : ∀ v, (G.X.getD v []).length ≤ 17592186044416) :
    Calls Try.prog 21 #[.agg #[.slice a n c, .slice p m d, .slice x k e], .slice A na ca, .int .i64 q] w fun r w' => OutG w w' (tradeG G ch q) (tradeC G ch q) r := by
  have HV := Lib.hid (valid_any a p x n c m d k e G (two w #[.slice a n c, .slice p m d, .slice x k e]) (h.below (two_below w _)) hk hl)
  obtain ⟨vb, hvb, HVB⟩ : ∃ vb, gmB G = vb ∧ Hid (gmB G = vb) := ⟨_, rfl, rfl⟩
  rw [hvb] at HV
  clear hvb
  have H0 := Lib.hid h
  have HA := Lib.hid hA
  have HPL := Lib.hid (fun W => player_any q W)
  have hna0 : (0 : Int) ≤ (na : Int) := by omega
  clear h hl hA
  unfold two at HV
  cases vb
  · have HD := Lib.hid (trade_bad (ch := ch) (p := q) HVB.out)
    go_enter Try.func21, Try.ntmps21
    go_wp2_with fail
    refine HV.out.mono ?_
    rintro r w1 ⟨rfl, hb1⟩
    have hb1' : Below (two w #[.slice a n c, .slice p m d, .slice x k e]).heap.size (two w #[.slice a n c, .slice p m d, .slice x k e]) w1 := hb1
    have HB1 := Lib.hid (two_trans hb1')
    obtain ⟨⟨q0, q1, q2⟩, ⟨r0, r1, r2⟩, ⟨f0, f1, f2⟩, hz⟩ := two_read hb1'
    clear hb1 hb1'
    go_wp2_with fail
    obtain ⟨x0, x1, x2⟩ := cells3g r0 r1 r2 (.slice none 0 0) (.slice none 0 0) (.slice none 0 0)
    refine bodyPost_ret (v := .tuple #[.agg #[.slice none 0 0, .slice none 0 0, .slice none 0 0], .int .i64 1]) (by simp [results, Try.results21, go_sem, x0, x1, x2]) rfl ?_
    rw [HD.out.1, HD.out.2]
    exact ⟨_, rfl, GameAt.zero _, three_below HB1.out _ _ _⟩
  obtain ⟨pb, hpb, HPB⟩ : ∃ pb, plB q = pb ∧ Hid (plB q = pb) := ⟨_, rfl, rfl⟩
  rw [hpb] at HPL
  clear hpb
  cases pb
  · have HD := Lib.hid (trade_pl (ch := ch) HVB.out HPB.out)
    go_enter Try.func21, Try.ntmps21
    go_wp2_with fail
    refine HV.out.mono ?_
    rintro r w1 ⟨rfl, hb1⟩
    have hb1' : Below (two w #[.slice a n c, .slice p m d, .slice x k e]).heap.size (two w #[.slice a n c, .slice p m d, .slice x k e]) w1 := hb1
    have HB1 := Lib.hid (two_trans hb1')
    obtain ⟨⟨q0, q1, q2⟩, ⟨r0, r1, r2⟩, ⟨f0, f1, f2⟩, hz⟩ := two_read hb1'
    clear hb1 hb1'
    go_wp2_with fail
    refine (HPL.out _).mono ?_
    rintro r2 w2 ⟨rfl, rfl⟩
    go_wp2_with fail
    obtain ⟨x0, x1, x2⟩ := cells3g r0 r1 r2 (.slice none 0 0) (.slice none 0 0) (.slice none 0 0)
    refine bodyPost_ret (v := .tuple #[.agg #[.slice none 0 0, .slice none 0 0, .slice none 0 0], .int .i64 6]) (by simp [results, Try.results21, go_sem, x0, x1, x2]) rfl ?_
    rw [HD.out.1, HD.out.2]
    exact ⟨_, rfl, GameAt.zero _, three_below HB1.out _ _ _⟩
  obtain ⟨hg1, hg2, hg3, hg4⟩ := gmB_true HVB.out
  have hxl := H0.out.x.1
  have hol := H0.out.o.1
  have hpl := H0.out.p.1
  have hal := HA.out.1
  obtain rfl : n = k := by omega
  obtain rfl : m = n := by omega
  have hk0 : (0 : Int) ≤ (m : Int) := by omega
  by_cases hd : ¬ na = m
  · have HD := Lib.hid (trade_dim (ch := ch) HVB.out HPB.out (by omega))
    have hd' : ((na : Int) != (m : Int)) = true := by simp; omega
    clear hg4
    go_enter Try.func21, Try.ntmps21
    go_wp2_with fail
    refine HV.out.mono ?_
    rintro r w1 ⟨rfl, hb1⟩
    have hb1' : Below (two w #[.slice a m c, .slice p m d, .slice x m e]).heap.size (two w #[.slice a m c, .slice p m d, .slice x m e]) w1 := hb1
    have HB1 := Lib.hid (two_trans hb1')
    obtain ⟨⟨q0, q1, q2⟩, ⟨r0, r1, r2⟩, ⟨f0, f1, f2⟩, hz⟩ := two_read hb1'
    clear hb1 hb1'
    go_wp2_with fail
    refine (HPL.out _).mono ?_
    rintro r2 w2 ⟨rfl, rfl⟩
    go_wp2_with fail
    obtain ⟨x0, x1, x2⟩ := cells3g r0 r1 r2 (.slice none 0 0) (.slice none 0 0) (.slice none 0 0)
    refine bodyPost_ret (v := .tuple #[.agg #[.slice none 0 0, .slice none 0 0, .slice none 0 0], .int .i64 2]) (by simp [results, Try.results21, go_sem, x0, x1, x2]) rfl ?_
    rw [HD.out.1, HD.out.2]
    exact ⟨_, rfl, GameAt.zero _, three_below HB1.out _ _ _⟩
  obtain rfl : na = m := by omega
  have hd' : ((na : Int) != (na : Int)) = false := by simp
  have HLENS := Lib.hid (show G.O.length = na ∧ G.P.length = na ∧ G.X.length = na from ⟨hol, hpl, hxl⟩)
  have HSB := Lib.hid (fun h => trade_no (ch := ch) HVB.out HPB.out (by omega) h)
  have HSG := Lib.hid (fun h => trade_good (ch := ch) HVB.out HPB.out (by omega) h)
  have HLEN := Lib.hid (fun v => gmB_len HVB.out v)
  have hnn : na ≤ 20000 := by omega
  clear hg4 hg1 hg2 hg3 hol hpl hxl hal
  go_enter Try.func21, Try.ntmps21
  go_wp2_with fail
  refine HV.out.mono ?_
  rintro r w1 ⟨rfl, hb1⟩
  have hb1' : Below (two w #[.slice a na c, .slice p na d, .slice x na e]).heap.size (two w #[.slice a na c, .slice p na d, .slice x na e]) w1 := hb1
  have HB1 := Lib.hid (two_trans hb1')
  obtain ⟨⟨q0, q1, q2⟩, ⟨r0, r1, r2⟩, ⟨f0, f1, f2⟩, hz⟩ := two_read hb1'
  have HTR := Lib.hid (fun W (hW : Below w1.heap.size w1 W) => two_read (hb1'.trans (hW.mono hb1'.size)))
  have HCP := Lib.hid (copied_game a p x na c d e G w1 (H0.out.below HB1.out) hnn (fun v => by have := HLEN.out v; omega))
  clear hb1 hb1'
  go_wp2_with fail
  refine (HPL.out _).mono ?_
  rintro r2 w2 ⟨rfl, rfl⟩
  go_wp2_with fail
  refine HCP.out.mono ?_
  rintro r w3 ⟨b1, b2, b3, rfl, hcop, hb3⟩
  have HS := Lib.hid (hcop.trs (ch := ch) (q := q) hb3)
  clear hcop hb3
  go_wp2_with fail
  generalize w3.heap.size = bd at *
  go_loopg [30] na (fun g i wx => ∃ j : Nat, j + g = na ∧ i = .int .i64 j ∧ Hid (TrS w1.heap.size na j G ch q w1 wx b1 b2 b3 bd) ∧ Hid (∀ i, i < j → okT G ch q i = true))
  case atStart => exact ⟨0, by omega, rfl, HS.out, fun i hi => by omega⟩
  case round =>
    obtain ⟨j, hjg, rfl, HX, HOK⟩ := hrel
    have hj0 : (0 : Int) ≤ (j : Int) := by omega
    have g0 : wr.cell? ⟨bd, 0, none⟩ = some (.slice (some ⟨b1, 0, none⟩) na na) := cell_of_heap HX.out.box 0
    have g1 : wr.cell? ⟨bd, 1, none⟩ = some (.slice (some ⟨b2, 0, none⟩) na na) := cell_of_heap HX.out.box 1
    have g2 : wr.cell? ⟨bd, 2, none⟩ = some (.slice (some ⟨b3, 0, none⟩) na na) := cell_of_heap HX.out.box 2
    obtain ⟨⟨p0, p1, p2⟩, ⟨s0, s1, s2⟩, ⟨e0, e1, e2⟩, hzr⟩ := HTR.out _ HX.out.below
    clear q0 q1 q2 r0 r1 r2 f0 f1 f2
    cases gk with
    | zero =>
      obtain rfl : na = j := by omega
      have HD := Lib.hid (HSG.out (allB_good (by rw [HLENS.out.2.2]; exact HOK.out)))
      go_wp2_with fail
      obtain ⟨x0, x1, x2⟩ := cells3g s0 s1 s2 (.slice (some ⟨b1, 0, none⟩) na na) (.slice (some ⟨b2, 0, none⟩) na na) (.slice (some ⟨b3, 0, none⟩) na na)
      refine bodyPost_ret (v := .tuple #[.agg #[.slice (some ⟨b1, 0, none⟩) na na, .slice (some ⟨b2, 0, none⟩) na na, .slice (some ⟨b3, 0, none⟩) na na], .int .i64 0]) (by simp [results, Try.results21, go_sem, x0, x1, x2]) rfl ?_
      rw [HD.out.1, HD.out.2]
      refine ⟨_, rfl, ?_, three_below (HB1.out.trans (HX.out.below.mono HB1.out.size)) _ _ _⟩
      exact HX.out.game HLENS.out.1 HLENS.out.2.1 HLENS.out.2.2 (fun k hk => by rw [set_far _ _ _ (by show k ≠ w.heap.size + 1; omega), set_far _ _ _ (by show k ≠ w.heap.size + 1; omega), set_far _ _ _ (by show k ≠ w.heap.size + 1; omega)])
    | succ g =>
      have hjl : j < na := by omega
      have hjl2 : (j : Int) < (na : Int) := by omega
      have HWR := Lib.hid (HB1.out.trans (HX.out.below.mono HB1.out.size))
      obtain ⟨bo, oo, rfl, hbo, hco⟩ := (H0.out.below HWR.out).o.2 (by omega)
      obtain ⟨bx, ox, rfl, hbx, hcx⟩ := (H0.out.below HWR.out).x.2 (by omega)
      obtain ⟨bc, oc, rfl, hbc, hcc⟩ := (HA.out.below HWR.out).2 (by omega)
      have ko := hco j hjl
      have kc := hcc j hjl
      obtain ⟨bl, cl, kl, il⟩ := hcx j hjl
      have hlen := HLEN.out j
      have HCO := Lib.hid (contains_any bl (G.X.getD j []).length cl (G.X.getD j []) (ch.getD j 0) wr il (by omega))
      have HCB := Lib.hid (show chB G ch q j = (decide (G.O.getD j 0 = q) && !decide (ch.getD j 0 = -1)) from rfl)
      have HOT := Lib.hid (show okT G ch q j = (!chB G ch q j || hasB (G.X.getD j []) (ch.getD j 0)) from rfl)
      have HSK := Lib.hid (fun h => HX.out.skip h)
      have HNX := Lib.hid (fun h (u : Int) (hu : u = ch.getD j 0) => HX.out.next h hu)
      have HBD := Lib.hid (fun (h : okT G ch q j = false) => HSB.out (allB_bad (by rw [HLENS.out.2.2]; exact hjl) h))
      have HQK := Lib.hid (fun (e : okT G ch q j = true) => show ∀ i, i < j + 1 → okT G ch q i = true from fun i hi => by
        by_cases hij : i = j
        · rw [hij]; exact e
        · exact HOK.out i (by omega))
      have hb3l := HX.out.x
      clear hco hcx hcc il
      obtain ⟨V, hvr, _⟩ := hb3l
      have k3 := hvr.cell hjl
      have z3 := hvr.frozen j
      have hb3lt := hvr.lt
      have hbdlt : bd < wr.heap.size := lt_of_heap HX.out.box
      have hne : bd ≠ b3 := HX.out.ne.2.2.2
      clear hvr
      generalize chB G ch q j = cb at *
      generalize okT G ch q j = ob at *
      generalize hasB (G.X.getD j []) (ch.getD j 0) = hb at *
      generalize G.O.getD j 0 = o at *
      generalize ch.getD j 0 = u at *
      generalize (G.X.getD j []).length = ll at *
      generalize V j = vj at *
      by_cases h1 : o = q
      · subst h1
        have h1' : (o != o) = false := by simp
        by_cases h2 : u = -1
        · subst h2
          have hcb : cb = false := by rw [HCB.out]; simp
          have HN := Lib.hid (HQK.out (by rw [HOT.out, hcb]; rfl))
          have HS2 := Lib.hid (HSK.out hcb)
          clear hcb
          go_wp2_with fail
          go_roundg g
          case measure => omega
          case rel => exact ⟨j + 1, by omega, by go_num, HS2.out, HN.out⟩
        · have h2' : (u == -1) = false := by simpa using h2
          have hcb : cb = true := by rw [HCB.out, decide_eq_true rfl, decide_eq_false h2]; rfl
          have HOB := Lib.hid (show ob = hb by rw [HOT.out, hcb]; rfl)
          have HN2 := Lib.hid (HNX.out hcb u rfl)
          clear hcb
          cases hb
          · have HD := Lib.hid (HBD.out HOB.out)
            go_wp2_with fail
            refine HCO.out.mono ?_
            rintro r5 w5 ⟨rfl, rfl⟩
            go_wp2_with fail
            obtain ⟨x0, x1, x2⟩ := cells3g s0 s1 s2 (.slice none 0 0) (.slice none 0 0) (.slice none 0 0)
            refine bodyPost_ret (v := .tuple #[.agg #[.slice none 0 0, .slice none 0 0, .slice none 0 0], .int .i64 6]) (by simp [results, Try.results21, go_sem, x0, x1, x2]) rfl ?_
            rw [HD.out.1, HD.out.2]
            exact ⟨_, rfl, GameAt.zero _, three_below HWR.out _ _ _⟩
          · have HN := Lib.hid (HQK.out HOB.out)
            go_wp2_with fail
            refine HCO.out.mono ?_
            rintro r5 w5 ⟨rfl, rfl⟩
            go_wp2_with fail
            go_roundg g
            case measure => omega
            case rel => exact ⟨j + 1, by omega, by go_num, HN2.out, HN.out⟩
      · have h1' : (o != q) = true := by simpa using h1
        have hcb : cb = false := by rw [HCB.out, decide_eq_false h1]; rfl
        have HN := Lib.hid (HQK.out (by rw [HOT.out, hcb]; rfl))
        have HS2 := Lib.hid (HSK.out hcb)
        clear hcb
        go_wp2_with fail
        go_roundg g
        case measure => omega
        case rel => exact ⟨j + 1, by omega, by go_num, HS2.out, HN.out⟩

end Go.Proofs.Ytffdbncjndnnaaa.Wd
