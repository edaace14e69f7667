/-
  Dual of the reference of package game.
-/
import Derived.Test.YtffdbncjndnnaaaGaFam
import Derived.Test.YtffdbncjndnnaaaGaRefValid
import Derived.Test.YtffdbncjndnnaaaWdAppend
import Derived.Deep.RegionLaw
import Derived.Deep.RegionWith
namespace Go.Proofs.Ytffdbncjndnnaaa.Wd
open Go.RowKit
set_option linter.unusedVariables false
set_option linter.unusedSimpArgs false

theorem g_info_parts {e : TypeId} {z : Value} {s b : Nat} (h : (Try.prog.info? e).map (fun i => (i.zero, i.size, i.bytes)) = some (some z, s, b)) : ∃ i, Try.prog.info? e = some i ∧ i.zero = some z ∧ i.size = s ∧ i.bytes = b := by
  obtain ⟨i, hi, hz⟩ := Option.map_eq_some_iff.1 h
  simp only [Prod.mk.injEq] at hz
  exact ⟨i, hi, hz.1, hz.2.1, hz.2.2⟩

theorem int_new (w : World) (x : Int) (t : TypeId) : Ints (w.alloc (.cells #[.int .i64 x] t)) (some ⟨w.heap.size, 0, none⟩) 1 [x] :=
  Ints.of_heap (xs := [x]) (t := t) (by rw [al_at, if_pos rfl]; rfl)
/-- The first j positions, turned. -/
def dualP (G : Gm) (j : Nat) : Gm := ⟨(G.O.take j).map fun x => 1 - x, (G.P.take j).map fun x => x + 1, G.X.take j⟩

theorem g_wrap {x : Int} (h1 : -9223372036854775808 ≤ x) (h2 : x < 9223372036854775808) : IntKind.i64.wrap x = x := by
  rw [IntKind.wrap_i64]
  omega
theorem take_next {α : Type} (l : List α) (d : α) {j : Nat} (h : j < l.length) : l.take (j + 1) = l.take j ++ [l.getD j d] := by
  rw [List.take_succ_eq_append_getElem h]
  simp [List.getD_eq_getElem?_getD, List.getElem?_eq_getElem h]
theorem dualP_next {G : Gm} {j : Nat} (h1 : j < G.O.length) (h2 : j < G.P.length) (h3 : j < G.X.length) :
    dualP G (j + 1) = ⟨(dualP G j).O ++ [1 - G.O.getD j 0], (dualP G j).P ++ [G.P.getD j 0 + 1], (dualP G j).X ++ [G.X.getD j []]⟩ := by
  unfold dualP
  rw [take_next G.O 0 h1, take_next G.P 0 h2, take_next G.X [] h3, List.map_append, List.map_append]
  rfl

set_option maxRecDepth 100000 in
set_option maxHeartbeats 4000000 in
theorem grefDual_any (a p x : Option Addr) (n c m d k e : Nat) (G : Gm) (w : World) (h : GameIn w a n p m x k G) (hn : n ≤ 17592186044416) (hk : k ≤ 17592186044416) (hl : ∀ v, (G.X.getD v []).length ≤ 17592186044416) :
    Calls Try.prog 18 #[.agg #[.slice a n c, .slice p m d, .slice x k e]] w fun r w' => OutG w w' (dualG G) (dualC G) r := by
  have HV := Lib.hid (refValidG_any a p x n c m d k e G (two w #[.slice a n c, .slice p m d, .slice x k e]) (h.below (two_below w _)) hn hk hl)
  obtain ⟨vb, hvb, HVB⟩ : ∃ vb, gmB G = vb ∧ Hid (gmB G = vb) := ⟨_, rfl, rfl⟩
  rw [hvb] at HV
  clear hvb
  have H0 := Lib.hid h
  have HLEN := Lib.hid hl
  clear h hl
  unfold two at HV
  cases vb
  · have HD := Lib.hid (dualG_bad HVB.out)
    go_enter Try.func18, Try.ntmps18
    go_wp2_with fail
    refine HV.out.mono ?_
    rintro r w1 ⟨rfl, hb1⟩
    have hb1' : Below (two w #[.slice a n c, .slice p m d, .slice x k e]).heap.size (two w #[.slice a n c, .slice p m d, .slice x k e]) w1 := hb1
    have HB1 := Lib.hid (two_trans hb1')
    obtain ⟨⟨q0, q1, q2⟩, ⟨r0, r1, r2⟩, ⟨f0, f1, f2⟩, hz⟩ := two_read hb1'
    clear hb1 hb1'
    go_wp2_with fail
    obtain ⟨x0, x1, x2⟩ := cells3g r0 r1 r2 (.slice none 0 0) (.slice none 0 0) (.slice none 0 0)
    refine bodyPost_ret (v := .tuple #[.agg #[.slice none 0 0, .slice none 0 0, .slice none 0 0], .int .i64 1]) (by simp [results, Try.results18, go_sem, x0, x1, x2]) rfl ?_
    rw [HD.out.1, HD.out.2]
    exact ⟨_, rfl, GameAt.zero _, three_below HB1.out _ _ _⟩
  obtain ⟨hg1, hg2, hg3, hg4⟩ := gmB_true HVB.out
  have hxl := H0.out.x.1
  have hol := H0.out.o.1
  have hpl := H0.out.p.1
  obtain rfl : n = k := by omega
  obtain rfl : m = n := by omega
  have hk0 : (0 : Int) ≤ (m : Int) := by omega
  have HPOS := Lib.hid hg4
  have HLENS := Lib.hid (show G.O.length = m ∧ G.P.length = m ∧ G.X.length = m from ⟨hol, hpl, hxl⟩)
  clear hg4
  go_enter Try.func18, Try.ntmps18
  go_wp2_with fail
  refine HV.out.mono ?_
  rintro r w1 ⟨rfl, hb1⟩
  have hb1' : Below (two w #[.slice a m c, .slice p m d, .slice x m e]).heap.size (two w #[.slice a m c, .slice p m d, .slice x m e]) w1 := hb1
  have HB1 := Lib.hid (two_trans hb1')
  obtain ⟨⟨q0, q1, q2⟩, ⟨r0, r1, r2⟩, ⟨f0, f1, f2⟩, hz⟩ := two_read hb1'
  clear hb1 hb1'
  have hz' : w.heap.size < w1.heap.size := by omega
  go_wp2_with fail
  have HQ := Lib.hid (show ∀ W, Below w1.heap.size w1 W → _ from fun W hW => (And.intro ((hW.cell (p := ⟨w.heap.size, 0, none⟩) (by show w.heap.size < _; omega)).trans q0) (And.intro ((hW.cell (p := ⟨w.heap.size, 1, none⟩) (by show w.heap.size < _; omega)).trans q1) ((hW.cell (p := ⟨w.heap.size, 2, none⟩) (by show w.heap.size < _; omega)).trans q2))))
  obtain ⟨i0, hi, hi0, hi1, hi2⟩ := g_info_parts g_ints_info
  obtain ⟨i3, hir, hir0, hir1, hir2⟩ := g_info_parts g_rows_info
  obtain ⟨bd, hbd⟩ : ∃ bd, w1.heap.size = bd := ⟨_, rfl⟩
  obtain ⟨W1, hW1⟩ : ∃ W1, w1.alloc (.cells #[.slice none 0 0, .slice none 0 0, .slice none 0 0] 25) = W1 := ⟨_, rfl⟩
  have HBL := Lib.hid (show Bld (bd + 1) bd W1 (fun _ => .slice none 0 0) gm0 from ⟨⟨fun s hs => by
      have hl : gL (fun _ => .slice none 0 0) gm0 s = [] := by
        unfold gL gm0
        split
        · rfl
        · split
          · rfl
          · split
            · rfl
            · rfl
      rw [hl]
      exact World.ownsRow_nil _ _ _ _, fun _ _ _ _ _ => .inl rfl⟩, ⟨_, by rw [← hW1, ← hbd, al_at, if_pos rfl], rfl, rfl, rfl⟩, fun s _ e => by cases e⟩)
  have HBW := Lib.hid (show Below w1.heap.size w1 W1 from by rw [← hW1]; exact (Below.refl _ _).alloc (Nat.le_refl _) _)
  have HSZ := Lib.hid (show bd + 1 ≤ W1.heap.size from by rw [← hW1, ← hbd]; simp)
  have HBD := Lib.hid hbd
  rw [hW1, hbd]
  clear hW1 hbd
  go_loopg [13] m (fun g i wx => ∃ j : Nat, j + g = m ∧ i = .int .i64 j ∧ Hid (∃ V, Bld (bd + 1) bd wx V (dualP G j)) ∧ Hid (Below w1.heap.size w1 wx) ∧ Hid (bd + 1 ≤ wx.heap.size) ∧ Hid (∀ i, i < j → ¬ G.P.getD i 0 = 60))
  case atStart =>
    refine ⟨0, by omega, rfl, ⟨fun _ => .slice none 0 0, ?_⟩, HBW.out, HSZ.out, fun i hi => by omega⟩
    have e : dualP G 0 = gm0 := by simp [dualP, gm0]
    rw [e]
    exact HBL.out
  case round =>
    obtain ⟨j, hjg, rfl, HV1, HBX, HZX, HNO⟩ := hrel
    obtain ⟨V, hbld⟩ := HV1.out
    have HX := Lib.hid hbld
    clear hbld HV1
    have hj0 : (0 : Int) ≤ (j : Int) := by omega
    obtain ⟨q0, q1, q2⟩ := HQ.out _ HBX.out
    cases gk with
    | zero =>
      obtain rfl : m = j := by omega
      have HD := Lib.hid (dualG_good HVB.out (hasB_none (xs := G.P) (v := 60) (by rw [hpl]; exact HNO.out)))
      obtain ⟨⟨y0, y1, y2⟩, -⟩ := HX.out.cells
      obtain ⟨A0, cc0, v0, _⟩ := own_slice HX.out.own0
      obtain ⟨A1, cc1, v1, _⟩ := own_slice HX.out.own1
      obtain ⟨A2, cc2, v2, _⟩ := own_slice HX.out.own2
      rw [v0] at y0
      rw [v1] at y1
      rw [v2] at y2
      have HV0 := Lib.hid v0
      have HV1 := Lib.hid v1
      have HV2 := Lib.hid v2
      clear v0 v1 v2
      generalize (dualP G m).O.length = d0 at *
      generalize (dualP G m).P.length = d1 at *
      generalize (dualP G m).X.length = d2 at *
      have s0 := (HBX.out.cell (p := ⟨w.heap.size + 1, 0, none⟩) hz).trans r0
      have s1 := (HBX.out.cell (p := ⟨w.heap.size + 1, 1, none⟩) hz).trans r1
      have s2 := (HBX.out.cell (p := ⟨w.heap.size + 1, 2, none⟩) hz).trans r2
      have e0 := (HBX.out.frozen (p := ⟨w.heap.size + 1, 0, none⟩) hz).trans f0
      have e1 := (HBX.out.frozen (p := ⟨w.heap.size + 1, 1, none⟩) hz).trans f1
      have e2 := (HBX.out.frozen (p := ⟨w.heap.size + 1, 2, none⟩) hz).trans f2
      clear r0 r1 r2 f0 f1 f2
      go_wp2_with fail
      obtain ⟨x0, x1, x2⟩ := cells3g s0 s1 s2 (.slice A0 d0 cc0) (.slice A1 d1 cc1) (.slice A2 d2 cc2)
      refine bodyPost_ret (v := .tuple #[.agg #[.slice A0 d0 cc0, .slice A1 d1 cc1, .slice A2 d2 cc2], .int .i64 0]) (by simp [results, Try.results18, go_sem, x0, x1, x2]) rfl ?_
      rw [HD.out.1, HD.out.2]
      have hr : w.heap.size + 1 < bd := by have := HBD.out; omega
      have e : dualP G m = dualF G := by
        unfold dualP dualF
        rw [List.take_of_length_le (by omega), List.take_of_length_le (by omega), List.take_of_length_le (by omega)]
      have h := (((HX.out.far (by omega) (Nat.ne_of_lt hr) (i := 0) (V 0)).far (by omega) (Nat.ne_of_lt hr) (i := 1) (V 1)).far (by omega) (Nat.ne_of_lt hr) (i := 2) (V 2)).game
      rw [e, HV0.out, HV1.out, HV2.out] at h
      exact ⟨_, rfl, h, three_below (HB1.out.trans (HBX.out.mono HB1.out.size)) _ _ _⟩
    | succ g =>
      have hjl : j < m := by omega
      have hjl2 : (j : Int) < (m : Int) := by omega
      obtain ⟨bo, oo, rfl, hbo, hco⟩ := (H0.out.below HB1.out).o.2 (by omega)
      obtain ⟨bp, op, rfl, hbp, hcp⟩ := (H0.out.below HB1.out).p.2 (by omega)
      obtain ⟨bx, ox, rfl, hbx, hcx⟩ := (H0.out.below HB1.out).x.2 (by omega)
      have ko' := hco j hjl
      have kp' := hcp j hjl
      obtain ⟨bl, cl, kl', il⟩ := hcx j hjl
      have HRD := Lib.hid (fun W (hW : Below w1.heap.size w1 W) => show W.cell? ⟨bo, oo + j, none⟩ = some (.int .i64 (G.O.getD j 0)) ∧ W.cell? ⟨bp, op + j, none⟩ = some (.int .i64 (G.P.getD j 0)) ∧ W.cell? ⟨bx, ox + j, none⟩ = some (.slice bl (G.X.getD j []).length cl) ∧ Ints W bl (G.X.getD j []).length (G.X.getD j []) from
        ⟨(hW.cell (p := ⟨bo, oo + j, none⟩) hbo).trans ko', (hW.cell (p := ⟨bp, op + j, none⟩) hbp).trans kp', (hW.cell (p := ⟨bx, ox + j, none⟩) hbx).trans kl', il.below hW⟩)
      clear hco hcp hcx il ko' kp' kl'
      have hpj := posB_true (HPOS.out j (by omega))
      have hov : 0 ≤ G.O.getD j 0 ∧ G.O.getD j 0 ≤ 1 := by omega
      have hpv : 0 ≤ G.P.getD j 0 ∧ G.P.getD j 0 ≤ 60 := ⟨hpj.2.1, hpj.2.2.1⟩
      have hlv : (G.X.getD j []).length ≤ 64 := gmB_len HVB.out j
      clear hpj
      have HLO := Lib.hid (show (dualP G j).O.length = j ∧ (dualP G j).P.length = j ∧ (dualP G j).X.length = j by have := HLENS.out; simp [dualP]; omega)
      have HNX := Lib.hid (dualP_next (G := G) (j := j) (by omega) (by omega) (by omega))
      by_cases h60 : G.P.getD j 0 = 60
      · have HD := Lib.hid (dualG_full HVB.out (hasB_at (xs := G.P) (v := 60) (by omega) h60))
        have h60' : (G.P.getD j 0 == 60) = true := by simpa using h60
        obtain ⟨ko, kp, -, -⟩ := HRD.out _ HBX.out
        have s0 := (HBX.out.cell (p := ⟨w.heap.size + 1, 0, none⟩) hz).trans r0
        have s1 := (HBX.out.cell (p := ⟨w.heap.size + 1, 1, none⟩) hz).trans r1
        have s2 := (HBX.out.cell (p := ⟨w.heap.size + 1, 2, none⟩) hz).trans r2
        have e0 := (HBX.out.frozen (p := ⟨w.heap.size + 1, 0, none⟩) hz).trans f0
        have e1 := (HBX.out.frozen (p := ⟨w.heap.size + 1, 1, none⟩) hz).trans f1
        have e2 := (HBX.out.frozen (p := ⟨w.heap.size + 1, 2, none⟩) hz).trans f2
        clear r0 r1 r2 f0 f1 f2
        generalize G.P.getD j 0 = q at *
        go_wp2_with fail
        obtain ⟨x0, x1, x2⟩ := cells3g s0 s1 s2 (.slice none 0 0) (.slice none 0 0) (.slice none 0 0)
        refine bodyPost_ret (v := .tuple #[.agg #[.slice none 0 0, .slice none 0 0, .slice none 0 0], .int .i64 3]) (by simp [results, Try.results18, go_sem, x0, x1, x2]) rfl ?_
        rw [HD.out.1, HD.out.2]
        exact ⟨_, rfl, GameAt.zero _, three_below (HB1.out.trans (HBX.out.mono HB1.out.size)) _ _ _⟩
      have h60' : (G.P.getD j 0 == 60) = false := by simpa using h60
      have HNN := Lib.hid (show ∀ i, i < j + 1 → ¬ G.P.getD i 0 = 60 from fun i hi => by
        by_cases e : i = j
        · subst e; exact h60
        · exact HNO.out i (by omega))
      generalize hoo : G.O.getD j 0 = o at *
      generalize hpp : G.P.getD j 0 = q at *
      obtain ⟨ko, kp, -, -⟩ := HRD.out _ HBX.out
      obtain ⟨⟨y0, y1, y2⟩, ⟨z0, z1, z2⟩⟩ := HX.out.cells
      have hbl : bd < wr.heap.size := HZX.out
      have hwl : w.heap.size < wr.heap.size := by have := HBX.out.size; omega
      obtain ⟨ho0, ho1⟩ := hov
      obtain ⟨hp0, hp1⟩ := hpv
      have hw1 : IntKind.i64.wrap (1 - o) = 1 - o := by exact g_wrap (by omega) (by omega)
      have HW1 := Lib.hid hw1
      clear hw1 hpp hoo
      go_wp2_with fail
      go_cut [13] from 13 to 57 (fun s13 wc => s13 = .int .i64 (j : Int) ∧ Hid (∃ V1, Bld (bd + 1) bd wc V1 ⟨(dualP G j).O ++ [1 - o], (dualP G j).P, (dualP G j).X⟩) ∧ Hid (Below w1.heap.size w1 wc) ∧ Hid (bd + 1 ≤ wc.heap.size))
      case first =>
        go_region_law (refine step_append_ints _ (by rfl) _ _ _ (by rfl) (bd + 1) 3 i0 _ Try.underlying22 hi hi0 hi1 hi2 rfl (V 0) (dualP G j).O.length ((dualP G j).O.map (Value.int .i64)) (by rfl) (by exact (HX.out.own0.alloc _).drew) (some ⟨wr.heap.size, 0, none⟩) 1 1 [IntKind.i64.wrap (1 - o)] (by rfl) (by exact (int_new wr _ _).drew) (by have := HLO.out.1; omega) (al_le HZX.out _) ?_; intro v' w2 hown hgrow hat; obtain ⟨A', c', hve, _⟩ := own_slice hown; have hah := HX.out.ahead HZX.out (al_below wr _) (below_own ((HX.out.own0.alloc _).drew) hgrow (al_le HZX.out _)) (f := 0) (by omega) hgrow; have HP := Lib.hid (HX.out.push0 (al_below wr _) (al_le HZX.out _) hown hgrow hat); obtain ⟨⟨y0', y1', y2'⟩, ⟨z0', z1', z2'⟩, hB2, hz2⟩ := hah; have HB2 := Lib.hid hB2; have HZ2 := Lib.hid hz2; clear hown hgrow hat hB2 hz2; rw [hve] at HP ⊢)
        all_goals (go_wp2_with fail; go_meet)
        all_goals
          case rel =>
            have h := HP.out
            rw [HW1.out] at h
            exact ⟨rfl, ⟨_, h⟩, (HBX.out.trans (HB2.out.mono (by have := HBD.out; have := HBX.out.size; omega))).setCell (by show w1.heap.size ≤ bd; have := HBD.out; omega) _, set_le HZ2.out _ _⟩
      case rest =>
        obtain ⟨rfl, HV1, HBY, HZY⟩ := hcut
        obtain ⟨V1, hbld⟩ := HV1.out
        have HY := Lib.hid hbld
        clear hbld HV1
        obtain ⟨q0, q1, q2⟩ := HQ.out _ HBY.out
        obtain ⟨ko, kp, -, -⟩ := HRD.out _ HBY.out
        obtain ⟨⟨y0, y1, y2⟩, ⟨z0, z1, z2⟩⟩ := HY.out.cells
        have hbl : bd < wc.heap.size := HZY.out
        have hwl : w.heap.size < wc.heap.size := by have := HBY.out.size; omega
        have HW2 := Lib.hid (show IntKind.i64.wrap (q + 1) = q + 1 from g_wrap (by omega) (by omega))
        go_wp2_with fail
        go_cut [13] from 13 to 57 (fun s13 wd => s13 = .int .i64 (j : Int) ∧ Hid (∃ V2, Bld (bd + 1) bd wd V2 ⟨(dualP G j).O ++ [1 - o], (dualP G j).P ++ [q + 1], (dualP G j).X⟩) ∧ Hid (Below w1.heap.size w1 wd) ∧ Hid (bd + 1 ≤ wd.heap.size))
        case first =>
          go_region_law (refine step_append_ints _ (by rfl) _ _ _ (by rfl) (bd + 1) 3 i0 _ Try.underlying22 hi hi0 hi1 hi2 rfl (V1 1) (dualP G j).P.length ((dualP G j).P.map (Value.int .i64)) (by rfl) (by exact (HY.out.own1.alloc _).drew) (some ⟨wc.heap.size, 0, none⟩) 1 1 [IntKind.i64.wrap (q + 1)] (by rfl) (by exact (int_new wc _ _).drew) (by have := HLO.out; omega) (al_le HZY.out _) ?_; intro v' w2 hown hgrow hat; obtain ⟨A', c', hve, _⟩ := own_slice hown; have hah := HY.out.ahead HZY.out (al_below wc _) (below_own ((HY.out.own1.alloc _).drew) hgrow (al_le HZY.out _)) (f := 1) (by omega) hgrow; have HP := Lib.hid (HY.out.push1 (al_below wc _) (al_le HZY.out _) hown hgrow hat); obtain ⟨⟨y0', y1', y2'⟩, ⟨z0', z1', z2'⟩, hB2, hz2⟩ := hah; have HB2 := Lib.hid hB2; have HZ2 := Lib.hid hz2; clear hown hgrow hat hB2 hz2; rw [hve] at HP ⊢)
          all_goals (go_wp2_with fail; go_meet)
          all_goals
            case rel =>
              have h := HP.out
              rw [HW2.out] at h
              exact ⟨rfl, ⟨_, h⟩, (HBY.out.trans (HB2.out.mono (by have := HBD.out; have := HBY.out.size; omega))).setCell (by show w1.heap.size ≤ bd; have := HBD.out; omega) _, set_le HZ2.out _ _⟩
        case rest =>
          obtain ⟨rfl, HV2, HBU, HZU⟩ := hcut
          obtain ⟨V2, hbld⟩ := HV2.out
          have HU := Lib.hid hbld
          clear hbld HV2
          obtain ⟨q0, q1, q2⟩ := HQ.out _ HBU.out
          obtain ⟨-, -, kl, il⟩ := HRD.out _ HBU.out
          have HIL := Lib.hid il
          clear il
          obtain ⟨⟨y0, y1, y2⟩, ⟨z0, z1, z2⟩⟩ := HU.out.cells
          have hbl : bd < wc.heap.size := HZU.out
          have hwl : w.heap.size < wc.heap.size := by have := HBU.out.size; omega
          generalize hxj : G.X.getD j [] = xj at *
          have hbx' : bx < wc.heap.size := by have := HBU.out.size; omega
          go_wp2_with fail
          have HLX := Lib.hid (show (dualP G j).X.length ≤ 100000 by have := HLO.out; omega)
          go_region_law (first
            | (refine step_append_ints _ (by rfl) _ _ _ (by rfl) wc.heap.size 3 i0 _ Try.underlying22 hi hi0 hi1 hi2 rfl (.slice (some ⟨wc.heap.size, 0, none⟩) 0 0) 0 [] (by rfl) (by exact lit0 wc) bl xj.length cl xj (by rfl) (by exact (HIL.out.alloc _).drew) (by omega) (al_le (Nat.le_refl _) _) ?_
               intro v3 w2 hown hgrow hat
               obtain ⟨A3, c3, rfl, hb3, hu3, h3, hap, h3b⟩ := HU.out.newrow HZU.out hown hgrow
               obtain ⟨⟨_, _, y2'⟩, ⟨_, _, z2'⟩⟩ := hu3.cells
               have hbl2 : bd < w2.heap.size := by have := hb3.size; omega
               have HU3 := Lib.hid hu3
               have HB3 := Lib.hid hb3
               have H3 := Lib.hid h3
               have HAP := Lib.hid hap
               have H3B := Lib.hid h3b
               clear hown hgrow hat hb3 hu3 y2 z2 h3 hap h3b)
            | (refine step_append_vals _ (by rfl) _ _ _ (by rfl) (bd + 1) 22 24 i3 _ Try.underlying23 hir hir0 hir1 hir2 (by decide) rfl (V2 2) (dualP G j).X.length ((List.range (dualP G j).X.length).map (fun j => V2 (3 + j))) (by rfl) (by exact HU3.out.own2.alloc _) ⟨w2.heap.size, 0, none⟩ 1 1 [.slice A3 xj.length c3] (by rfl) rfl (by exact val_new w2 _ _) (by simp [Value.oneCell']) (by have := HLX.out; omega) (by show bd + 1 ≤ (w2.alloc _).heap.size; rw [World.size_alloc]; omega) ?_
               intro v4 w4 hown hgrow hat
               obtain ⟨A4, c4, rfl, hb4, y2'', z2'', hbl4, hz4⟩ := HU3.out.rowin (by have := HB3.out.size; have := HZU.out; omega) H3.out HAP.out H3B.out hown hgrow hat
               have HP := Lib.hid hbl4
               have HB4 := Lib.hid hb4
               have HZ4 := Lib.hid hz4
               clear hown hgrow hat hb4 hbl4 hz4)
            | fail)
          all_goals
            go_wp2_with fail
            go_roundg g
            case measure => omega
            case rel =>
              have h := HP.out
              rw [← HNX.out] at h
              have hbb : Below w1.heap.size w1 w4 := (HBU.out.trans (HB3.out.mono HBU.out.size)).trans (HB4.out.mono (by have := HBD.out; omega))
              exact ⟨j + 1, by omega, by go_num, h, hbb.setCell (by show w1.heap.size ≤ bd; have := HBD.out; omega) _, set_le HZ4.out _ _, HNN.out⟩

end Go.Proofs.Ytffdbncjndnnaaa.Wd
