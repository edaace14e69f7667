/-
  Trade of the reference of package game.
-/
import Derived.Test.YtffdbncjndnnaaaGaTrade
import Derived.Test.YtffdbncjndnnaaaGaRefTrade0
import Derived.Test.YtffdbncjndnnaaaGaRefValid
import Derived.Test.YtffdbncjndnnaaaGaRefDual
import Derived.Test.YtffdbncjndnnaaaWdHeld
namespace Go.Proofs.Ytffdbncjndnnaaa.Wd
open Go.RowKit
set_option linter.unusedVariables false
set_option linter.unusedSimpArgs false

set_option maxRecDepth 100000 in
set_option maxHeartbeats 8000000 in
theorem grefTrade_any (a p x A : Option Addr) (n c m d k e na ca : Nat) (G : Gm) (ch : List Int) (q : Int) (w : World) (h : GameIn w a n p m x k G) (hA : Ints w A na ch) (hn : n ≤ 17592186044416) (hk : k ≤ 17592186044416) (hna : na ≤ 17592186044416) (hl : ∀ v, (G.X.getD v []).length ≤ 17592186044416) :
    Calls Try.prog 22 #[.agg #[.slice a n c, .slice p m d, .slice x k e], .slice A na ca, .int .i64 q] w fun r w' => OutG w w' (tradeG G ch q) (tradeC G ch q) r := by
  have HV := Lib.hid (refValidG_any a p x n c m d k e G (two w #[.slice a n c, .slice p m d, .slice x k e]) (h.below (two_below w _)) hn hk hl)
  obtain ⟨vb, hvb, HVB⟩ : ∃ vb, gmB G = vb ∧ Hid (gmB G = vb) := ⟨_, rfl, rfl⟩
  rw [hvb] at HV
  clear hvb
  have H0 := Lib.hid h
  have HA := Lib.hid hA
  have hna0 : (0 : Int) ≤ (na : Int) := by omega
  clear h hl hA
  unfold two at HV
  cases vb
  · have HD := Lib.hid (trade_bad (ch := ch) (p := q) HVB.out)
    go_enter Try.func22, Try.ntmps22
    go_wp2_with fail
    refine HV.out.mono ?_
    rintro r w1 ⟨rfl, hb1⟩
    have hb1' : Below (two w #[.slice a n c, .slice p m d, .slice x k e]).heap.size (two w #[.slice a n c, .slice p m d, .slice x k e]) w1 := hb1
    have HB1 := Lib.hid (two_trans hb1')
    obtain ⟨⟨q0, q1, q2⟩, ⟨r0, r1, r2⟩, ⟨f0, f1, f2⟩, hz⟩ := two_read hb1'
    clear hb1 hb1'
    go_wp2_with fail
    obtain ⟨x0, x1, x2⟩ := cells3g r0 r1 r2 (.slice none 0 0) (.slice none 0 0) (.slice none 0 0)
    refine bodyPost_ret (v := .tuple #[.agg #[.slice none 0 0, .slice none 0 0, .slice none 0 0], .int .i64 1]) (by simp [results, Try.results22, go_sem, x0, x1, x2]) rfl ?_
    rw [HD.out.1, HD.out.2]
    exact ⟨_, rfl, GameAt.zero _, three_below HB1.out _ _ _⟩
  by_cases hq : ¬ (q = 0 ∨ q = 1)
  · have HPB := Lib.hid (show plB q = false by unfold plB; rw [decide_eq_false (show ¬ q = 0 by omega), decide_eq_false (show ¬ q = 1 by omega)]; rfl)
    have hq0 : (q != 0) = true := by simp; omega
    have hq1 : (q != 1) = true := by simp; omega
    have HD := Lib.hid (trade_pl (ch := ch) HVB.out HPB.out)
    go_enter Try.func22, Try.ntmps22
    go_wp2_with fail
    refine HV.out.mono ?_
    rintro r w1 ⟨rfl, hb1⟩
    have hb1' : Below (two w #[.slice a n c, .slice p m d, .slice x k e]).heap.size (two w #[.slice a n c, .slice p m d, .slice x k e]) w1 := hb1
    have HB1 := Lib.hid (two_trans hb1')
    obtain ⟨⟨q0, q1, q2⟩, ⟨r0, r1, r2⟩, ⟨f0, f1, f2⟩, hz⟩ := two_read hb1'
    clear hb1 hb1'
    go_wp2_with fail
    obtain ⟨x0, x1, x2⟩ := cells3g r0 r1 r2 (.slice none 0 0) (.slice none 0 0) (.slice none 0 0)
    refine bodyPost_ret (v := .tuple #[.agg #[.slice none 0 0, .slice none 0 0, .slice none 0 0], .int .i64 6]) (by simp [results, Try.results22, go_sem, x0, x1, x2]) rfl ?_
    rw [HD.out.1, HD.out.2]
    exact ⟨_, rfl, GameAt.zero _, three_below HB1.out _ _ _⟩
  have HPB := Lib.hid (show plB q = true by
    have : q = 0 ∨ q = 1 := by omega
    rcases this with rfl | rfl <;> rfl)
  have hqq : q = 0 ∨ q = 1 := by omega
  obtain ⟨hg1, hg2, hg3, hg4⟩ := gmB_true HVB.out
  have hxl := H0.out.x.1
  have hol := H0.out.o.1
  have hpl := H0.out.p.1
  have hal := HA.out.1
  obtain rfl : n = k := by omega
  obtain rfl : m = n := by omega
  have hk0 : (0 : Int) ≤ (m : Int) := by omega
  by_cases hd : ¬ na = m
  · have HD := Lib.hid (trade_dim (ch := ch) HVB.out HPB.out (by omega))
    have hd' : ((na : Int) != (m : Int)) = true := by simp; omega
    clear hg4
    rcases hqq with rfl | rfl
    all_goals
      go_enter Try.func22, Try.ntmps22
      go_wp2_with fail
      refine HV.out.mono ?_
      rintro r w1 ⟨rfl, hb1⟩
      have hb1' : Below (two w #[.slice a m c, .slice p m d, .slice x m e]).heap.size (two w #[.slice a m c, .slice p m d, .slice x m e]) w1 := hb1
      have HB1 := Lib.hid (two_trans hb1')
      obtain ⟨⟨q0, q1, q2⟩, ⟨r0, r1, r2⟩, ⟨f0, f1, f2⟩, hz⟩ := two_read hb1'
      clear hb1 hb1'
      go_wp2_with fail
      obtain ⟨x0, x1, x2⟩ := cells3g r0 r1 r2 (.slice none 0 0) (.slice none 0 0) (.slice none 0 0)
      refine bodyPost_ret (v := .tuple #[.agg #[.slice none 0 0, .slice none 0 0, .slice none 0 0], .int .i64 2]) (by simp [results, Try.results22, go_sem, x0, x1, x2]) rfl ?_
      rw [HD.out.1, HD.out.2]
      exact ⟨_, rfl, GameAt.zero _, three_below HB1.out _ _ _⟩
  obtain rfl : na = m := by omega
  have hd' : ((na : Int) != (na : Int)) = false := by simp
  have HLENS := Lib.hid (show G.O.length = na ∧ G.P.length = na ∧ G.X.length = na from ⟨hol, hpl, hxl⟩)
  have HSB := Lib.hid (fun h => trade_no (ch := ch) HVB.out HPB.out (by omega) h)
  have HSG := Lib.hid (fun h => trade_good (ch := ch) HVB.out HPB.out (by omega) h)
  have HLEN := Lib.hid (fun v => gmB_len HVB.out v)
  have hnn : na ≤ 20000 := by omega
  clear hg4 hg1 hg2 hg3 hol hpl hxl hal
  obtain ⟨i0, hi, hi0, hi1, hi2⟩ := g_info_parts g_ints_info
  obtain ⟨i3, hir, hir0, hir1, hir2⟩ := g_info_parts g_rows_info
  go_enter Try.func22, Try.ntmps22
  go_wp2_with fail
  refine HV.out.mono ?_
  rintro r w1 ⟨rfl, hb1⟩
  have hb1' : Below (two w #[.slice a na c, .slice p na d, .slice x na e]).heap.size (two w #[.slice a na c, .slice p na d, .slice x na e]) w1 := hb1
  have HB1 := Lib.hid (two_trans hb1')
  obtain ⟨⟨q0, q1, q2⟩, ⟨r0, r1, r2⟩, ⟨f0, f1, f2⟩, hz⟩ := two_read hb1'
  have HTR := Lib.hid (fun W (hW : Below w1.heap.size w1 W) => two_read (hb1'.trans (hW.mono hb1'.size)))
  clear hb1 hb1'
  have HO1 := Lib.hid (fun W (hW : Below w1.heap.size w1 W) => (H0.out.o.below HB1.out).below hW)
  have HO2 := Lib.hid (fun W (hW : Below w1.heap.size w1 W) => (H0.out.p.below HB1.out).below hW)
  go_upto_region 3 with fail
  go_cut [17] from 18 (fun s17 wc => s17 = .bool false ∧ wc = w1)
  case first =>
    rcases hqq with rfl | rfl
    all_goals
      go_wp2_with fail
      go_meet
      case rel => exact ⟨rfl, rfl⟩
  obtain ⟨rfl, hwc⟩ := hcut
  rw [hwc]
  clear hwc wc
  go_upto_region 7 with fail
  go_cut [8] from 26 (fun s8 wc => Hid (∃ bd, s8 = .pointer (some ⟨bd, 0, none⟩) ∧ w1.heap.size ≤ bd ∧ (∃ V, Bld w1.heap.size bd wc V ⟨G.O, G.P, []⟩) ∧ Below w1.heap.size w1 wc ∧ w1.heap.size ≤ wc.heap.size))
  case first =>
    refine wp_region_until_drew (st := [10]) (S := fun V => V.cell? ⟨w.heap.size, 0, none⟩ = some (.slice a na c) ∧ V.cell? ⟨w.heap.size, 1, none⟩ = some (.slice p na d)) (by kernel_rfl) ⟨q0, q1⟩ (fun hHeld => ?_)
    have HSS := Lib.hid (fun W (hW : Below w1.heap.size w1 W) => show W.cell? ⟨w.heap.size, 0, none⟩ = some (.slice a na c) ∧ W.cell? ⟨w.heap.size, 1, none⟩ = some (.slice p na d) from ⟨(HTR.out W hW).1.1, (HTR.out W hW).1.2.1⟩)
    have HT := Lib.hid (Tw.start w1)
    obtain ⟨W0, hW0⟩ : ∃ W0, w1.drew = W0 := ⟨_, rfl⟩
    rw [hW0] at HT hHeld ⊢
    clear hW0
    refine wpAnyU_pure (i := 1) (v := ?v1) rfl (by kernel_rfl) (by kernel_rfl) (by kernel_rfl) (by kernel_rfl) (fun _ _ _ h => h) (Or.inl ⟨by rfl, fun V _ => ?h1⟩) (fun _ => hHeld) ?r1
    case h1 => go_simp; try with_reducible rfl
    try simp only [Act.put, List.getElem_toArray, List.getElem_cons_zero, List.getElem_cons_succ, List.setIfInBounds_toArray, List.set_cons_zero, List.set_cons_succ]
    refine wpAnyU_load (i := 2) (v := ?v2) rfl (by kernel_rfl) (by kernel_rfl) (by kernel_rfl) (by kernel_rfl) (fun _ _ _ h => h) (Or.inl ⟨by rfl, fun V hSw => ?h2⟩) hHeld ?r2
    case h2 => (obtain ⟨hs1, hs2⟩ := hSw); go_simp; try with_reducible rfl
    try simp only [Act.put, List.getElem_toArray, List.getElem_cons_zero, List.getElem_cons_succ, List.setIfInBounds_toArray, List.set_cons_zero, List.set_cons_succ]
    refine wpAnyU_pure (i := 5) (v := ?v3) rfl (by kernel_rfl) (by kernel_rfl) (by kernel_rfl) (by kernel_rfl) (fun _ _ _ h => h) (Or.inl ⟨by rfl, fun V _ => ?h3⟩) (fun _ => hHeld) ?r3
    case h3 => go_simp; try with_reducible rfl
    try simp only [Act.put, List.getElem_toArray, List.getElem_cons_zero, List.getElem_cons_succ, List.setIfInBounds_toArray, List.set_cons_zero, List.set_cons_succ]
    refine wpAnyU_load (i := 6) (v := ?v4) rfl (by kernel_rfl) (by kernel_rfl) (by kernel_rfl) (by kernel_rfl) (fun _ _ _ h => h) (Or.inl ⟨by rfl, fun V hSw => ?h4⟩) hHeld ?r4
    case h4 => (obtain ⟨hs1, hs2⟩ := hSw); go_simp; try with_reducible rfl
    try simp only [Act.put, List.getElem_toArray, List.getElem_cons_zero, List.getElem_cons_succ, List.setIfInBounds_toArray, List.set_cons_zero, List.set_cons_succ]
    refine wpAnyU_ready (rs := [0, 4, 9]) (by kernel_rfl) (by simp) (AllU.cons (i := 0) rfl (fun K hK => ?e0x4) (AllU.cons (i := 4) rfl (fun K hK => ?e4x4) (AllU.cons (i := 9) rfl (fun K hK => ?e9x4) AllU.nil)))
    case e0x4 =>
     simp only [List.getElem_toArray, List.getElem_cons_zero, List.getElem_cons_succ]
     go_simp
     refine hK.out _ _ (fun _ => HSS.out _ (HT.out.mkA).below) ?_
     clear hK K
     try simp only [Act.put, List.getElem_toArray, List.getElem_cons_zero, List.getElem_cons_succ, List.setIfInBounds_toArray, List.set_cons_zero, List.set_cons_succ]
     have HT := Lib.hid (HT.out.mkA)
     obtain ⟨W5, hW5⟩ : ∃ W5, World.alloc W0 (.cells #[] 3) = W5 := ⟨_, rfl⟩
     rw [hW5] at HT ⊢
     clear hW5
     refine wpAnyU_ready (rs := [3, 4, 9]) (by kernel_rfl) (by simp) (AllU.cons (i := 3) rfl (fun K hK => ?e3x5) (AllU.cons (i := 4) rfl (fun K hK => ?e4x5) (AllU.cons (i := 9) rfl (fun K hK => ?e9x5) AllU.nil)))
     case e3x5 =>
      refine step_append_ints _ (by rfl) _ _ _ (by rfl) w1.heap.size 3 i0 _ Try.underlying22 hi hi0 hi1 hi2 rfl (.slice (some ⟨W0.heap.size, 0, none⟩) 0 0) 0 [] (by rfl) (HT.out.a rfl) a _ c G.O (by rfl) (HO1.out _ HT.out.below) (by omega) HT.out.size ?_
      intro v6 W6 hown hgrow hat
      have HT := Lib.hid ((HT.out.growA HLENS.out.1 hown hgrow hat))
      clear hown hgrow hat
      refine hK.out _ _ (fun _ => HSS.out _ HT.out.below) ?_
      clear hK K
      try simp only [Act.put, List.getElem_toArray, List.getElem_cons_zero, List.getElem_cons_succ, List.setIfInBounds_toArray, List.set_cons_zero, List.set_cons_succ]
      refine wpAnyU_ready (rs := [4, 9]) (by kernel_rfl) (by simp) (AllU.cons (i := 4) rfl (fun K hK => ?e4x6) (AllU.cons (i := 9) rfl (fun K hK => ?e9x6) AllU.nil))
      case e4x6 =>
       simp only [List.getElem_toArray, List.getElem_cons_zero, List.getElem_cons_succ]
       go_simp
       refine hK.out _ _ (fun _ => HSS.out _ (HT.out.swap.mkA.swap).below) ?_
       clear hK K
       try simp only [Act.put, List.getElem_toArray, List.getElem_cons_zero, List.getElem_cons_succ, List.setIfInBounds_toArray, List.set_cons_zero, List.set_cons_succ]
       have HT := Lib.hid (HT.out.swap.mkA.swap)
       obtain ⟨W7, hW7⟩ : ∃ W7, World.alloc W6 (.cells #[] 3) = W7 := ⟨_, rfl⟩
       rw [hW7] at HT ⊢
       clear hW7
       refine wpAnyU_ready (rs := [7, 9]) (by kernel_rfl) (by simp) (AllU.cons (i := 7) rfl (fun K hK => ?e7x7) (AllU.cons (i := 9) rfl (fun K hK => ?e9x7) AllU.nil))
       case e7x7 =>
        refine step_append_ints _ (by rfl) _ _ _ (by rfl) w1.heap.size 3 i0 _ Try.underlying22 hi hi0 hi1 hi2 rfl (.slice (some ⟨W6.heap.size, 0, none⟩) 0 0) 0 [] (by rfl) (HT.out.b rfl) p _ d G.P (by rfl) (HO2.out _ HT.out.below) (by omega) HT.out.size ?_
        intro v8 W8 hown hgrow hat
        have HT := Lib.hid ((HT.out.swap.growA HLENS.out.2.1 hown hgrow hat).swap)
        clear hown hgrow hat
        refine hK.out _ _ (fun _ => HSS.out _ HT.out.below) ?_
        clear hK K
        try simp only [Act.put, List.getElem_toArray, List.getElem_cons_zero, List.getElem_cons_succ, List.setIfInBounds_toArray, List.set_cons_zero, List.set_cons_succ]
        obtain ⟨BA, CA, rfl, _⟩ := own_slice (HT.out.a rfl)
        obtain ⟨BB, CB, rfl, _⟩ := own_slice (HT.out.b rfl)
        refine wpAnyU_pure (i := 8) (v := ?v9) rfl (by kernel_rfl) (by kernel_rfl) (by kernel_rfl) (by kernel_rfl) (fun _ _ _ h => h) (Or.inl ⟨by rfl, fun V _ => ?h9⟩) (fun _ => HSS.out _ HT.out.below) ?r9
        case h9 => go_simp; try with_reducible rfl
        try simp only [Act.put, List.getElem_toArray, List.getElem_cons_zero, List.getElem_cons_succ, List.setIfInBounds_toArray, List.set_cons_zero, List.set_cons_succ]
        refine wpAnyU_ready (rs := [9]) (by kernel_rfl) (by simp) (AllU.cons (i := 9) rfl (fun K hK => ?e9x8) AllU.nil)
        case e9x8 =>
         simp only [List.getElem_toArray, List.getElem_cons_zero, List.getElem_cons_succ]
         go_simp
         refine hK.out _ _ (fun _ => HSS.out _ (HT.out.mkC).below) ?_
         clear hK K
         try simp only [Act.put, List.getElem_toArray, List.getElem_cons_zero, List.getElem_cons_succ, List.setIfInBounds_toArray, List.set_cons_zero, List.set_cons_succ]
         have HT := Lib.hid (HT.out.mkC)
         obtain ⟨W10, hW10⟩ : ∃ W10, World.alloc W8 (.cells #[.slice none 0 0, .slice none 0 0, .slice none 0 0] 25) = W10 := ⟨_, rfl⟩
         rw [hW10] at HT ⊢
         clear hW10
         obtain ⟨hc0, hc1⟩ := HT.out.c rfl
         have n0 := cell_of_heap hc0 0
         have n1 := cell_of_heap hc0 1
         have n2 := cell_of_heap hc0 2
         have z0 := frozen_of_heap hc0 0
         have z1 := frozen_of_heap hc0 1
         have z2 := frozen_of_heap hc0 2
         have HC1 := Lib.hid hc1
         clear hc0 hc1
         refine wpAnyU_ready (rs := [10]) (by kernel_rfl) (by simp) (AllU.cons (i := 10) rfl (fun K hK => ?_) AllU.nil)
         simp only [List.getElem_toArray, List.getElem_cons_zero, List.getElem_cons_succ]
         go_simp
         refine hK.out _ _ (fun h => by have h2 : false = true := h; cases h2) ?_
         clear hK K
         try simp only [Act.put, List.getElem_toArray, List.getElem_cons_zero, List.getElem_cons_succ, List.setIfInBounds_toArray, List.set_cons_zero, List.set_cons_succ]
         refine wpAnyU_done (by kernel_rfl) ?_ _
         go_wp2_with fail
         go_meet
         case rel => exact ⟨_, rfl, HC1.out, HT.out.done _ rfl, (((HT.out.below.setCell (by exact HC1.out) _).setCell (by exact HC1.out) _).setCell (by exact HC1.out) _), set_le (set_le (set_le HT.out.size _ _) _ _) _ _⟩
       case e9x7 =>
        simp only [List.getElem_toArray, List.getElem_cons_zero, List.getElem_cons_succ]
        go_simp
        refine hK.out _ _ (fun _ => HSS.out _ (HT.out.mkC).below) ?_
        clear hK K
        try simp only [Act.put, List.getElem_toArray, List.getElem_cons_zero, List.getElem_cons_succ, List.setIfInBounds_toArray, List.set_cons_zero, List.set_cons_succ]
        have HT := Lib.hid (HT.out.mkC)
        obtain ⟨W11, hW11⟩ : ∃ W11, World.alloc W7 (.cells #[.slice none 0 0, .slice none 0 0, .slice none 0 0] 25) = W11 := ⟨_, rfl⟩
        rw [hW11] at HT ⊢
        clear hW11
        refine wpAnyU_ready (rs := [7]) (by kernel_rfl) (by simp) (AllU.cons (i := 7) rfl (fun K hK => ?e7x8) AllU.nil)
        case e7x8 =>
         refine step_append_ints _ (by rfl) _ _ _ (by rfl) w1.heap.size 3 i0 _ Try.underlying22 hi hi0 hi1 hi2 rfl (.slice (some ⟨W6.heap.size, 0, none⟩) 0 0) 0 [] (by rfl) (HT.out.b rfl) p _ d G.P (by rfl) (HO2.out _ HT.out.below) (by omega) HT.out.size ?_
         intro v12 W12 hown hgrow hat
         have HT := Lib.hid ((HT.out.swap.growA HLENS.out.2.1 hown hgrow hat).swap)
         clear hown hgrow hat
         refine hK.out _ _ (fun _ => HSS.out _ HT.out.below) ?_
         clear hK K
         try simp only [Act.put, List.getElem_toArray, List.getElem_cons_zero, List.getElem_cons_succ, List.setIfInBounds_toArray, List.set_cons_zero, List.set_cons_succ]
         obtain ⟨BA, CA, rfl, _⟩ := own_slice (HT.out.a rfl)
         obtain ⟨BB, CB, rfl, _⟩ := own_slice (HT.out.b rfl)
         refine wpAnyU_pure (i := 8) (v := ?v13) rfl (by kernel_rfl) (by kernel_rfl) (by kernel_rfl) (by kernel_rfl) (fun _ _ _ h => h) (Or.inl ⟨by rfl, fun V _ => ?h13⟩) (fun _ => HSS.out _ HT.out.below) ?r13
         case h13 => go_simp; try with_reducible rfl
         try simp only [Act.put, List.getElem_toArray, List.getElem_cons_zero, List.getElem_cons_succ, List.setIfInBounds_toArray, List.set_cons_zero, List.set_cons_succ]
         obtain ⟨hc0, hc1⟩ := HT.out.c rfl
         have n0 := cell_of_heap hc0 0
         have n1 := cell_of_heap hc0 1
         have n2 := cell_of_heap hc0 2
         have z0 := frozen_of_heap hc0 0
         have z1 := frozen_of_heap hc0 1
         have z2 := frozen_of_heap hc0 2
         have HC1 := Lib.hid hc1
         clear hc0 hc1
         refine wpAnyU_ready (rs := [10]) (by kernel_rfl) (by simp) (AllU.cons (i := 10) rfl (fun K hK => ?_) AllU.nil)
         simp only [List.getElem_toArray, List.getElem_cons_zero, List.getElem_cons_succ]
         go_simp
         refine hK.out _ _ (fun h => by have h2 : false = true := h; cases h2) ?_
         clear hK K
         try simp only [Act.put, List.getElem_toArray, List.getElem_cons_zero, List.getElem_cons_succ, List.setIfInBounds_toArray, List.set_cons_zero, List.set_cons_succ]
         refine wpAnyU_done (by kernel_rfl) ?_ _
         go_wp2_with fail
         go_meet
         case rel => exact ⟨_, rfl, HC1.out, HT.out.done _ rfl, (((HT.out.below.setCell (by exact HC1.out) _).setCell (by exact HC1.out) _).setCell (by exact HC1.out) _), set_le (set_le (set_le HT.out.size _ _) _ _) _ _⟩
      case e9x6 =>
       simp only [List.getElem_toArray, List.getElem_cons_zero, List.getElem_cons_succ]
       go_simp
       refine hK.out _ _ (fun _ => HSS.out _ (HT.out.mkC).below) ?_
       clear hK K
       try simp only [Act.put, List.getElem_toArray, List.getElem_cons_zero, List.getElem_cons_succ, List.setIfInBounds_toArray, List.set_cons_zero, List.set_cons_succ]
       have HT := Lib.hid (HT.out.mkC)
       obtain ⟨W14, hW14⟩ : ∃ W14, World.alloc W6 (.cells #[.slice none 0 0, .slice none 0 0, .slice none 0 0] 25) = W14 := ⟨_, rfl⟩
       rw [hW14] at HT ⊢
       clear hW14
       refine wpAnyU_ready (rs := [4]) (by kernel_rfl) (by simp) (AllU.cons (i := 4) rfl (fun K hK => ?e4x7) AllU.nil)
       case e4x7 =>
        simp only [List.getElem_toArray, List.getElem_cons_zero, List.getElem_cons_succ]
        go_simp
        refine hK.out _ _ (fun _ => HSS.out _ (HT.out.swap.mkA.swap).below) ?_
        clear hK K
        try simp only [Act.put, List.getElem_toArray, List.getElem_cons_zero, List.getElem_cons_succ, List.setIfInBounds_toArray, List.set_cons_zero, List.set_cons_succ]
        have HT := Lib.hid (HT.out.swap.mkA.swap)
        obtain ⟨W15, hW15⟩ : ∃ W15, World.alloc W14 (.cells #[] 3) = W15 := ⟨_, rfl⟩
        rw [hW15] at HT ⊢
        clear hW15
        refine wpAnyU_ready (rs := [7]) (by kernel_rfl) (by simp) (AllU.cons (i := 7) rfl (fun K hK => ?e7x8) AllU.nil)
        case e7x8 =>
         refine step_append_ints _ (by rfl) _ _ _ (by rfl) w1.heap.size 3 i0 _ Try.underlying22 hi hi0 hi1 hi2 rfl (.slice (some ⟨W14.heap.size, 0, none⟩) 0 0) 0 [] (by rfl) (HT.out.b rfl) p _ d G.P (by rfl) (HO2.out _ HT.out.below) (by omega) HT.out.size ?_
         intro v16 W16 hown hgrow hat
         have HT := Lib.hid ((HT.out.swap.growA HLENS.out.2.1 hown hgrow hat).swap)
         clear hown hgrow hat
         refine hK.out _ _ (fun _ => HSS.out _ HT.out.below) ?_
         clear hK K
         try simp only [Act.put, List.getElem_toArray, List.getElem_cons_zero, List.getElem_cons_succ, List.setIfInBounds_toArray, List.set_cons_zero, List.set_cons_succ]
         obtain ⟨BA, CA, rfl, _⟩ := own_slice (HT.out.a rfl)
         obtain ⟨BB, CB, rfl, _⟩ := own_slice (HT.out.b rfl)
         refine wpAnyU_pure (i := 8) (v := ?v17) rfl (by kernel_rfl) (by kernel_rfl) (by kernel_rfl) (by kernel_rfl) (fun _ _ _ h => h) (Or.inl ⟨by rfl, fun V _ => ?h17⟩) (fun _ => HSS.out _ HT.out.below) ?r17
         case h17 => go_simp; try with_reducible rfl
         try simp only [Act.put, List.getElem_toArray, List.getElem_cons_zero, List.getElem_cons_succ, List.setIfInBounds_toArray, List.set_cons_zero, List.set_cons_succ]
         obtain ⟨hc0, hc1⟩ := HT.out.c rfl
         have n0 := cell_of_heap hc0 0
         have n1 := cell_of_heap hc0 1
         have n2 := cell_of_heap hc0 2
         have z0 := frozen_of_heap hc0 0
         have z1 := frozen_of_heap hc0 1
         have z2 := frozen_of_heap hc0 2
         have HC1 := Lib.hid hc1
         clear hc0 hc1
         refine wpAnyU_ready (rs := [10]) (by kernel_rfl) (by simp) (AllU.cons (i := 10) rfl (fun K hK => ?_) AllU.nil)
         simp only [List.getElem_toArray, List.getElem_cons_zero, List.getElem_cons_succ]
         go_simp
         refine hK.out _ _ (fun h => by have h2 : false = true := h; cases h2) ?_
         clear hK K
         try simp only [Act.put, List.getElem_toArray, List.getElem_cons_zero, List.getElem_cons_succ, List.setIfInBounds_toArray, List.set_cons_zero, List.set_cons_succ]
         refine wpAnyU_done (by kernel_rfl) ?_ _
         go_wp2_with fail
         go_meet
         case rel => exact ⟨_, rfl, HC1.out, HT.out.done _ rfl, (((HT.out.below.setCell (by exact HC1.out) _).setCell (by exact HC1.out) _).setCell (by exact HC1.out) _), set_le (set_le (set_le HT.out.size _ _) _ _) _ _⟩
     case e4x5 =>
      simp only [List.getElem_toArray, List.getElem_cons_zero, List.getElem_cons_succ]
      go_simp
      refine hK.out _ _ (fun _ => HSS.out _ (HT.out.swap.mkA.swap).below) ?_
      clear hK K
      try simp only [Act.put, List.getElem_toArray, List.getElem_cons_zero, List.getElem_cons_succ, List.setIfInBounds_toArray, List.set_cons_zero, List.set_cons_succ]
      have HT := Lib.hid (HT.out.swap.mkA.swap)
      obtain ⟨W18, hW18⟩ : ∃ W18, World.alloc W5 (.cells #[] 3) = W18 := ⟨_, rfl⟩
      rw [hW18] at HT ⊢
      clear hW18
      refine wpAnyU_ready (rs := [3, 9]) (by kernel_rfl) (by simp) (AllU.cons (i := 3) rfl (fun K hK => ?e3x6) (AllU.cons (i := 9) rfl (fun K hK => ?e9x6) AllU.nil))
      case e3x6 =>
       refine step_append_ints _ (by rfl) _ _ _ (by rfl) w1.heap.size 3 i0 _ Try.underlying22 hi hi0 hi1 hi2 rfl (.slice (some ⟨W0.heap.size, 0, none⟩) 0 0) 0 [] (by rfl) (HT.out.a rfl) a _ c G.O (by rfl) (HO1.out _ HT.out.below) (by omega) HT.out.size ?_
       intro v19 W19 hown hgrow hat
       have HT := Lib.hid ((HT.out.growA HLENS.out.1 hown hgrow hat))
       clear hown hgrow hat
       refine hK.out _ _ (fun _ => HSS.out _ HT.out.below) ?_
       clear hK K
       try simp only [Act.put, List.getElem_toArray, List.getElem_cons_zero, List.getElem_cons_succ, List.setIfInBounds_toArray, List.set_cons_zero, List.set_cons_succ]
       refine wpAnyU_ready (rs := [7, 9]) (by kernel_rfl) (by simp) (AllU.cons (i := 7) rfl (fun K hK => ?e7x7) (AllU.cons (i := 9) rfl (fun K hK => ?e9x7) AllU.nil))
       case e7x7 =>
        refine step_append_ints _ (by rfl) _ _ _ (by rfl) w1.heap.size 3 i0 _ Try.underlying22 hi hi0 hi1 hi2 rfl (.slice (some ⟨W5.heap.size, 0, none⟩) 0 0) 0 [] (by rfl) (HT.out.b rfl) p _ d G.P (by rfl) (HO2.out _ HT.out.below) (by omega) HT.out.size ?_
        intro v20 W20 hown hgrow hat
        have HT := Lib.hid ((HT.out.swap.growA HLENS.out.2.1 hown hgrow hat).swap)
        clear hown hgrow hat
        refine hK.out _ _ (fun _ => HSS.out _ HT.out.below) ?_
        clear hK K
        try simp only [Act.put, List.getElem_toArray, List.getElem_cons_zero, List.getElem_cons_succ, List.setIfInBounds_toArray, List.set_cons_zero, List.set_cons_succ]
        obtain ⟨BA, CA, rfl, _⟩ := own_slice (HT.out.a rfl)
        obtain ⟨BB, CB, rfl, _⟩ := own_slice (HT.out.b rfl)
        refine wpAnyU_pure (i := 8) (v := ?v21) rfl (by kernel_rfl) (by kernel_rfl) (by kernel_rfl) (by kernel_rfl) (fun _ _ _ h => h) (Or.inl ⟨by rfl, fun V _ => ?h21⟩) (fun _ => HSS.out _ HT.out.below) ?r21
        case h21 => go_simp; try with_reducible rfl
        try simp only [Act.put, List.getElem_toArray, List.getElem_cons_zero, List.getElem_cons_succ, List.setIfInBounds_toArray, List.set_cons_zero, List.set_cons_succ]
        refine wpAnyU_ready (rs := [9]) (by kernel_rfl) (by simp) (AllU.cons (i := 9) rfl (fun K hK => ?e9x8) AllU.nil)
        case e9x8 =>
         simp only [List.getElem_toArray, List.getElem_cons_zero, List.getElem_cons_succ]
         go_simp
         refine hK.out _ _ (fun _ => HSS.out _ (HT.out.mkC).below) ?_
         clear hK K
         try simp only [Act.put, List.getElem_toArray, List.getElem_cons_zero, List.getElem_cons_succ, List.setIfInBounds_toArray, List.set_cons_zero, List.set_cons_succ]
         have HT := Lib.hid (HT.out.mkC)
         obtain ⟨W22, hW22⟩ : ∃ W22, World.alloc W20 (.cells #[.slice none 0 0, .slice none 0 0, .slice none 0 0] 25) = W22 := ⟨_, rfl⟩
         rw [hW22] at HT ⊢
         clear hW22
         obtain ⟨hc0, hc1⟩ := HT.out.c rfl
         have n0 := cell_of_heap hc0 0
         have n1 := cell_of_heap hc0 1
         have n2 := cell_of_heap hc0 2
         have z0 := frozen_of_heap hc0 0
         have z1 := frozen_of_heap hc0 1
         have z2 := frozen_of_heap hc0 2
         have HC1 := Lib.hid hc1
         clear hc0 hc1
         refine wpAnyU_ready (rs := [10]) (by kernel_rfl) (by simp) (AllU.cons (i := 10) rfl (fun K hK => ?_) AllU.nil)
         simp only [List.getElem_toArray, List.getElem_cons_zero, List.getElem_cons_succ]
         go_simp
         refine hK.out _ _ (fun h => by have h2 : false = true := h; cases h2) ?_
         clear hK K
         try simp only [Act.put, List.getElem_toArray, List.getElem_cons_zero, List.getElem_cons_succ, List.setIfInBounds_toArray, List.set_cons_zero, List.set_cons_succ]
         refine wpAnyU_done (by kernel_rfl) ?_ _
         go_wp2_with fail
         go_meet
         case rel => exact ⟨_, rfl, HC1.out, HT.out.done _ rfl, (((HT.out.below.setCell (by exact HC1.out) _).setCell (by exact HC1.out) _).setCell (by exact HC1.out) _), set_le (set_le (set_le HT.out.size _ _) _ _) _ _⟩
       case e9x7 =>
        simp only [List.getElem_toArray, List.getElem_cons_zero, List.getElem_cons_succ]
        go_simp
        refine hK.out _ _ (fun _ => HSS.out _ (HT.out.mkC).below) ?_
        clear hK K
        try simp only [Act.put, List.getElem_toArray, List.getElem_cons_zero, List.getElem_cons_succ, List.setIfInBounds_toArray, List.set_cons_zero, List.set_cons_succ]
        have HT := Lib.hid (HT.out.mkC)
        obtain ⟨W23, hW23⟩ : ∃ W23, World.alloc W19 (.cells #[.slice none 0 0, .slice none 0 0, .slice none 0 0] 25) = W23 := ⟨_, rfl⟩
        rw [hW23] at HT ⊢
        clear hW23
        refine wpAnyU_ready (rs := [7]) (by kernel_rfl) (by simp) (AllU.cons (i := 7) rfl (fun K hK => ?e7x8) AllU.nil)
        case e7x8 =>
         refine step_append_ints _ (by rfl) _ _ _ (by rfl) w1.heap.size 3 i0 _ Try.underlying22 hi hi0 hi1 hi2 rfl (.slice (some ⟨W5.heap.size, 0, none⟩) 0 0) 0 [] (by rfl) (HT.out.b rfl) p _ d G.P (by rfl) (HO2.out _ HT.out.below) (by omega) HT.out.size ?_
         intro v24 W24 hown hgrow hat
         have HT := Lib.hid ((HT.out.swap.growA HLENS.out.2.1 hown hgrow hat).swap)
         clear hown hgrow hat
         refine hK.out _ _ (fun _ => HSS.out _ HT.out.below) ?_
         clear hK K
         try simp only [Act.put, List.getElem_toArray, List.getElem_cons_zero, List.getElem_cons_succ, List.setIfInBounds_toArray, List.set_cons_zero, List.set_cons_succ]
         obtain ⟨BA, CA, rfl, _⟩ := own_slice (HT.out.a rfl)
         obtain ⟨BB, CB, rfl, _⟩ := own_slice (HT.out.b rfl)
         refine wpAnyU_pure (i := 8) (v := ?v25) rfl (by kernel_rfl) (by kernel_rfl) (by kernel_rfl) (by kernel_rfl) (fun _ _ _ h => h) (Or.inl ⟨by rfl, fun V _ => ?h25⟩) (fun _ => HSS.out _ HT.out.below) ?r25
         case h25 => go_simp; try with_reducible rfl
         try simp only [Act.put, List.getElem_toArray, List.getElem_cons_zero, List.getElem_cons_succ, List.setIfInBounds_toArray, List.set_cons_zero, List.set_cons_succ]
         obtain ⟨hc0, hc1⟩ := HT.out.c rfl
         have n0 := cell_of_heap hc0 0
         have n1 := cell_of_heap hc0 1
         have n2 := cell_of_heap hc0 2
         have z0 := frozen_of_heap hc0 0
         have z1 := frozen_of_heap hc0 1
         have z2 := frozen_of_heap hc0 2
         have HC1 := Lib.hid hc1
         clear hc0 hc1
         refine wpAnyU_ready (rs := [10]) (by kernel_rfl) (by simp) (AllU.cons (i := 10) rfl (fun K hK => ?_) AllU.nil)
         simp only [List.getElem_toArray, List.getElem_cons_zero, List.getElem_cons_succ]
         go_simp
         refine hK.out _ _ (fun h => by have h2 : false = true := h; cases h2) ?_
         clear hK K
         try simp only [Act.put, List.getElem_toArray, List.getElem_cons_zero, List.getElem_cons_succ, List.setIfInBounds_toArray, List.set_cons_zero, List.set_cons_succ]
         refine wpAnyU_done (by kernel_rfl) ?_ _
         go_wp2_with fail
         go_meet
         case rel => exact ⟨_, rfl, HC1.out, HT.out.done _ rfl, (((HT.out.below.setCell (by exact HC1.out) _).setCell (by exact HC1.out) _).setCell (by exact HC1.out) _), set_le (set_le (set_le HT.out.size _ _) _ _) _ _⟩
      case e9x6 =>
       simp only [List.getElem_toArray, List.getElem_cons_zero, List.getElem_cons_succ]
       go_simp
       refine hK.out _ _ (fun _ => HSS.out _ (HT.out.mkC).below) ?_
       clear hK K
       try simp only [Act.put, List.getElem_toArray, List.getElem_cons_zero, List.getElem_cons_succ, List.setIfInBounds_toArray, List.set_cons_zero, List.set_cons_succ]
       have HT := Lib.hid (HT.out.mkC)
       obtain ⟨W26, hW26⟩ : ∃ W26, World.alloc W18 (.cells #[.slice none 0 0, .slice none 0 0, .slice none 0 0] 25) = W26 := ⟨_, rfl⟩
       rw [hW26] at HT ⊢
       clear hW26
       refine wpAnyU_ready (rs := [3]) (by kernel_rfl) (by simp) (AllU.cons (i := 3) rfl (fun K hK => ?e3x7) AllU.nil)
       case e3x7 =>
        refine step_append_ints _ (by rfl) _ _ _ (by rfl) w1.heap.size 3 i0 _ Try.underlying22 hi hi0 hi1 hi2 rfl (.slice (some ⟨W0.heap.size, 0, none⟩) 0 0) 0 [] (by rfl) (HT.out.a rfl) a _ c G.O (by rfl) (HO1.out _ HT.out.below) (by omega) HT.out.size ?_
        intro v27 W27 hown hgrow hat
        have HT := Lib.hid ((HT.out.growA HLENS.out.1 hown hgrow hat))
        clear hown hgrow hat
        refine hK.out _ _ (fun _ => HSS.out _ HT.out.below) ?_
        clear hK K
        try simp only [Act.put, List.getElem_toArray, List.getElem_cons_zero, List.getElem_cons_succ, List.setIfInBounds_toArray, List.set_cons_zero, List.set_cons_succ]
        refine wpAnyU_ready (rs := [7]) (by kernel_rfl) (by simp) (AllU.cons (i := 7) rfl (fun K hK => ?e7x8) AllU.nil)
        case e7x8 =>
         refine step_append_ints _ (by rfl) _ _ _ (by rfl) w1.heap.size 3 i0 _ Try.underlying22 hi hi0 hi1 hi2 rfl (.slice (some ⟨W5.heap.size, 0, none⟩) 0 0) 0 [] (by rfl) (HT.out.b rfl) p _ d G.P (by rfl) (HO2.out _ HT.out.below) (by omega) HT.out.size ?_
         intro v28 W28 hown hgrow hat
         have HT := Lib.hid ((HT.out.swap.growA HLENS.out.2.1 hown hgrow hat).swap)
         clear hown hgrow hat
         refine hK.out _ _ (fun _ => HSS.out _ HT.out.below) ?_
         clear hK K
         try simp only [Act.put, List.getElem_toArray, List.getElem_cons_zero, List.getElem_cons_succ, List.setIfInBounds_toArray, List.set_cons_zero, List.set_cons_succ]
         obtain ⟨BA, CA, rfl, _⟩ := own_slice (HT.out.a rfl)
         obtain ⟨BB, CB, rfl, _⟩ := own_slice (HT.out.b rfl)
         refine wpAnyU_pure (i := 8) (v := ?v29) rfl (by kernel_rfl) (by kernel_rfl) (by kernel_rfl) (by kernel_rfl) (fun _ _ _ h => h) (Or.inl ⟨by rfl, fun V _ => ?h29⟩) (fun _ => HSS.out _ HT.out.below) ?r29
         case h29 => go_simp; try with_reducible rfl
         try simp only [Act.put, List.getElem_toArray, List.getElem_cons_zero, List.getElem_cons_succ, List.setIfInBounds_toArray, List.set_cons_zero, List.set_cons_succ]
         obtain ⟨hc0, hc1⟩ := HT.out.c rfl
         have n0 := cell_of_heap hc0 0
         have n1 := cell_of_heap hc0 1
         have n2 := cell_of_heap hc0 2
         have z0 := frozen_of_heap hc0 0
         have z1 := frozen_of_heap hc0 1
         have z2 := frozen_of_heap hc0 2
         have HC1 := Lib.hid hc1
         clear hc0 hc1
         refine wpAnyU_ready (rs := [10]) (by kernel_rfl) (by simp) (AllU.cons (i := 10) rfl (fun K hK => ?_) AllU.nil)
         simp only [List.getElem_toArray, List.getElem_cons_zero, List.getElem_cons_succ]
         go_simp
         refine hK.out _ _ (fun h => by have h2 : false = true := h; cases h2) ?_
         clear hK K
         try simp only [Act.put, List.getElem_toArray, List.getElem_cons_zero, List.getElem_cons_succ, List.setIfInBounds_toArray, List.set_cons_zero, List.set_cons_succ]
         refine wpAnyU_done (by kernel_rfl) ?_ _
         go_wp2_with fail
         go_meet
         case rel => exact ⟨_, rfl, HC1.out, HT.out.done _ rfl, (((HT.out.below.setCell (by exact HC1.out) _).setCell (by exact HC1.out) _).setCell (by exact HC1.out) _), set_le (set_le (set_le HT.out.size _ _) _ _) _ _⟩
     case e9x5 =>
      simp only [List.getElem_toArray, List.getElem_cons_zero, List.getElem_cons_succ]
      go_simp
      refine hK.out _ _ (fun _ => HSS.out _ (HT.out.mkC).below) ?_
      clear hK K
      try simp only [Act.put, List.getElem_toArray, List.getElem_cons_zero, List.getElem_cons_succ, List.setIfInBounds_toArray, List.set_cons_zero, List.set_cons_succ]
      have HT := Lib.hid (HT.out.mkC)
      obtain ⟨W30, hW30⟩ : ∃ W30, World.alloc W5 (.cells #[.slice none 0 0, .slice none 0 0, .slice none 0 0] 25) = W30 := ⟨_, rfl⟩
      rw [hW30] at HT ⊢
      clear hW30
      refine wpAnyU_ready (rs := [3, 4]) (by kernel_rfl) (by simp) (AllU.cons (i := 3) rfl (fun K hK => ?e3x6) (AllU.cons (i := 4) rfl (fun K hK => ?e4x6) AllU.nil))
      case e3x6 =>
       refine step_append_ints _ (by rfl) _ _ _ (by rfl) w1.heap.size 3 i0 _ Try.underlying22 hi hi0 hi1 hi2 rfl (.slice (some ⟨W0.heap.size, 0, none⟩) 0 0) 0 [] (by rfl) (HT.out.a rfl) a _ c G.O (by rfl) (HO1.out _ HT.out.below) (by omega) HT.out.size ?_
       intro v31 W31 hown hgrow hat
       have HT := Lib.hid ((HT.out.growA HLENS.out.1 hown hgrow hat))
       clear hown hgrow hat
       refine hK.out _ _ (fun _ => HSS.out _ HT.out.below) ?_
       clear hK K
       try simp only [Act.put, List.getElem_toArray, List.getElem_cons_zero, List.getElem_cons_succ, List.setIfInBounds_toArray, List.set_cons_zero, List.set_cons_succ]
       refine wpAnyU_ready (rs := [4]) (by kernel_rfl) (by simp) (AllU.cons (i := 4) rfl (fun K hK => ?e4x7) AllU.nil)
       case e4x7 =>
        simp only [List.getElem_toArray, List.getElem_cons_zero, List.getElem_cons_succ]
        go_simp
        refine hK.out _ _ (fun _ => HSS.out _ (HT.out.swap.mkA.swap).below) ?_
        clear hK K
        try simp only [Act.put, List.getElem_toArray, List.getElem_cons_zero, List.getElem_cons_succ, List.setIfInBounds_toArray, List.set_cons_zero, List.set_cons_succ]
        have HT := Lib.hid (HT.out.swap.mkA.swap)
        obtain ⟨W32, hW32⟩ : ∃ W32, World.alloc W31 (.cells #[] 3) = W32 := ⟨_, rfl⟩
        rw [hW32] at HT ⊢
        clear hW32
        refine wpAnyU_ready (rs := [7]) (by kernel_rfl) (by simp) (AllU.cons (i := 7) rfl (fun K hK => ?e7x8) AllU.nil)
        case e7x8 =>
         refine step_append_ints _ (by rfl) _ _ _ (by rfl) w1.heap.size 3 i0 _ Try.underlying22 hi hi0 hi1 hi2 rfl (.slice (some ⟨W31.heap.size, 0, none⟩) 0 0) 0 [] (by rfl) (HT.out.b rfl) p _ d G.P (by rfl) (HO2.out _ HT.out.below) (by omega) HT.out.size ?_
         intro v33 W33 hown hgrow hat
         have HT := Lib.hid ((HT.out.swap.growA HLENS.out.2.1 hown hgrow hat).swap)
         clear hown hgrow hat
         refine hK.out _ _ (fun _ => HSS.out _ HT.out.below) ?_
         clear hK K
         try simp only [Act.put, List.getElem_toArray, List.getElem_cons_zero, List.getElem_cons_succ, List.setIfInBounds_toArray, List.set_cons_zero, List.set_cons_succ]
         obtain ⟨BA, CA, rfl, _⟩ := own_slice (HT.out.a rfl)
         obtain ⟨BB, CB, rfl, _⟩ := own_slice (HT.out.b rfl)
         refine wpAnyU_pure (i := 8) (v := ?v34) rfl (by kernel_rfl) (by kernel_rfl) (by kernel_rfl) (by kernel_rfl) (fun _ _ _ h => h) (Or.inl ⟨by rfl, fun V _ => ?h34⟩) (fun _ => HSS.out _ HT.out.below) ?r34
         case h34 => go_simp; try with_reducible rfl
         try simp only [Act.put, List.getElem_toArray, List.getElem_cons_zero, List.getElem_cons_succ, List.setIfInBounds_toArray, List.set_cons_zero, List.set_cons_succ]
         obtain ⟨hc0, hc1⟩ := HT.out.c rfl
         have n0 := cell_of_heap hc0 0
         have n1 := cell_of_heap hc0 1
         have n2 := cell_of_heap hc0 2
         have z0 := frozen_of_heap hc0 0
         have z1 := frozen_of_heap hc0 1
         have z2 := frozen_of_heap hc0 2
         have HC1 := Lib.hid hc1
         clear hc0 hc1
         refine wpAnyU_ready (rs := [10]) (by kernel_rfl) (by simp) (AllU.cons (i := 10) rfl (fun K hK => ?_) AllU.nil)
         simp only [List.getElem_toArray, List.getElem_cons_zero, List.getElem_cons_succ]
         go_simp
         refine hK.out _ _ (fun h => by have h2 : false = true := h; cases h2) ?_
         clear hK K
         try simp only [Act.put, List.getElem_toArray, List.getElem_cons_zero, List.getElem_cons_succ, List.setIfInBounds_toArray, List.set_cons_zero, List.set_cons_succ]
         refine wpAnyU_done (by kernel_rfl) ?_ _
         go_wp2_with fail
         go_meet
         case rel => exact ⟨_, rfl, HC1.out, HT.out.done _ rfl, (((HT.out.below.setCell (by exact HC1.out) _).setCell (by exact HC1.out) _).setCell (by exact HC1.out) _), set_le (set_le (set_le HT.out.size _ _) _ _) _ _⟩
      case e4x6 =>
       simp only [List.getElem_toArray, List.getElem_cons_zero, List.getElem_cons_succ]
       go_simp
       refine hK.out _ _ (fun _ => HSS.out _ (HT.out.swap.mkA.swap).below) ?_
       clear hK K
       try simp only [Act.put, List.getElem_toArray, List.getElem_cons_zero, List.getElem_cons_succ, List.setIfInBounds_toArray, List.set_cons_zero, List.set_cons_succ]
       have HT := Lib.hid (HT.out.swap.mkA.swap)
       obtain ⟨W35, hW35⟩ : ∃ W35, World.alloc W30 (.cells #[] 3) = W35 := ⟨_, rfl⟩
       rw [hW35] at HT ⊢
       clear hW35
       refine wpAnyU_ready (rs := [3]) (by kernel_rfl) (by simp) (AllU.cons (i := 3) rfl (fun K hK => ?e3x7) AllU.nil)
       case e3x7 =>
        refine step_append_ints _ (by rfl) _ _ _ (by rfl) w1.heap.size 3 i0 _ Try.underlying22 hi hi0 hi1 hi2 rfl (.slice (some ⟨W0.heap.size, 0, none⟩) 0 0) 0 [] (by rfl) (HT.out.a rfl) a _ c G.O (by rfl) (HO1.out _ HT.out.below) (by omega) HT.out.size ?_
        intro v36 W36 hown hgrow hat
        have HT := Lib.hid ((HT.out.growA HLENS.out.1 hown hgrow hat))
        clear hown hgrow hat
        refine hK.out _ _ (fun _ => HSS.out _ HT.out.below) ?_
        clear hK K
        try simp only [Act.put, List.getElem_toArray, List.getElem_cons_zero, List.getElem_cons_succ, List.setIfInBounds_toArray, List.set_cons_zero, List.set_cons_succ]
        refine wpAnyU_ready (rs := [7]) (by kernel_rfl) (by simp) (AllU.cons (i := 7) rfl (fun K hK => ?e7x8) AllU.nil)
        case e7x8 =>
         refine step_append_ints _ (by rfl) _ _ _ (by rfl) w1.heap.size 3 i0 _ Try.underlying22 hi hi0 hi1 hi2 rfl (.slice (some ⟨W30.heap.size, 0, none⟩) 0 0) 0 [] (by rfl) (HT.out.b rfl) p _ d G.P (by rfl) (HO2.out _ HT.out.below) (by omega) HT.out.size ?_
         intro v37 W37 hown hgrow hat
         have HT := Lib.hid ((HT.out.swap.growA HLENS.out.2.1 hown hgrow hat).swap)
         clear hown hgrow hat
         refine hK.out _ _ (fun _ => HSS.out _ HT.out.below) ?_
         clear hK K
         try simp only [Act.put, List.getElem_toArray, List.getElem_cons_zero, List.getElem_cons_succ, List.setIfInBounds_toArray, List.set_cons_zero, List.set_cons_succ]
         obtain ⟨BA, CA, rfl, _⟩ := own_slice (HT.out.a rfl)
         obtain ⟨BB, CB, rfl, _⟩ := own_slice (HT.out.b rfl)
         refine wpAnyU_pure (i := 8) (v := ?v38) rfl (by kernel_rfl) (by kernel_rfl) (by kernel_rfl) (by kernel_rfl) (fun _ _ _ h => h) (Or.inl ⟨by rfl, fun V _ => ?h38⟩) (fun _ => HSS.out _ HT.out.below) ?r38
         case h38 => go_simp; try with_reducible rfl
         try simp only [Act.put, List.getElem_toArray, List.getElem_cons_zero, List.getElem_cons_succ, List.setIfInBounds_toArray, List.set_cons_zero, List.set_cons_succ]
         obtain ⟨hc0, hc1⟩ := HT.out.c rfl
         have n0 := cell_of_heap hc0 0
         have n1 := cell_of_heap hc0 1
         have n2 := cell_of_heap hc0 2
         have z0 := frozen_of_heap hc0 0
         have z1 := frozen_of_heap hc0 1
         have z2 := frozen_of_heap hc0 2
         have HC1 := Lib.hid hc1
         clear hc0 hc1
         refine wpAnyU_ready (rs := [10]) (by kernel_rfl) (by simp) (AllU.cons (i := 10) rfl (fun K hK => ?_) AllU.nil)
         simp only [List.getElem_toArray, List.getElem_cons_zero, List.getElem_cons_succ]
         go_simp
         refine hK.out _ _ (fun h => by have h2 : false = true := h; cases h2) ?_
         clear hK K
         try simp only [Act.put, List.getElem_toArray, List.getElem_cons_zero, List.getElem_cons_succ, List.setIfInBounds_toArray, List.set_cons_zero, List.set_cons_succ]
         refine wpAnyU_done (by kernel_rfl) ?_ _
         go_wp2_with fail
         go_meet
         case rel => exact ⟨_, rfl, HC1.out, HT.out.done _ rfl, (((HT.out.below.setCell (by exact HC1.out) _).setCell (by exact HC1.out) _).setCell (by exact HC1.out) _), set_le (set_le (set_le HT.out.size _ _) _ _) _ _⟩
    case e4x4 =>
     simp only [List.getElem_toArray, List.getElem_cons_zero, List.getElem_cons_succ]
     go_simp
     refine hK.out _ _ (fun _ => HSS.out _ (HT.out.swap.mkA.swap).below) ?_
     clear hK K
     try simp only [Act.put, List.getElem_toArray, List.getElem_cons_zero, List.getElem_cons_succ, List.setIfInBounds_toArray, List.set_cons_zero, List.set_cons_succ]
     have HT := Lib.hid (HT.out.swap.mkA.swap)
     obtain ⟨W39, hW39⟩ : ∃ W39, World.alloc W0 (.cells #[] 3) = W39 := ⟨_, rfl⟩
     rw [hW39] at HT ⊢
     clear hW39
     refine wpAnyU_ready (rs := [0, 9]) (by kernel_rfl) (by simp) (AllU.cons (i := 0) rfl (fun K hK => ?e0x5) (AllU.cons (i := 9) rfl (fun K hK => ?e9x5) AllU.nil))
     case e0x5 =>
      simp only [List.getElem_toArray, List.getElem_cons_zero, List.getElem_cons_succ]
      go_simp
      refine hK.out _ _ (fun _ => HSS.out _ (HT.out.mkA).below) ?_
      clear hK K
      try simp only [Act.put, List.getElem_toArray, List.getElem_cons_zero, List.getElem_cons_succ, List.setIfInBounds_toArray, List.set_cons_zero, List.set_cons_succ]
      have HT := Lib.hid (HT.out.mkA)
      obtain ⟨W40, hW40⟩ : ∃ W40, World.alloc W39 (.cells #[] 3) = W40 := ⟨_, rfl⟩
      rw [hW40] at HT ⊢
      clear hW40
      refine wpAnyU_ready (rs := [3, 9]) (by kernel_rfl) (by simp) (AllU.cons (i := 3) rfl (fun K hK => ?e3x6) (AllU.cons (i := 9) rfl (fun K hK => ?e9x6) AllU.nil))
      case e3x6 =>
       refine step_append_ints _ (by rfl) _ _ _ (by rfl) w1.heap.size 3 i0 _ Try.underlying22 hi hi0 hi1 hi2 rfl (.slice (some ⟨W39.heap.size, 0, none⟩) 0 0) 0 [] (by rfl) (HT.out.a rfl) a _ c G.O (by rfl) (HO1.out _ HT.out.below) (by omega) HT.out.size ?_
       intro v41 W41 hown hgrow hat
       have HT := Lib.hid ((HT.out.growA HLENS.out.1 hown hgrow hat))
       clear hown hgrow hat
       refine hK.out _ _ (fun _ => HSS.out _ HT.out.below) ?_
       clear hK K
       try simp only [Act.put, List.getElem_toArray, List.getElem_cons_zero, List.getElem_cons_succ, List.setIfInBounds_toArray, List.set_cons_zero, List.set_cons_succ]
       refine wpAnyU_ready (rs := [7, 9]) (by kernel_rfl) (by simp) (AllU.cons (i := 7) rfl (fun K hK => ?e7x7) (AllU.cons (i := 9) rfl (fun K hK => ?e9x7) AllU.nil))
       case e7x7 =>
        refine step_append_ints _ (by rfl) _ _ _ (by rfl) w1.heap.size 3 i0 _ Try.underlying22 hi hi0 hi1 hi2 rfl (.slice (some ⟨W0.heap.size, 0, none⟩) 0 0) 0 [] (by rfl) (HT.out.b rfl) p _ d G.P (by rfl) (HO2.out _ HT.out.below) (by omega) HT.out.size ?_
        intro v42 W42 hown hgrow hat
        have HT := Lib.hid ((HT.out.swap.growA HLENS.out.2.1 hown hgrow hat).swap)
        clear hown hgrow hat
        refine hK.out _ _ (fun _ => HSS.out _ HT.out.below) ?_
        clear hK K
        try simp only [Act.put, List.getElem_toArray, List.getElem_cons_zero, List.getElem_cons_succ, List.setIfInBounds_toArray, List.set_cons_zero, List.set_cons_succ]
        obtain ⟨BA, CA, rfl, _⟩ := own_slice (HT.out.a rfl)
        obtain ⟨BB, CB, rfl, _⟩ := own_slice (HT.out.b rfl)
        refine wpAnyU_pure (i := 8) (v := ?v43) rfl (by kernel_rfl) (by kernel_rfl) (by kernel_rfl) (by kernel_rfl) (fun _ _ _ h => h) (Or.inl ⟨by rfl, fun V _ => ?h43⟩) (fun _ => HSS.out _ HT.out.below) ?r43
        case h43 => go_simp; try with_reducible rfl
        try simp only [Act.put, List.getElem_toArray, List.getElem_cons_zero, List.getElem_cons_succ, List.setIfInBounds_toArray, List.set_cons_zero, List.set_cons_succ]
        refine wpAnyU_ready (rs := [9]) (by kernel_rfl) (by simp) (AllU.cons (i := 9) rfl (fun K hK => ?e9x8) AllU.nil)
        case e9x8 =>
         simp only [List.getElem_toArray, List.getElem_cons_zero, List.getElem_cons_succ]
         go_simp
         refine hK.out _ _ (fun _ => HSS.out _ (HT.out.mkC).below) ?_
         clear hK K
         try simp only [Act.put, List.getElem_toArray, List.getElem_cons_zero, List.getElem_cons_succ, List.setIfInBounds_toArray, List.set_cons_zero, List.set_cons_succ]
         have HT := Lib.hid (HT.out.mkC)
         obtain ⟨W44, hW44⟩ : ∃ W44, World.alloc W42 (.cells #[.slice none 0 0, .slice none 0 0, .slice none 0 0] 25) = W44 := ⟨_, rfl⟩
         rw [hW44] at HT ⊢
         clear hW44
         obtain ⟨hc0, hc1⟩ := HT.out.c rfl
         have n0 := cell_of_heap hc0 0
         have n1 := cell_of_heap hc0 1
         have n2 := cell_of_heap hc0 2
         have z0 := frozen_of_heap hc0 0
         have z1 := frozen_of_heap hc0 1
         have z2 := frozen_of_heap hc0 2
         have HC1 := Lib.hid hc1
         clear hc0 hc1
         refine wpAnyU_ready (rs := [10]) (by kernel_rfl) (by simp) (AllU.cons (i := 10) rfl (fun K hK => ?_) AllU.nil)
         simp only [List.getElem_toArray, List.getElem_cons_zero, List.getElem_cons_succ]
         go_simp
         refine hK.out _ _ (fun h => by have h2 : false = true := h; cases h2) ?_
         clear hK K
         try simp only [Act.put, List.getElem_toArray, List.getElem_cons_zero, List.getElem_cons_succ, List.setIfInBounds_toArray, List.set_cons_zero, List.set_cons_succ]
         refine wpAnyU_done (by kernel_rfl) ?_ _
         go_wp2_with fail
         go_meet
         case rel => exact ⟨_, rfl, HC1.out, HT.out.done _ rfl, (((HT.out.below.setCell (by exact HC1.out) _).setCell (by exact HC1.out) _).setCell (by exact HC1.out) _), set_le (set_le (set_le HT.out.size _ _) _ _) _ _⟩
       case e9x7 =>
        simp only [List.getElem_toArray, List.getElem_cons_zero, List.getElem_cons_succ]
        go_simp
        refine hK.out _ _ (fun _ => HSS.out _ (HT.out.mkC).below) ?_
        clear hK K
        try simp only [Act.put, List.getElem_toArray, List.getElem_cons_zero, List.getElem_cons_succ, List.setIfInBounds_toArray, List.set_cons_zero, List.set_cons_succ]
        have HT := Lib.hid (HT.out.mkC)
        obtain ⟨W45, hW45⟩ : ∃ W45, World.alloc W41 (.cells #[.slice none 0 0, .slice none 0 0, .slice none 0 0] 25) = W45 := ⟨_, rfl⟩
        rw [hW45] at HT ⊢
        clear hW45
        refine wpAnyU_ready (rs := [7]) (by kernel_rfl) (by simp) (AllU.cons (i := 7) rfl (fun K hK => ?e7x8) AllU.nil)
        case e7x8 =>
         refine step_append_ints _ (by rfl) _ _ _ (by rfl) w1.heap.size 3 i0 _ Try.underlying22 hi hi0 hi1 hi2 rfl (.slice (some ⟨W0.heap.size, 0, none⟩) 0 0) 0 [] (by rfl) (HT.out.b rfl) p _ d G.P (by rfl) (HO2.out _ HT.out.below) (by omega) HT.out.size ?_
         intro v46 W46 hown hgrow hat
         have HT := Lib.hid ((HT.out.swap.growA HLENS.out.2.1 hown hgrow hat).swap)
         clear hown hgrow hat
         refine hK.out _ _ (fun _ => HSS.out _ HT.out.below) ?_
         clear hK K
         try simp only [Act.put, List.getElem_toArray, List.getElem_cons_zero, List.getElem_cons_succ, List.setIfInBounds_toArray, List.set_cons_zero, List.set_cons_succ]
         obtain ⟨BA, CA, rfl, _⟩ := own_slice (HT.out.a rfl)
         obtain ⟨BB, CB, rfl, _⟩ := own_slice (HT.out.b rfl)
         refine wpAnyU_pure (i := 8) (v := ?v47) rfl (by kernel_rfl) (by kernel_rfl) (by kernel_rfl) (by kernel_rfl) (fun _ _ _ h => h) (Or.inl ⟨by rfl, fun V _ => ?h47⟩) (fun _ => HSS.out _ HT.out.below) ?r47
         case h47 => go_simp; try with_reducible rfl
         try simp only [Act.put, List.getElem_toArray, List.getElem_cons_zero, List.getElem_cons_succ, List.setIfInBounds_toArray, List.set_cons_zero, List.set_cons_succ]
         obtain ⟨hc0, hc1⟩ := HT.out.c rfl
         have n0 := cell_of_heap hc0 0
         have n1 := cell_of_heap hc0 1
         have n2 := cell_of_heap hc0 2
         have z0 := frozen_of_heap hc0 0
         have z1 := frozen_of_heap hc0 1
         have z2 := frozen_of_heap hc0 2
         have HC1 := Lib.hid hc1
         clear hc0 hc1
         refine wpAnyU_ready (rs := [10]) (by kernel_rfl) (by simp) (AllU.cons (i := 10) rfl (fun K hK => ?_) AllU.nil)
         simp only [List.getElem_toArray, List.getElem_cons_zero, List.getElem_cons_succ]
         go_simp
         refine hK.out _ _ (fun h => by have h2 : false = true := h; cases h2) ?_
         clear hK K
         try simp only [Act.put, List.getElem_toArray, List.getElem_cons_zero, List.getElem_cons_succ, List.setIfInBounds_toArray, List.set_cons_zero, List.set_cons_succ]
         refine wpAnyU_done (by kernel_rfl) ?_ _
         go_wp2_with fail
         go_meet
         case rel => exact ⟨_, rfl, HC1.out, HT.out.done _ rfl, (((HT.out.below.setCell (by exact HC1.out) _).setCell (by exact HC1.out) _).setCell (by exact HC1.out) _), set_le (set_le (set_le HT.out.size _ _) _ _) _ _⟩
      case e9x6 =>
       simp only [List.getElem_toArray, List.getElem_cons_zero, List.getElem_cons_succ]
       go_simp
       refine hK.out _ _ (fun _ => HSS.out _ (HT.out.mkC).below) ?_
       clear hK K
       try simp only [Act.put, List.getElem_toArray, List.getElem_cons_zero, List.getElem_cons_succ, List.setIfInBounds_toArray, List.set_cons_zero, List.set_cons_succ]
       have HT := Lib.hid (HT.out.mkC)
       obtain ⟨W48, hW48⟩ : ∃ W48, World.alloc W40 (.cells #[.slice none 0 0, .slice none 0 0, .slice none 0 0] 25) = W48 := ⟨_, rfl⟩
       rw [hW48] at HT ⊢
       clear hW48
       refine wpAnyU_ready (rs := [3]) (by kernel_rfl) (by simp) (AllU.cons (i := 3) rfl (fun K hK => ?e3x7) AllU.nil)
       case e3x7 =>
        refine step_append_ints _ (by rfl) _ _ _ (by rfl) w1.heap.size 3 i0 _ Try.underlying22 hi hi0 hi1 hi2 rfl (.slice (some ⟨W39.heap.size, 0, none⟩) 0 0) 0 [] (by rfl) (HT.out.a rfl) a _ c G.O (by rfl) (HO1.out _ HT.out.below) (by omega) HT.out.size ?_
        intro v49 W49 hown hgrow hat
        have HT := Lib.hid ((HT.out.growA HLENS.out.1 hown hgrow hat))
        clear hown hgrow hat
        refine hK.out _ _ (fun _ => HSS.out _ HT.out.below) ?_
        clear hK K
        try simp only [Act.put, List.getElem_toArray, List.getElem_cons_zero, List.getElem_cons_succ, List.setIfInBounds_toArray, List.set_cons_zero, List.set_cons_succ]
        refine wpAnyU_ready (rs := [7]) (by kernel_rfl) (by simp) (AllU.cons (i := 7) rfl (fun K hK => ?e7x8) AllU.nil)
        case e7x8 =>
         refine step_append_ints _ (by rfl) _ _ _ (by rfl) w1.heap.size 3 i0 _ Try.underlying22 hi hi0 hi1 hi2 rfl (.slice (some ⟨W0.heap.size, 0, none⟩) 0 0) 0 [] (by rfl) (HT.out.b rfl) p _ d G.P (by rfl) (HO2.out _ HT.out.below) (by omega) HT.out.size ?_
         intro v50 W50 hown hgrow hat
         have HT := Lib.hid ((HT.out.swap.growA HLENS.out.2.1 hown hgrow hat).swap)
         clear hown hgrow hat
         refine hK.out _ _ (fun _ => HSS.out _ HT.out.below) ?_
         clear hK K
         try simp only [Act.put, List.getElem_toArray, List.getElem_cons_zero, List.getElem_cons_succ, List.setIfInBounds_toArray, List.set_cons_zero, List.set_cons_succ]
         obtain ⟨BA, CA, rfl, _⟩ := own_slice (HT.out.a rfl)
         obtain ⟨BB, CB, rfl, _⟩ := own_slice (HT.out.b rfl)
         refine wpAnyU_pure (i := 8) (v := ?v51) rfl (by kernel_rfl) (by kernel_rfl) (by kernel_rfl) (by kernel_rfl) (fun _ _ _ h => h) (Or.inl ⟨by rfl, fun V _ => ?h51⟩) (fun _ => HSS.out _ HT.out.below) ?r51
         case h51 => go_simp; try with_reducible rfl
         try simp only [Act.put, List.getElem_toArray, List.getElem_cons_zero, List.getElem_cons_succ, List.setIfInBounds_toArray, List.set_cons_zero, List.set_cons_succ]
         obtain ⟨hc0, hc1⟩ := HT.out.c rfl
         have n0 := cell_of_heap hc0 0
         have n1 := cell_of_heap hc0 1
         have n2 := cell_of_heap hc0 2
         have z0 := frozen_of_heap hc0 0
         have z1 := frozen_of_heap hc0 1
         have z2 := frozen_of_heap hc0 2
         have HC1 := Lib.hid hc1
         clear hc0 hc1
         refine wpAnyU_ready (rs := [10]) (by kernel_rfl) (by simp) (AllU.cons (i := 10) rfl (fun K hK => ?_) AllU.nil)
         simp only [List.getElem_toArray, List.getElem_cons_zero, List.getElem_cons_succ]
         go_simp
         refine hK.out _ _ (fun h => by have h2 : false = true := h; cases h2) ?_
         clear hK K
         try simp only [Act.put, List.getElem_toArray, List.getElem_cons_zero, List.getElem_cons_succ, List.setIfInBounds_toArray, List.set_cons_zero, List.set_cons_succ]
         refine wpAnyU_done (by kernel_rfl) ?_ _
         go_wp2_with fail
         go_meet
         case rel => exact ⟨_, rfl, HC1.out, HT.out.done _ rfl, (((HT.out.below.setCell (by exact HC1.out) _).setCell (by exact HC1.out) _).setCell (by exact HC1.out) _), set_le (set_le (set_le HT.out.size _ _) _ _) _ _⟩
     case e9x5 =>
      simp only [List.getElem_toArray, List.getElem_cons_zero, List.getElem_cons_succ]
      go_simp
      refine hK.out _ _ (fun _ => HSS.out _ (HT.out.mkC).below) ?_
      clear hK K
      try simp only [Act.put, List.getElem_toArray, List.getElem_cons_zero, List.getElem_cons_succ, List.setIfInBounds_toArray, List.set_cons_zero, List.set_cons_succ]
      have HT := Lib.hid (HT.out.mkC)
      obtain ⟨W52, hW52⟩ : ∃ W52, World.alloc W39 (.cells #[.slice none 0 0, .slice none 0 0, .slice none 0 0] 25) = W52 := ⟨_, rfl⟩
      rw [hW52] at HT ⊢
      clear hW52
      refine wpAnyU_ready (rs := [0]) (by kernel_rfl) (by simp) (AllU.cons (i := 0) rfl (fun K hK => ?e0x6) AllU.nil)
      case e0x6 =>
       simp only [List.getElem_toArray, List.getElem_cons_zero, List.getElem_cons_succ]
       go_simp
       refine hK.out _ _ (fun _ => HSS.out _ (HT.out.mkA).below) ?_
       clear hK K
       try simp only [Act.put, List.getElem_toArray, List.getElem_cons_zero, List.getElem_cons_succ, List.setIfInBounds_toArray, List.set_cons_zero, List.set_cons_succ]
       have HT := Lib.hid (HT.out.mkA)
       obtain ⟨W53, hW53⟩ : ∃ W53, World.alloc W52 (.cells #[] 3) = W53 := ⟨_, rfl⟩
       rw [hW53] at HT ⊢
       clear hW53
       refine wpAnyU_ready (rs := [3]) (by kernel_rfl) (by simp) (AllU.cons (i := 3) rfl (fun K hK => ?e3x7) AllU.nil)
       case e3x7 =>
        refine step_append_ints _ (by rfl) _ _ _ (by rfl) w1.heap.size 3 i0 _ Try.underlying22 hi hi0 hi1 hi2 rfl (.slice (some ⟨W52.heap.size, 0, none⟩) 0 0) 0 [] (by rfl) (HT.out.a rfl) a _ c G.O (by rfl) (HO1.out _ HT.out.below) (by omega) HT.out.size ?_
        intro v54 W54 hown hgrow hat
        have HT := Lib.hid ((HT.out.growA HLENS.out.1 hown hgrow hat))
        clear hown hgrow hat
        refine hK.out _ _ (fun _ => HSS.out _ HT.out.below) ?_
        clear hK K
        try simp only [Act.put, List.getElem_toArray, List.getElem_cons_zero, List.getElem_cons_succ, List.setIfInBounds_toArray, List.set_cons_zero, List.set_cons_succ]
        refine wpAnyU_ready (rs := [7]) (by kernel_rfl) (by simp) (AllU.cons (i := 7) rfl (fun K hK => ?e7x8) AllU.nil)
        case e7x8 =>
         refine step_append_ints _ (by rfl) _ _ _ (by rfl) w1.heap.size 3 i0 _ Try.underlying22 hi hi0 hi1 hi2 rfl (.slice (some ⟨W0.heap.size, 0, none⟩) 0 0) 0 [] (by rfl) (HT.out.b rfl) p _ d G.P (by rfl) (HO2.out _ HT.out.below) (by omega) HT.out.size ?_
         intro v55 W55 hown hgrow hat
         have HT := Lib.hid ((HT.out.swap.growA HLENS.out.2.1 hown hgrow hat).swap)
         clear hown hgrow hat
         refine hK.out _ _ (fun _ => HSS.out _ HT.out.below) ?_
         clear hK K
         try simp only [Act.put, List.getElem_toArray, List.getElem_cons_zero, List.getElem_cons_succ, List.setIfInBounds_toArray, List.set_cons_zero, List.set_cons_succ]
         obtain ⟨BA, CA, rfl, _⟩ := own_slice (HT.out.a rfl)
         obtain ⟨BB, CB, rfl, _⟩ := own_slice (HT.out.b rfl)
         refine wpAnyU_pure (i := 8) (v := ?v56) rfl (by kernel_rfl) (by kernel_rfl) (by kernel_rfl) (by kernel_rfl) (fun _ _ _ h => h) (Or.inl ⟨by rfl, fun V _ => ?h56⟩) (fun _ => HSS.out _ HT.out.below) ?r56
         case h56 => go_simp; try with_reducible rfl
         try simp only [Act.put, List.getElem_toArray, List.getElem_cons_zero, List.getElem_cons_succ, List.setIfInBounds_toArray, List.set_cons_zero, List.set_cons_succ]
         obtain ⟨hc0, hc1⟩ := HT.out.c rfl
         have n0 := cell_of_heap hc0 0
         have n1 := cell_of_heap hc0 1
         have n2 := cell_of_heap hc0 2
         have z0 := frozen_of_heap hc0 0
         have z1 := frozen_of_heap hc0 1
         have z2 := frozen_of_heap hc0 2
         have HC1 := Lib.hid hc1
         clear hc0 hc1
         refine wpAnyU_ready (rs := [10]) (by kernel_rfl) (by simp) (AllU.cons (i := 10) rfl (fun K hK => ?_) AllU.nil)
         simp only [List.getElem_toArray, List.getElem_cons_zero, List.getElem_cons_succ]
         go_simp
         refine hK.out _ _ (fun h => by have h2 : false = true := h; cases h2) ?_
         clear hK K
         try simp only [Act.put, List.getElem_toArray, List.getElem_cons_zero, List.getElem_cons_succ, List.setIfInBounds_toArray, List.set_cons_zero, List.set_cons_succ]
         refine wpAnyU_done (by kernel_rfl) ?_ _
         go_wp2_with fail
         go_meet
         case rel => exact ⟨_, rfl, HC1.out, HT.out.done _ rfl, (((HT.out.below.setCell (by exact HC1.out) _).setCell (by exact HC1.out) _).setCell (by exact HC1.out) _), set_le (set_le (set_le HT.out.size _ _) _ _) _ _⟩
    case e9x4 =>
     simp only [List.getElem_toArray, List.getElem_cons_zero, List.getElem_cons_succ]
     go_simp
     refine hK.out _ _ (fun _ => HSS.out _ (HT.out.mkC).below) ?_
     clear hK K
     try simp only [Act.put, List.getElem_toArray, List.getElem_cons_zero, List.getElem_cons_succ, List.setIfInBounds_toArray, List.set_cons_zero, List.set_cons_succ]
     have HT := Lib.hid (HT.out.mkC)
     obtain ⟨W57, hW57⟩ : ∃ W57, World.alloc W0 (.cells #[.slice none 0 0, .slice none 0 0, .slice none 0 0] 25) = W57 := ⟨_, rfl⟩
     rw [hW57] at HT ⊢
     clear hW57
     refine wpAnyU_ready (rs := [0, 4]) (by kernel_rfl) (by simp) (AllU.cons (i := 0) rfl (fun K hK => ?e0x5) (AllU.cons (i := 4) rfl (fun K hK => ?e4x5) AllU.nil))
     case e0x5 =>
      simp only [List.getElem_toArray, List.getElem_cons_zero, List.getElem_cons_succ]
      go_simp
      refine hK.out _ _ (fun _ => HSS.out _ (HT.out.mkA).below) ?_
      clear hK K
      try simp only [Act.put, List.getElem_toArray, List.getElem_cons_zero, List.getElem_cons_succ, List.setIfInBounds_toArray, List.set_cons_zero, List.set_cons_succ]
      have HT := Lib.hid (HT.out.mkA)
      obtain ⟨W58, hW58⟩ : ∃ W58, World.alloc W57 (.cells #[] 3) = W58 := ⟨_, rfl⟩
      rw [hW58] at HT ⊢
      clear hW58
      refine wpAnyU_ready (rs := [3, 4]) (by kernel_rfl) (by simp) (AllU.cons (i := 3) rfl (fun K hK => ?e3x6) (AllU.cons (i := 4) rfl (fun K hK => ?e4x6) AllU.nil))
      case e3x6 =>
       refine step_append_ints _ (by rfl) _ _ _ (by rfl) w1.heap.size 3 i0 _ Try.underlying22 hi hi0 hi1 hi2 rfl (.slice (some ⟨W57.heap.size, 0, none⟩) 0 0) 0 [] (by rfl) (HT.out.a rfl) a _ c G.O (by rfl) (HO1.out _ HT.out.below) (by omega) HT.out.size ?_
       intro v59 W59 hown hgrow hat
       have HT := Lib.hid ((HT.out.growA HLENS.out.1 hown hgrow hat))
       clear hown hgrow hat
       refine hK.out _ _ (fun _ => HSS.out _ HT.out.below) ?_
       clear hK K
       try simp only [Act.put, List.getElem_toArray, List.getElem_cons_zero, List.getElem_cons_succ, List.setIfInBounds_toArray, List.set_cons_zero, List.set_cons_succ]
       refine wpAnyU_ready (rs := [4]) (by kernel_rfl) (by simp) (AllU.cons (i := 4) rfl (fun K hK => ?e4x7) AllU.nil)
       case e4x7 =>
        simp only [List.getElem_toArray, List.getElem_cons_zero, List.getElem_cons_succ]
        go_simp
        refine hK.out _ _ (fun _ => HSS.out _ (HT.out.swap.mkA.swap).below) ?_
        clear hK K
        try simp only [Act.put, List.getElem_toArray, List.getElem_cons_zero, List.getElem_cons_succ, List.setIfInBounds_toArray, List.set_cons_zero, List.set_cons_succ]
        have HT := Lib.hid (HT.out.swap.mkA.swap)
        obtain ⟨W60, hW60⟩ : ∃ W60, World.alloc W59 (.cells #[] 3) = W60 := ⟨_, rfl⟩
        rw [hW60] at HT ⊢
        clear hW60
        refine wpAnyU_ready (rs := [7]) (by kernel_rfl) (by simp) (AllU.cons (i := 7) rfl (fun K hK => ?e7x8) AllU.nil)
        case e7x8 =>
         refine step_append_ints _ (by rfl) _ _ _ (by rfl) w1.heap.size 3 i0 _ Try.underlying22 hi hi0 hi1 hi2 rfl (.slice (some ⟨W59.heap.size, 0, none⟩) 0 0) 0 [] (by rfl) (HT.out.b rfl) p _ d G.P (by rfl) (HO2.out _ HT.out.below) (by omega) HT.out.size ?_
         intro v61 W61 hown hgrow hat
         have HT := Lib.hid ((HT.out.swap.growA HLENS.out.2.1 hown hgrow hat).swap)
         clear hown hgrow hat
         refine hK.out _ _ (fun _ => HSS.out _ HT.out.below) ?_
         clear hK K
         try simp only [Act.put, List.getElem_toArray, List.getElem_cons_zero, List.getElem_cons_succ, List.setIfInBounds_toArray, List.set_cons_zero, List.set_cons_succ]
         obtain ⟨BA, CA, rfl, _⟩ := own_slice (HT.out.a rfl)
         obtain ⟨BB, CB, rfl, _⟩ := own_slice (HT.out.b rfl)
         refine wpAnyU_pure (i := 8) (v := ?v62) rfl (by kernel_rfl) (by kernel_rfl) (by kernel_rfl) (by kernel_rfl) (fun _ _ _ h => h) (Or.inl ⟨by rfl, fun V _ => ?h62⟩) (fun _ => HSS.out _ HT.out.below) ?r62
         case h62 => go_simp; try with_reducible rfl
         try simp only [Act.put, List.getElem_toArray, List.getElem_cons_zero, List.getElem_cons_succ, List.setIfInBounds_toArray, List.set_cons_zero, List.set_cons_succ]
         obtain ⟨hc0, hc1⟩ := HT.out.c rfl
         have n0 := cell_of_heap hc0 0
         have n1 := cell_of_heap hc0 1
         have n2 := cell_of_heap hc0 2
         have z0 := frozen_of_heap hc0 0
         have z1 := frozen_of_heap hc0 1
         have z2 := frozen_of_heap hc0 2
         have HC1 := Lib.hid hc1
         clear hc0 hc1
         refine wpAnyU_ready (rs := [10]) (by kernel_rfl) (by simp) (AllU.cons (i := 10) rfl (fun K hK => ?_) AllU.nil)
         simp only [List.getElem_toArray, List.getElem_cons_zero, List.getElem_cons_succ]
         go_simp
         refine hK.out _ _ (fun h => by have h2 : false = true := h; cases h2) ?_
         clear hK K
         try simp only [Act.put, List.getElem_toArray, List.getElem_cons_zero, List.getElem_cons_succ, List.setIfInBounds_toArray, List.set_cons_zero, List.set_cons_succ]
         refine wpAnyU_done (by kernel_rfl) ?_ _
         go_wp2_with fail
         go_meet
         case rel => exact ⟨_, rfl, HC1.out, HT.out.done _ rfl, (((HT.out.below.setCell (by exact HC1.out) _).setCell (by exact HC1.out) _).setCell (by exact HC1.out) _), set_le (set_le (set_le HT.out.size _ _) _ _) _ _⟩
      case e4x6 =>
       simp only [List.getElem_toArray, List.getElem_cons_zero, List.getElem_cons_succ]
       go_simp
       refine hK.out _ _ (fun _ => HSS.out _ (HT.out.swap.mkA.swap).below) ?_
       clear hK K
       try simp only [Act.put, List.getElem_toArray, List.getElem_cons_zero, List.getElem_cons_succ, List.setIfInBounds_toArray, List.set_cons_zero, List.set_cons_succ]
       have HT := Lib.hid (HT.out.swap.mkA.swap)
       obtain ⟨W63, hW63⟩ : ∃ W63, World.alloc W58 (.cells #[] 3) = W63 := ⟨_, rfl⟩
       rw [hW63] at HT ⊢
       clear hW63
       refine wpAnyU_ready (rs := [3]) (by kernel_rfl) (by simp) (AllU.cons (i := 3) rfl (fun K hK => ?e3x7) AllU.nil)
       case e3x7 =>
        refine step_append_ints _ (by rfl) _ _ _ (by rfl) w1.heap.size 3 i0 _ Try.underlying22 hi hi0 hi1 hi2 rfl (.slice (some ⟨W57.heap.size, 0, none⟩) 0 0) 0 [] (by rfl) (HT.out.a rfl) a _ c G.O (by rfl) (HO1.out _ HT.out.below) (by omega) HT.out.size ?_
        intro v64 W64 hown hgrow hat
        have HT := Lib.hid ((HT.out.growA HLENS.out.1 hown hgrow hat))
        clear hown hgrow hat
        refine hK.out _ _ (fun _ => HSS.out _ HT.out.below) ?_
        clear hK K
        try simp only [Act.put, List.getElem_toArray, List.getElem_cons_zero, List.getElem_cons_succ, List.setIfInBounds_toArray, List.set_cons_zero, List.set_cons_succ]
        refine wpAnyU_ready (rs := [7]) (by kernel_rfl) (by simp) (AllU.cons (i := 7) rfl (fun K hK => ?e7x8) AllU.nil)
        case e7x8 =>
         refine step_append_ints _ (by rfl) _ _ _ (by rfl) w1.heap.size 3 i0 _ Try.underlying22 hi hi0 hi1 hi2 rfl (.slice (some ⟨W58.heap.size, 0, none⟩) 0 0) 0 [] (by rfl) (HT.out.b rfl) p _ d G.P (by rfl) (HO2.out _ HT.out.below) (by omega) HT.out.size ?_
         intro v65 W65 hown hgrow hat
         have HT := Lib.hid ((HT.out.swap.growA HLENS.out.2.1 hown hgrow hat).swap)
         clear hown hgrow hat
         refine hK.out _ _ (fun _ => HSS.out _ HT.out.below) ?_
         clear hK K
         try simp only [Act.put, List.getElem_toArray, List.getElem_cons_zero, List.getElem_cons_succ, List.setIfInBounds_toArray, List.set_cons_zero, List.set_cons_succ]
         obtain ⟨BA, CA, rfl, _⟩ := own_slice (HT.out.a rfl)
         obtain ⟨BB, CB, rfl, _⟩ := own_slice (HT.out.b rfl)
         refine wpAnyU_pure (i := 8) (v := ?v66) rfl (by kernel_rfl) (by kernel_rfl) (by kernel_rfl) (by kernel_rfl) (fun _ _ _ h => h) (Or.inl ⟨by rfl, fun V _ => ?h66⟩) (fun _ => HSS.out _ HT.out.below) ?r66
         case h66 => go_simp; try with_reducible rfl
         try simp only [Act.put, List.getElem_toArray, List.getElem_cons_zero, List.getElem_cons_succ, List.setIfInBounds_toArray, List.set_cons_zero, List.set_cons_succ]
         obtain ⟨hc0, hc1⟩ := HT.out.c rfl
         have n0 := cell_of_heap hc0 0
         have n1 := cell_of_heap hc0 1
         have n2 := cell_of_heap hc0 2
         have z0 := frozen_of_heap hc0 0
         have z1 := frozen_of_heap hc0 1
         have z2 := frozen_of_heap hc0 2
         have HC1 := Lib.hid hc1
         clear hc0 hc1
         refine wpAnyU_ready (rs := [10]) (by kernel_rfl) (by simp) (AllU.cons (i := 10) rfl (fun K hK => ?_) AllU.nil)
         simp only [List.getElem_toArray, List.getElem_cons_zero, List.getElem_cons_succ]
         go_simp
         refine hK.out _ _ (fun h => by have h2 : false = true := h; cases h2) ?_
         clear hK K
         try simp only [Act.put, List.getElem_toArray, List.getElem_cons_zero, List.getElem_cons_succ, List.setIfInBounds_toArray, List.set_cons_zero, List.set_cons_succ]
         refine wpAnyU_done (by kernel_rfl) ?_ _
         go_wp2_with fail
         go_meet
         case rel => exact ⟨_, rfl, HC1.out, HT.out.done _ rfl, (((HT.out.below.setCell (by exact HC1.out) _).setCell (by exact HC1.out) _).setCell (by exact HC1.out) _), set_le (set_le (set_le HT.out.size _ _) _ _) _ _⟩
     case e4x5 =>
      simp only [List.getElem_toArray, List.getElem_cons_zero, List.getElem_cons_succ]
      go_simp
      refine hK.out _ _ (fun _ => HSS.out _ (HT.out.swap.mkA.swap).below) ?_
      clear hK K
      try simp only [Act.put, List.getElem_toArray, List.getElem_cons_zero, List.getElem_cons_succ, List.setIfInBounds_toArray, List.set_cons_zero, List.set_cons_succ]
      have HT := Lib.hid (HT.out.swap.mkA.swap)
      obtain ⟨W67, hW67⟩ : ∃ W67, World.alloc W57 (.cells #[] 3) = W67 := ⟨_, rfl⟩
      rw [hW67] at HT ⊢
      clear hW67
      refine wpAnyU_ready (rs := [0]) (by kernel_rfl) (by simp) (AllU.cons (i := 0) rfl (fun K hK => ?e0x6) AllU.nil)
      case e0x6 =>
       simp only [List.getElem_toArray, List.getElem_cons_zero, List.getElem_cons_succ]
       go_simp
       refine hK.out _ _ (fun _ => HSS.out _ (HT.out.mkA).below) ?_
       clear hK K
       try simp only [Act.put, List.getElem_toArray, List.getElem_cons_zero, List.getElem_cons_succ, List.setIfInBounds_toArray, List.set_cons_zero, List.set_cons_succ]
       have HT := Lib.hid (HT.out.mkA)
       obtain ⟨W68, hW68⟩ : ∃ W68, World.alloc W67 (.cells #[] 3) = W68 := ⟨_, rfl⟩
       rw [hW68] at HT ⊢
       clear hW68
       refine wpAnyU_ready (rs := [3]) (by kernel_rfl) (by simp) (AllU.cons (i := 3) rfl (fun K hK => ?e3x7) AllU.nil)
       case e3x7 =>
        refine step_append_ints _ (by rfl) _ _ _ (by rfl) w1.heap.size 3 i0 _ Try.underlying22 hi hi0 hi1 hi2 rfl (.slice (some ⟨W67.heap.size, 0, none⟩) 0 0) 0 [] (by rfl) (HT.out.a rfl) a _ c G.O (by rfl) (HO1.out _ HT.out.below) (by omega) HT.out.size ?_
        intro v69 W69 hown hgrow hat
        have HT := Lib.hid ((HT.out.growA HLENS.out.1 hown hgrow hat))
        clear hown hgrow hat
        refine hK.out _ _ (fun _ => HSS.out _ HT.out.below) ?_
        clear hK K
        try simp only [Act.put, List.getElem_toArray, List.getElem_cons_zero, List.getElem_cons_succ, List.setIfInBounds_toArray, List.set_cons_zero, List.set_cons_succ]
        refine wpAnyU_ready (rs := [7]) (by kernel_rfl) (by simp) (AllU.cons (i := 7) rfl (fun K hK => ?e7x8) AllU.nil)
        case e7x8 =>
         refine step_append_ints _ (by rfl) _ _ _ (by rfl) w1.heap.size 3 i0 _ Try.underlying22 hi hi0 hi1 hi2 rfl (.slice (some ⟨W57.heap.size, 0, none⟩) 0 0) 0 [] (by rfl) (HT.out.b rfl) p _ d G.P (by rfl) (HO2.out _ HT.out.below) (by omega) HT.out.size ?_
         intro v70 W70 hown hgrow hat
         have HT := Lib.hid ((HT.out.swap.growA HLENS.out.2.1 hown hgrow hat).swap)
         clear hown hgrow hat
         refine hK.out _ _ (fun _ => HSS.out _ HT.out.below) ?_
         clear hK K
         try simp only [Act.put, List.getElem_toArray, List.getElem_cons_zero, List.getElem_cons_succ, List.setIfInBounds_toArray, List.set_cons_zero, List.set_cons_succ]
         obtain ⟨BA, CA, rfl, _⟩ := own_slice (HT.out.a rfl)
         obtain ⟨BB, CB, rfl, _⟩ := own_slice (HT.out.b rfl)
         refine wpAnyU_pure (i := 8) (v := ?v71) rfl (by kernel_rfl) (by kernel_rfl) (by kernel_rfl) (by kernel_rfl) (fun _ _ _ h => h) (Or.inl ⟨by rfl, fun V _ => ?h71⟩) (fun _ => HSS.out _ HT.out.below) ?r71
         case h71 => go_simp; try with_reducible rfl
         try simp only [Act.put, List.getElem_toArray, List.getElem_cons_zero, List.getElem_cons_succ, List.setIfInBounds_toArray, List.set_cons_zero, List.set_cons_succ]
         obtain ⟨hc0, hc1⟩ := HT.out.c rfl
         have n0 := cell_of_heap hc0 0
         have n1 := cell_of_heap hc0 1
         have n2 := cell_of_heap hc0 2
         have z0 := frozen_of_heap hc0 0
         have z1 := frozen_of_heap hc0 1
         have z2 := frozen_of_heap hc0 2
         have HC1 := Lib.hid hc1
         clear hc0 hc1
         refine wpAnyU_ready (rs := [10]) (by kernel_rfl) (by simp) (AllU.cons (i := 10) rfl (fun K hK => ?_) AllU.nil)
         simp only [List.getElem_toArray, List.getElem_cons_zero, List.getElem_cons_succ]
         go_simp
         refine hK.out _ _ (fun h => by have h2 : false = true := h; cases h2) ?_
         clear hK K
         try simp only [Act.put, List.getElem_toArray, List.getElem_cons_zero, List.getElem_cons_succ, List.setIfInBounds_toArray, List.set_cons_zero, List.set_cons_succ]
         refine wpAnyU_done (by kernel_rfl) ?_ _
         go_wp2_with fail
         go_meet
         case rel => exact ⟨_, rfl, HC1.out, HT.out.done _ rfl, (((HT.out.below.setCell (by exact HC1.out) _).setCell (by exact HC1.out) _).setCell (by exact HC1.out) _), set_le (set_le (set_le HT.out.size _ _) _ _) _ _⟩
  case rest =>
    obtain ⟨bd, rfl, hbd, ⟨V0, hbld⟩, hbel, hsz⟩ := hcut.out
    have HX0 := Lib.hid hbld
    have HB0 := Lib.hid hbel
    have HZ0 := Lib.hid hsz
    have HBD := Lib.hid hbd
    obtain ⟨⟨p0, p1, p2⟩, -, -, -⟩ := HTR.out _ hbel
    clear hcut hbld hbel hsz hbd q0 q1 q2 r0 r1 r2 f0 f1 f2
    go_wp2_with fail
    go_loopg [45] na (fun g i wx => ∃ j : Nat, j + g = na ∧ i = .int .i64 j ∧ Hid (∃ V, Bld w1.heap.size bd wx V ⟨G.O, G.P, (List.range j).map (rowT G ch q)⟩) ∧ Hid (Below w1.heap.size w1 wx) ∧ Hid (w1.heap.size ≤ wx.heap.size) ∧ Hid (∀ i, i < j → okT G ch q i = true))
    case atStart => exact ⟨0, by omega, rfl, ⟨V0, HX0.out⟩, HB0.out, HZ0.out, fun i hi => by omega⟩
    case round =>
      obtain ⟨j, hjg, rfl, HVV, HBX, HZ, HOK⟩ := hrel
      obtain ⟨V, hbld⟩ := HVV.out
      have HU := Lib.hid hbld
      clear hbld HVV p0 p1 p2
      have hj0 : (0 : Int) ≤ (j : Int) := by omega
      obtain ⟨⟨p0, p1, p2⟩, ⟨s0, s1, s2⟩, ⟨e0, e1, e2⟩, hzr⟩ := HTR.out _ HBX.out
      cases gk with
      | zero =>
        obtain rfl : na = j := by omega
        have HD := Lib.hid (HSG.out (allB_good (by rw [HLENS.out.2.2]; exact HOK.out)))
        obtain ⟨⟨y0, y1, y2⟩, -⟩ := HU.out.cells
        have hr : w.heap.size + 1 < w1.heap.size := hz
        have HGM := Lib.hid (fun u0 u1 u2 => (((HU.out.far hr (Nat.ne_of_lt (Nat.lt_of_lt_of_le hr HBD.out)) (i := 0) u0).far hr (Nat.ne_of_lt (Nat.lt_of_lt_of_le hr HBD.out)) (i := 1) u1).far hr (Nat.ne_of_lt (Nat.lt_of_lt_of_le hr HBD.out)) (i := 2) u2).game)
        have HTF := Lib.hid (show (⟨G.O, G.P, (List.range na).map (rowT G ch q)⟩ : Gm) = tradeF G ch q by unfold tradeF; rw [HLENS.out.2.2])
        rw [HTF.out] at HGM
        obtain ⟨A0, cc0, v0, _⟩ := own_slice HU.out.own0
        obtain ⟨A1, cc1, v1, _⟩ := own_slice HU.out.own1
        obtain ⟨A2, cc2, v2, _⟩ := own_slice HU.out.own2
        rw [v0] at y0
        rw [v1] at y1
        rw [v2] at y2
        rw [v0, v1, v2] at HGM
        clear v0 v1 v2
        generalize ((List.range na).map (rowT G ch q)).length = d2 at *
        go_wp2_with fail
        obtain ⟨x0, x1, x2⟩ := cells3g s0 s1 s2 (.slice A0 G.O.length cc0) (.slice A1 G.P.length cc1) (.slice A2 d2 cc2)
        refine bodyPost_ret (v := .tuple #[.agg #[.slice A0 G.O.length cc0, .slice A1 G.P.length cc1, .slice A2 d2 cc2], .int .i64 0]) (by simp [results, Try.results22, go_sem, x0, x1, x2]) rfl ?_
        rw [HD.out.1, HD.out.2]
        exact ⟨_, rfl, HGM.out _ _ _, three_below (HB1.out.trans (HBX.out.mono HB1.out.size)) _ _ _⟩
      | succ g =>
        have hjl : j < na := by omega
        have hjl2 : (j : Int) < (na : Int) := by omega
        obtain ⟨bo, oo, rfl, hbo, hco⟩ := (H0.out.below HB1.out).o.2 (by omega)
        obtain ⟨bx, ox, rfl, hbx, hcx⟩ := (H0.out.below HB1.out).x.2 (by omega)
        obtain ⟨bc, oc, rfl, hbc, hcc⟩ := (HA.out.below HB1.out).2 (by omega)
        obtain ⟨bl, cl, kl', il⟩ := hcx j hjl
        have HRD := Lib.hid (fun W (hW : Below w1.heap.size w1 W) => show (W.cell? ⟨w.heap.size, 0, none⟩ = some (.slice (some ⟨bo, oo, none⟩) na c) ∧ W.cell? ⟨w.heap.size, 2, none⟩ = some (.slice (some ⟨bx, ox, none⟩) na e)) ∧ W.cell? ⟨bo, oo + j, none⟩ = some (.int .i64 (G.O.getD j 0)) ∧ W.cell? ⟨bc, oc + j, none⟩ = some (.int .i64 (ch.getD j 0)) ∧ W.cell? ⟨bx, ox + j, none⟩ = some (.slice bl (G.X.getD j []).length cl) ∧ Ints W bl (G.X.getD j []).length (G.X.getD j []) from
          ⟨⟨(HTR.out W hW).1.1, (HTR.out W hW).1.2.2⟩, (hW.cell (p := ⟨bo, oo + j, none⟩) hbo).trans (hco j hjl), (hW.cell (p := ⟨bc, oc + j, none⟩) hbc).trans (hcc j hjl), (hW.cell (p := ⟨bx, ox + j, none⟩) hbx).trans kl', il.below hW⟩)
        have hlen := HLEN.out j
        have HCB := Lib.hid (show chB G ch q j = (decide (G.O.getD j 0 = q) && !decide (ch.getD j 0 = -1)) from rfl)
        have HOT := Lib.hid (show okT G ch q j = (!chB G ch q j || hasB (G.X.getD j []) (ch.getD j 0)) from rfl)
        have HRW := Lib.hid (show rowT G ch q j = if chB G ch q j then [ch.getD j 0] else G.X.getD j [] from rfl)
        have HBAD := Lib.hid (fun (h : okT G ch q j = false) => HSB.out (allB_bad (by rw [HLENS.out.2.2]; exact hjl) h))
        have HQK := Lib.hid (fun (e : okT G ch q j = true) => show ∀ i, i < j + 1 → okT G ch q i = true from fun i hi => by
          by_cases hij : i = j
          · rw [hij]; exact e
          · exact HOK.out i (by omega))
        have HNX := Lib.hid (show (List.range (j + 1)).map (rowT G ch q) = (List.range j).map (rowT G ch q) ++ [rowT G ch q j] by rw [List.range_succ, List.map_append]; rfl)
        have HXL := Lib.hid (show ((List.range j).map (rowT G ch q)).length = j by simp)
        have HHS := Lib.hid (fun W (h : Ints W bl (G.X.getD j []).length (G.X.getD j [])) => has_in bl (G.X.getD j []).length cl (G.X.getD j []) (ch.getD j 0) W h (by omega))
        clear hco hcx hcc kl' il p0 p1 p2
        obtain ⟨⟨p0, p2⟩, ko, kc, kl, il⟩ := HRD.out _ HBX.out
        have HIL := Lib.hid il
        have HWR := Lib.hid (HB1.out.trans (HBX.out.mono HB1.out.size))
        clear il
        generalize hL : (List.range j).map (rowT G ch q) = L at *
        generalize chB G ch q j = cb at *
        generalize okT G ch q j = ob at *
        generalize rowT G ch q j = rw_ at *
        generalize hasB (G.X.getD j []) (ch.getD j 0) = hb at *
        generalize G.O.getD j 0 = o at *
        generalize ch.getD j 0 = u at *
        generalize G.X.getD j [] = l at *
        generalize hll : l.length = ll at *
        have HLL := Lib.hid hll
        clear hL hll
        by_cases hcase : o = q ∧ ¬ u = -1
        · obtain ⟨h1, h2⟩ := hcase
          subst h1
          have h1' : (o == o) = true := by simp
          have h2' : (u != -1) = true := by simpa using h2
          have hcb : cb = true := by rw [HCB.out, decide_eq_true rfl, decide_eq_false h2]; rfl
          have HOB := Lib.hid (show ob = hb by rw [HOT.out, hcb]; rfl)
          have HRO := Lib.hid (show rw_ = [u] by rw [HRW.out, hcb]; rfl)
          clear hcb
          go_wp2_with (refine wpList_append_ints _ (by rfl) _ _ _ (by rfl) wr.heap.size 3 i0 _ Try.underlying22 hi hi0 hi1 hi2 rfl (.slice (some ⟨wr.heap.size, 0, none⟩) 0 0) 0 [] (by rfl) (by exact lit0' wr) bl ll cl l (by rfl) (by exact HIL.out.alloc _) (by omega) (by rw [World.size_alloc]; exact Nat.le_succ _) ?_; intro v3 w2 hown hgrow hat; obtain ⟨A3, c3, rfl, hb2, hu2, he2⟩ := HU.out.beside HZ.out HLL.out hown hgrow; have HB2 := Lib.hid hb2; have HU2 := Lib.hid hu2; have hbz2 := hb2.size; clear hown hgrow hat hb2 hu2 he2 p0 p2 ko kc kl; obtain ⟨⟨p0, p2⟩, ko, kc, kl, il⟩ := HRD.out _ (HBX.out.trans (HB2.out.mono HZ.out)); have HIL2 := Lib.hid il; clear il)
          refine (HHS.out _ HIL2.out).mono ?_
          rintro r5 w5 ⟨rfl, rfl⟩
          cases hb
          · have HD := Lib.hid (HBAD.out HOB.out)
            obtain ⟨-, ⟨s0', s1', s2'⟩, ⟨e0', e1', e2'⟩, hzr'⟩ := HTR.out _ (HBX.out.trans (HB2.out.mono HZ.out))
            go_wp2_with fail
            obtain ⟨x0, x1, x2⟩ := cells3g s0' s1' s2' (.slice none 0 0) (.slice none 0 0) (.slice none 0 0)
            refine bodyPost_ret (v := .tuple #[.agg #[.slice none 0 0, .slice none 0 0, .slice none 0 0], .int .i64 6]) (by simp [results, Try.results22, go_sem, x0, x1, x2]) rfl ?_
            rw [HD.out.1, HD.out.2]
            exact ⟨_, rfl, GameAt.zero _, three_below (HWR.out.trans (HB2.out.mono HWR.out.size)) _ _ _⟩
          · have HN := Lib.hid (HQK.out HOB.out)
            obtain ⟨hlit, hbes⟩ := HU2.out.lit (Nat.le_trans HZ.out HB2.out.size) u
            have HUL := Lib.hid hlit
            have HEL := Lib.hid hbes
            obtain ⟨⟨_, _, y2⟩, ⟨_, _, z2⟩⟩ := HU2.out.cells
            have hbdl : bd < _ := HU2.out.lt
            clear hlit hbes
            go_wp2_with (refine wpList_append_vals _ (by rfl) _ _ _ (by rfl) w1.heap.size 22 24 i3 _ Try.underlying23 hir hir0 hir1 hir2 (by decide) rfl (V 2) L.length ((List.range L.length).map (fun j => V (3 + j))) (by rfl) (by exact HUL.out.own2.alloc _) ⟨_, 0, none⟩ 1 1 [.slice (some ⟨_, 0, none⟩) 1 1] (by rfl) rfl (by exact val_new' _ (World.size_alloc _ _) _ _) (by simp [Value.oneCell']) (by rw [HXL.out]; omega) (by rw [World.size_alloc, World.size_alloc]; have := HZ.out; omega) ?_; intro v4 w7 hown hgrow hat; obtain ⟨A4, c4, rfl, hb4, y2'', z2'', hbl4, hz4⟩ := HUL.out.take (by rw [World.size_alloc]; have := HZ.out; omega) HEL.out hown hgrow hat; have HP := Lib.hid hbl4; have HB7 := Lib.hid hb4; have HZ7 := Lib.hid hz4; clear hown hgrow hat hb4 hbl4 hz4)
            go_roundg g
            case measure => omega
            case rel =>
              have h := HP.out
              rw [← HRO.out, ← HNX.out] at h
              exact ⟨j + 1, by omega, by go_num, h, ((HBX.out.trans (HB2.out.mono HZ.out)).trans (((Below.refl _ _).alloc (Nat.le_trans HZ.out HB2.out.size) _).trans HB7.out)).setCell (by exact HBD.out) _, set_le HZ7.out _ _, HN.out⟩
        · have hcb : cb = false := by
            rw [HCB.out]
            by_cases h1 : o = q
            · by_cases h2 : u = -1
              · rw [decide_eq_true h2]; simp
              · exact absurd ⟨h1, h2⟩ hcase
            · rw [decide_eq_false h1]; rfl
          have HN := Lib.hid (HQK.out (by rw [HOT.out, hcb]; rfl))
          have HRO := Lib.hid (show rw_ = l by rw [HRW.out, hcb]; rfl)
          clear hcb
          have hsplit : (o == q) = false ∨ ((o == q) = true ∧ (u != -1) = false) := by
            by_cases h1 : o = q
            · refine .inr ⟨by simpa using h1, ?_⟩
              by_cases h2 : u = -1
              · simpa using h2
              · exact absurd ⟨h1, h2⟩ hcase
            · exact .inl (by simpa using h1)
          clear hcase
          rcases hsplit with h1' | ⟨h1', h2'⟩
          all_goals
            go_wp2_with (first
              | (refine wpList_append_ints _ (by rfl) _ _ _ (by rfl) wr.heap.size 3 i0 _ Try.underlying22 hi hi0 hi1 hi2 rfl (.slice (some ⟨wr.heap.size, 0, none⟩) 0 0) 0 [] (by rfl) (by exact lit0' wr) bl ll cl l (by rfl) (by exact HIL.out.alloc _) (by omega) (by rw [World.size_alloc]; exact Nat.le_succ _) ?_; intro v3 w2 hown hgrow hat; obtain ⟨A3, c3, rfl, hb2, hu2, he2⟩ := HU.out.beside HZ.out HLL.out hown hgrow; have HB2 := Lib.hid hb2; have HU2 := Lib.hid hu2; have HE2 := Lib.hid he2; have hbz2 := hb2.size; obtain ⟨⟨_, _, y2⟩, ⟨_, _, z2⟩⟩ := hu2.cells; have hbdl : bd < w2.heap.size := hu2.lt; clear hown hgrow hat hb2 hu2 he2 p0 p2 ko kc kl; obtain ⟨⟨p0, p2⟩, ko, kc, kl, il⟩ := HRD.out _ (HBX.out.trans (HB2.out.mono HZ.out)); clear il)
              | (refine wpList_append_vals _ (by rfl) _ _ _ (by rfl) w1.heap.size 22 24 i3 _ Try.underlying23 hir hir0 hir1 hir2 (by decide) rfl (V 2) L.length ((List.range L.length).map (fun j => V (3 + j))) (by rfl) (by exact HU2.out.own2.alloc _) ⟨w2.heap.size, 0, none⟩ 1 1 [.slice A3 ll c3] (by rfl) rfl (by exact val_new w2 _ _) (by simp [Value.oneCell']) (by rw [HXL.out]; omega) (by rw [World.size_alloc]; have := HZ.out; omega) ?_; intro v4 w7 hown hgrow hat; obtain ⟨A4, c4, rfl, hb4, y2'', z2'', hbl4, hz4⟩ := HU2.out.take (Nat.le_trans HZ.out HB2.out.size) HE2.out hown hgrow hat; have HP := Lib.hid hbl4; have HB7 := Lib.hid hb4; have HZ7 := Lib.hid hz4; clear hown hgrow hat hb4 hbl4 hz4))
            go_roundg g
            case measure => omega
            case rel =>
              have h := HP.out
              rw [← HRO.out, ← HNX.out] at h
              exact ⟨j + 1, by omega, by go_num, h, ((HBX.out.trans (HB2.out.mono HZ.out)).trans HB7.out).setCell (by exact HBD.out) _, set_le HZ7.out _ _, HN.out⟩

end Go.Proofs.Ytffdbncjndnnaaa.Wd
