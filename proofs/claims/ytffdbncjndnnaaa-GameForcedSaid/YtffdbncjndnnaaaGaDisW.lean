/-
  distances of package game: the walk.
-/
import Derived.Test.YtffdbncjndnnaaaGaDis
import Derived.Test.YtffdbncjndnnaaaGaDisR
import Derived.Test.YtffdbncjndnnaaaGaRound
namespace Go.Proofs.Ytffdbncjndnnaaa.Wd
open Go.RowKit Go.Shelf
set_option linter.unusedVariables false
set_option linter.unusedSimpArgs false

attribute [local go_sem] Oper.semAt_some

def frm (a0 : Act) (val : Nat → Value) : Act := (((((a0.put (some 7) (val 9)).put (some 8) (val 10)).put (some 9) (val 11)).put (some 18) (val 2)).put (some 21) (val 5)).put (some 24) (val 8)


theorem boxOf_a {j : Nat} {t : TypeId} (h : boxOf 9 j t) : t = 22 := by
  rcases h with h | h | h
  · exact h.2.2
  · exact absurd h.1 (by decide)
  · exact absurd h.1 (by decide)
theorem boxOf_b {j : Nat} {t : TypeId} (h : boxOf 10 j t) : t = 22 := by
  rcases h with h | h | h
  · exact absurd h.1 (by decide)
  · exact h.2.2
  · exact absurd h.1 (by decide)
theorem boxOf_c {j : Nat} {t : TypeId} (h : boxOf 11 j t) : t = 23 := by
  rcases h with h | h | h
  · exact absurd h.1 (by decide)
  · exact absurd h.1 (by decide)
  · exact h.2.2

set_option maxRecDepth 100000 in
set_option maxHeartbeats 16000000 in
theorem dist_any (a p x T : Option Addr) (n c d e tc : Nat) (q : Int) (G : Gm) (Tl : Nat → Bool) (w : World) (h : GameIn w a n p n x n G) (hT : BoolsIn w T n Tl) (hv : gmB G = true) (hn : n ≤ 1000) :
    Calls Try.prog 28 #[.agg #[.slice a n c, .slice p n d, .slice x n e], .int .i64 q, .slice T n tc] w fun r w' =>
      ∃ bs D, r = .returned (.slice (some ⟨bs, 0, none⟩) n n) ∧ w.heap.size ≤ bs ∧ w'.rowIs bs 3 n (fun i => .int .i64 (D i)) ∧ Dist G q Tl n D ∧ Below w.heap.size w w' := by
  have hn0 : (0 : Int) ≤ (n : Int) := by omega
  obtain ⟨W0, hW0⟩ : ∃ W0, w.alloc (.cells #[.slice a n c, .slice p n d, .slice x n e] 25) = W0 := ⟨_, rfl⟩
  have HBW := Lib.hid (show Below w.heap.size w W0 by rw [← hW0]; exact (Below.refl _ _).alloc (Nat.le_refl _) _)
  obtain ⟨q0, q1, q2⟩ := box_game w (.slice a n c) (.slice p n d) (.slice x n e) 25
  rw [hW0] at q0 q1 q2
  have hz0 : w.heap.size < W0.heap.size := by rw [← hW0]; simp
  have H0 := Lib.hid (h.below HBW.out)
  have hmk := run_make_row' (P := Try.prog) 22 3 (.int .i64 0) 8 Try.underlying22 g_ints_info rfl .i64 .i64 n (by omega) (by omega)
  have hnd := Lib.hid (gmB_rows hv).nd
  have HV := Lib.hid hv
  have HT := Lib.hid (hT.below HBW.out)
  have hxl := h.x.1
  clear h hT hv
  refine (callsIn_wide (n := 4)).1 ?_
  refine callsIn_of_wp_marks Try.func28 rfl trivial ?_ rfl
  rw [wpIn_wide]
  simp only [Try.ntmps28, List.size_toArray, List.length_cons, List.length_nil, Nat.reduceAdd, Nat.reduceSub, Array.replicate_succ, Array.replicate_zero, List.push_toArray, List.append_toArray, List.nil_append, List.cons_append]
  go_upto_region 1 with fail
  clear hW0
  go_cut [7, 8, 9] from 16 (fun s7 s8 s9 wc => Hid (∃ b7 b8 b9 bs bm bb V, s7 = .pointer (some ⟨b7, 0, none⟩) ∧ s8 = .pointer (some ⟨b8, 0, none⟩) ∧ s9 = .pointer (some ⟨b9, 0, none⟩) ∧ DiM W0.heap.size wc.heap.size n G W0 b7 b8 b9 bs bm bb V (fun _ => 0) (fun _ => 0) wc))
  case first =>
    refine wp_region_noPanic ?_
    refine wp_region_until_drew (st := [12]) (S := fun V => V.cell? ⟨w.heap.size, 2, none⟩ = some (.slice x n e)) (by kernel_rfl) q2 (fun hHeld => ?_)
    have HD1 := Lib.hid (show Below W0.heap.size W0 W0.drew from (Below.refl _ _).drew)
    have hsz : W0.drew.heap.size = W0.heap.size := rfl
    obtain ⟨W1, hW1⟩ : ∃ W1, W0.drew = W1 := ⟨_, rfl⟩
    rw [hW1] at HD1 hHeld hsz ⊢
    clear hW1

    refine wpAnyU_pure (i := 0) (v := ?v1) rfl (by kernel_rfl) (by kernel_rfl) (by kernel_rfl) (by kernel_rfl) (fun _ _ _ h => h) (Or.inl ⟨by rfl, fun V _ => ?h1⟩) (fun _ => hHeld) ?r1
    case h1 => go_simp; try with_reducible rfl
    try simp only [Act.put, List.getElem_toArray, List.getElem_cons_zero, List.getElem_cons_succ, List.setIfInBounds_toArray, List.set_cons_zero, List.set_cons_succ]

    refine wpAnyU_pure (i := 1) (v := ?v2) rfl (by kernel_rfl) (by kernel_rfl) (by kernel_rfl) (by kernel_rfl) (fun _ _ _ h => h) (Or.inl ⟨by rfl, fun V _ => ?h2⟩) (fun _ => hHeld) ?r2
    case h2 => go_simp; try with_reducible rfl
    try simp only [Act.put, List.getElem_toArray, List.getElem_cons_zero, List.getElem_cons_succ, List.setIfInBounds_toArray, List.set_cons_zero, List.set_cons_succ]

    refine wpAnyU_pure (i := 3) (v := ?v3) rfl (by kernel_rfl) (by kernel_rfl) (by kernel_rfl) (by kernel_rfl) (fun _ _ _ h => h) (Or.inl ⟨by rfl, fun V _ => ?h3⟩) (fun _ => hHeld) ?r3
    case h3 => go_simp; try with_reducible rfl
    try simp only [Act.put, List.getElem_toArray, List.getElem_cons_zero, List.getElem_cons_succ, List.setIfInBounds_toArray, List.set_cons_zero, List.set_cons_succ]

    refine wpAnyU_pure (i := 4) (v := ?v4) rfl (by kernel_rfl) (by kernel_rfl) (by kernel_rfl) (by kernel_rfl) (fun _ _ _ h => h) (Or.inl ⟨by rfl, fun V _ => ?h4⟩) (fun _ => hHeld) ?r4
    case h4 => go_simp; try with_reducible rfl
    try simp only [Act.put, List.getElem_toArray, List.getElem_cons_zero, List.getElem_cons_succ, List.setIfInBounds_toArray, List.set_cons_zero, List.set_cons_succ]

    refine wpAnyU_pure (i := 6) (v := ?v5) rfl (by kernel_rfl) (by kernel_rfl) (by kernel_rfl) (by kernel_rfl) (fun _ _ _ h => h) (Or.inl ⟨by rfl, fun V _ => ?h5⟩) (fun _ => hHeld) ?r5
    case h5 => go_simp; try with_reducible rfl
    try simp only [Act.put, List.getElem_toArray, List.getElem_cons_zero, List.getElem_cons_succ, List.setIfInBounds_toArray, List.set_cons_zero, List.set_cons_succ]

    refine wpAnyU_load (i := 7) (v := ?v6) rfl (by kernel_rfl) (by kernel_rfl) (by kernel_rfl) (by kernel_rfl) (fun _ _ _ h => h) (Or.inl ⟨by rfl, fun V hSw => ?h6⟩) hHeld ?r6
    case h6 => go_simp; try with_reducible rfl
    try simp only [Act.put, List.getElem_toArray, List.getElem_cons_zero, List.getElem_cons_succ, List.setIfInBounds_toArray, List.set_cons_zero, List.set_cons_succ]

    refine wpAnyU_at (J := fun a0 l a W => ∃ on val blk, l = #[true, true, on 2, true, true, on 5, true, true, on 8, on 9, on 10, on 11, on 12, on 13, on 14] ∧ a = frm a0 val ∧ Bx W0.heap.size n G W1 on val W blk) ?hS (by decide +kernel) ?h ?hdone ?hstep
    case hS =>
      rintro l b W ⟨on, val, blk, rfl, rfl, hB⟩ _
      exact (hB.below.cell (p := ⟨w.heap.size, 2, none⟩) hz0).trans hHeld
    case h =>
      refine ⟨fun _ => false, fun _ => undef, fun _ => 0, rfl, ?_, ?_⟩
      · simp only [frm, Act.put, List.getElem_toArray, List.getElem_cons_zero, List.getElem_cons_succ, List.setIfInBounds_toArray, List.set_cons_zero, List.set_cons_succ]
      · rw [← hsz]; exact Bx.zero _ _
    case hdone =>
      rintro l b W ⟨on, val, blk, rfl, rfl, hB⟩ hr
      have hall : (on 2 && on 5 && on 8 && on 9 && on 10 && on 11 && on 12 && on 13 && on 14) = true := by
        revert hr
        generalize on 2 = x2, on 5 = x5, on 8 = x8, on 9 = x9, on 10 = x10, on 11 = x11, on 12 = x12, on 13 = x13, on 14 = x14
        revert x2 x5 x8 x9 x10 x11 x12 x13 x14
        decide +kernel
      simp only [Bool.and_eq_true] at hall
      obtain ⟨⟨⟨⟨⟨⟨⟨⟨a2, a5⟩, a8⟩, a9⟩, a10⟩, a11⟩, a12⟩, a13⟩, a14⟩ := hall
      have HF := Lib.hid (hB.whole fun i hi => by
        rcases i with _ | _ | _ | _ | _ | _ | _ | _ | _ | _ | _ | _ | _ | _ | _ | i <;> first | assumption | omega)
      clear hr hB a2 a5 a8 a9 a10 a11 a12 a13 a14
      refine NoPanic.normal ?_
      unfold frm
      simp only [Act.put, List.getElem_toArray, List.getElem_cons_zero, List.getElem_cons_succ, List.setIfInBounds_toArray, List.set_cons_zero, List.set_cons_succ]
      go_wp2_with fail
      go_meet
      case rel =>
        obtain ⟨e9, e10, e11, V, hD⟩ := HF.out
        exact ⟨_, _, _, _, _, _, V, e9, e10, e11, { hD with below := HD1.out.trans hD.below }⟩
    case hstep =>
      rintro l b W i o ⟨on, val, blk, rfl, rfl, hB⟩ h0 ho hall K hK
      rcases i with _ | _ | _ | _ | _ | _ | _ | _ | _ | _ | _ | _ | _ | _ | _ | i
      all_goals (try exact Bool.noConfusion (show true = false from h0))
      · obtain rfl : _ = o := by simpa using ho
        have h1 : on 2 = false := h0
        simp only [frm, Act.put, List.getElem_toArray, List.getElem_cons_zero, List.getElem_cons_succ, List.setIfInBounds_toArray, List.set_cons_zero, List.set_cons_succ]
        go_simp
        refine hK.out _ _ ⟨updN on 2 true, updN val 2 (.slice (some ⟨W.heap.size, 0, none⟩) n n), updN blk 2 W.heap.size, rfl, ?_, ?_⟩
        · simp only [frm, Act.put, List.getElem_toArray, List.getElem_cons_zero, List.getElem_cons_succ, List.setIfInBounds_toArray, List.set_cons_zero, List.set_cons_succ]
          rfl
        · exact hB.more ((Below.refl _ _).alloc (Nat.le_refl _) _) (by simp) (by omega) h1 (fun _ => ⟨rfl, World.rowIs_made _ _ _ _⟩) (fun e => absurd e (by omega)) (fun j t hb => absurd hb (by unfold boxOf; omega))
      · obtain rfl : _ = o := by simpa using ho
        have h1 : on 5 = false := h0
        simp only [frm, Act.put, List.getElem_toArray, List.getElem_cons_zero, List.getElem_cons_succ, List.setIfInBounds_toArray, List.set_cons_zero, List.set_cons_succ]
        go_simp
        refine hK.out _ _ ⟨updN on 5 true, updN val 5 (.slice (some ⟨W.heap.size, 0, none⟩) n n), updN blk 5 W.heap.size, rfl, ?_, ?_⟩
        · simp only [frm, Act.put, List.getElem_toArray, List.getElem_cons_zero, List.getElem_cons_succ, List.setIfInBounds_toArray, List.set_cons_zero, List.set_cons_succ]
          rfl
        · exact hB.more ((Below.refl _ _).alloc (Nat.le_refl _) _) (by simp) (by omega) h1 (fun _ => ⟨rfl, World.rowIs_made _ _ _ _⟩) (fun e => absurd e (by omega)) (fun j t hb => absurd hb (by unfold boxOf; omega))
      · obtain rfl : _ = o := by simpa using ho
        have h1 : on 8 = false := h0
        have hbl : Below W0.heap.size W0 W := HD1.out.trans hB.below
        simp only [frm, Act.put, List.getElem_toArray, List.getElem_cons_zero, List.getElem_cons_succ, List.setIfInBounds_toArray, List.set_cons_zero, List.set_cons_succ]
        go_simp
        refine (pre_any a p x n e G W (H0.out.below hbl) HV.out hn).mono ?_
        rintro r W' ⟨V, rfl, hrow, hfam, hb⟩
        refine hK.out _ _ ⟨updN on 8 true, updN val 8 (.slice (some ⟨W.heap.size, 0, none⟩) n n), updN blk 8 W.heap.size, rfl, ?_, ?_⟩
        · simp only [frm, Act.put, List.getElem_toArray, List.getElem_cons_zero, List.getElem_cons_succ, List.setIfInBounds_toArray, List.set_cons_zero, List.set_cons_succ]
          rfl
        · exact hB.more hb hrow.lt (by omega) h1 (fun e => absurd e (by omega)) (fun _ => ⟨rfl, V, hrow, PreAt.of_fam (by rw [← hxl]; exact hnd.out) hfam⟩) (fun j t hb => absurd hb (by unfold boxOf; omega))
      · obtain rfl : _ = o := by simpa using ho
        have h1 : on 9 = false := h0
        simp only [frm, Act.put, List.getElem_toArray, List.getElem_cons_zero, List.getElem_cons_succ, List.setIfInBounds_toArray, List.set_cons_zero, List.set_cons_succ]
        go_simp
        refine hK.out _ _ ⟨updN on 9 true, updN val 9 (.pointer (some ⟨W.heap.size, 0, none⟩)), updN blk 9 W.heap.size, rfl, ?_, ?_⟩
        · simp only [frm, Act.put, List.getElem_toArray, List.getElem_cons_zero, List.getElem_cons_succ, List.setIfInBounds_toArray, List.set_cons_zero, List.set_cons_succ]
          rfl
        · exact hB.more ((Below.refl _ _).alloc (Nat.le_refl _) _) (by simp) (by omega) h1 (fun e => absurd e (by omega)) (fun e => absurd e (by omega)) (fun j t hb => ⟨rfl, by rw [boxOf_a hb]; exact World.alloc_heap_new _ _⟩)
      · obtain rfl : _ = o := by simpa using ho
        have h1 : on 10 = false := h0
        simp only [frm, Act.put, List.getElem_toArray, List.getElem_cons_zero, List.getElem_cons_succ, List.setIfInBounds_toArray, List.set_cons_zero, List.set_cons_succ]
        go_simp
        refine hK.out _ _ ⟨updN on 10 true, updN val 10 (.pointer (some ⟨W.heap.size, 0, none⟩)), updN blk 10 W.heap.size, rfl, ?_, ?_⟩
        · simp only [frm, Act.put, List.getElem_toArray, List.getElem_cons_zero, List.getElem_cons_succ, List.setIfInBounds_toArray, List.set_cons_zero, List.set_cons_succ]
          rfl
        · exact hB.more ((Below.refl _ _).alloc (Nat.le_refl _) _) (by simp) (by omega) h1 (fun e => absurd e (by omega)) (fun e => absurd e (by omega)) (fun j t hb => ⟨rfl, by rw [boxOf_b hb]; exact World.alloc_heap_new _ _⟩)
      · obtain rfl : _ = o := by simpa using ho
        have h1 : on 11 = false := h0
        simp only [frm, Act.put, List.getElem_toArray, List.getElem_cons_zero, List.getElem_cons_succ, List.setIfInBounds_toArray, List.set_cons_zero, List.set_cons_succ]
        go_simp
        refine hK.out _ _ ⟨updN on 11 true, updN val 11 (.pointer (some ⟨W.heap.size, 0, none⟩)), updN blk 11 W.heap.size, rfl, ?_, ?_⟩
        · simp only [frm, Act.put, List.getElem_toArray, List.getElem_cons_zero, List.getElem_cons_succ, List.setIfInBounds_toArray, List.set_cons_zero, List.set_cons_succ]
          rfl
        · exact hB.more ((Below.refl _ _).alloc (Nat.le_refl _) _) (by simp) (by omega) h1 (fun e => absurd e (by omega)) (fun e => absurd e (by omega)) (fun j t hb => ⟨rfl, by rw [boxOf_c hb]; exact World.alloc_heap_new _ _⟩)
      · obtain rfl : _ = o := by simpa using ho
        have h1 : on 12 = false := h0
        have e1 : on 9 = true := hall ⟨9, .data⟩ (by simp) rfl
        have e2 : on 2 = true := hall ⟨2, .data⟩ (by simp) rfl
        obtain ⟨x1, y1⟩ := hB.box 9 2 _ (.inl ⟨rfl, rfl, rfl⟩) e1
        have x2 := (hB.row 2 (.inl rfl) e2).1
        have hP := hB.put (.inl ⟨rfl, rfl, rfl⟩) e1 e2
        rw [x2] at hP
        have h2 : ¬ on (9 + 3) = true := fun h => by rw [show 9 + 3 = 12 from rfl, h1] at h; cases h
        rw [if_neg h2] at y1
        have k1 := cell_of_heap y1 0
        have f1 := frozen_of_heap y1 0
        have HP := Lib.hid hP
        have X1 := Lib.hid x1
        have X2 := Lib.hid x2
        clear hP y1 hB hall
        simp only [frm, Act.put, List.getElem_toArray, List.getElem_cons_zero, List.getElem_cons_succ, List.setIfInBounds_toArray, List.set_cons_zero, List.set_cons_succ, x1, x2]
        clear x1 x2
        go_simp
        refine hK.out _ _ ⟨updN on 12 true, val, blk, rfl, ?_, HP.out⟩
        simp only [frm, Act.put, List.getElem_toArray, List.getElem_cons_zero, List.getElem_cons_succ, List.setIfInBounds_toArray, List.set_cons_zero, List.set_cons_succ, X1.out, X2.out]
      · obtain rfl : _ = o := by simpa using ho
        have h1 : on 13 = false := h0
        have e1 : on 10 = true := hall ⟨10, .data⟩ (by simp) rfl
        have e2 : on 5 = true := hall ⟨5, .data⟩ (by simp) rfl
        obtain ⟨x1, y1⟩ := hB.box 10 5 _ (.inr (.inl ⟨rfl, rfl, rfl⟩)) e1
        have x2 := (hB.row 5 (.inr rfl) e2).1
        have hP := hB.put (.inr (.inl ⟨rfl, rfl, rfl⟩)) e1 e2
        rw [x2] at hP
        have h2 : ¬ on (10 + 3) = true := fun h => by rw [show 10 + 3 = 13 from rfl, h1] at h; cases h
        rw [if_neg h2] at y1
        have k1 := cell_of_heap y1 0
        have f1 := frozen_of_heap y1 0
        have HP := Lib.hid hP
        have X1 := Lib.hid x1
        have X2 := Lib.hid x2
        clear hP y1 hB hall
        simp only [frm, Act.put, List.getElem_toArray, List.getElem_cons_zero, List.getElem_cons_succ, List.setIfInBounds_toArray, List.set_cons_zero, List.set_cons_succ, x1, x2]
        clear x1 x2
        go_simp
        refine hK.out _ _ ⟨updN on 13 true, val, blk, rfl, ?_, HP.out⟩
        simp only [frm, Act.put, List.getElem_toArray, List.getElem_cons_zero, List.getElem_cons_succ, List.setIfInBounds_toArray, List.set_cons_zero, List.set_cons_succ, X1.out, X2.out]
      · obtain rfl : _ = o := by simpa using ho
        have h1 : on 14 = false := h0
        have e1 : on 11 = true := hall ⟨11, .data⟩ (by simp) rfl
        have e2 : on 8 = true := hall ⟨8, .data⟩ (by simp) rfl
        obtain ⟨x1, y1⟩ := hB.box 11 8 _ (.inr (.inr ⟨rfl, rfl, rfl⟩)) e1
        have x2 := (hB.pre e2).1
        have hP := hB.put (.inr (.inr ⟨rfl, rfl, rfl⟩)) e1 e2
        rw [x2] at hP
        have h2 : ¬ on (11 + 3) = true := fun h => by rw [show 11 + 3 = 14 from rfl, h1] at h; cases h
        rw [if_neg h2] at y1
        have k1 := cell_of_heap y1 0
        have f1 := frozen_of_heap y1 0
        have HP := Lib.hid hP
        have X1 := Lib.hid x1
        have X2 := Lib.hid x2
        clear hP y1 hB hall
        simp only [frm, Act.put, List.getElem_toArray, List.getElem_cons_zero, List.getElem_cons_succ, List.setIfInBounds_toArray, List.set_cons_zero, List.set_cons_succ, x1, x2]
        clear x1 x2
        go_simp
        refine hK.out _ _ ⟨updN on 14 true, val, blk, rfl, ?_, HP.out⟩
        simp only [frm, Act.put, List.getElem_toArray, List.getElem_cons_zero, List.getElem_cons_succ, List.setIfInBounds_toArray, List.set_cons_zero, List.set_cons_succ, X1.out, X2.out]
  case rest =>
    obtain ⟨b7, b8, b9, bs, bm, bb, V, rfl, rfl, rfl, hD⟩ := hcut.out
    have HLEN := Lib.hid (fun v => gmB_len HV.out v)
    have HG0 := Lib.hid q0
    have HG2 := Lib.hid q2
    clear hcut hmk
    obtain ⟨top, htop⟩ : ∃ top, wc.heap.size = top := ⟨_, rfl⟩
    have HTOP := Lib.hid htop
    rw [htop] at hD
    have hs0 : W0.heap.size ≤ top := by have := hD.lo.1; have := hD.hi.1; omega
    have HL0 := Lib.hid (show DiL W0.heap.size top n G W0 b7 b8 b9 bs bm bb V q Tl 0 (wc.alloc (.cells #[.slice none 0 0] 66)) from
      ⟨_, _, .slice none 0 0, ⟨hD.kept ((Below.refl _ _).alloc (by omega) _) (fun k _ hk => (al_at _ _ k).trans (if_neg (by omega))), ⟨by rw [al_at, if_pos htop.symm], World.ownsRow_nil _ _ _ _⟩, by simp; omega⟩, fun u hu => absurd hu (by omega)⟩)
    have hlo := hD.lo
    have hhi := hD.hi
    obtain ⟨n1, n2, n3, n4, n5, n6, n7, n8, n9⟩ := hD.ne
    have m1 := Ne.symm n1
    have m2 := Ne.symm n2
    have m3 := Ne.symm n3
    have m4 := Ne.symm n4
    have m5 := Ne.symm n5
    clear hD
    go_wp2_with fail
    obtain ⟨W2, hW2⟩ : ∃ W2, wc.alloc (.cells #[.slice none 0 0] 66) = W2 := ⟨_, rfl⟩
    rw [hW2] at HL0 ⊢
    clear hW2 q0 q1 q2
    have HQ0 := Lib.hid (fun W (hW : Below W0.heap.size W0 W) => show W.cell? ⟨w.heap.size, 0, none⟩ = some (.slice a n c) ∧ W.cell? ⟨w.heap.size, 2, none⟩ = some (.slice x n e) from ⟨(hW.cell (p := ⟨w.heap.size, 0, none⟩) hz0).trans HG0.out, (hW.cell (p := ⟨w.heap.size, 2, none⟩) hz0).trans HG2.out⟩)
    go_loopg [27] n (fun g i wx => ∃ j : Nat, j + g = n ∧ i = .int .i64 j ∧ Hid (DiL W0.heap.size top n G W0 b7 b8 b9 bs bm bb V q Tl j wx))
    case atStart => exact ⟨0, by omega, rfl, HL0.out⟩
    case round =>
      clear HL0
      obtain ⟨j, hjg, rfl, HX⟩ := hrel
      have hj0 : (0 : Int) ≤ (j : Int) := by omega
      obtain ⟨D, M, v, hq, hdm⟩ := HX.out
      cases gk with
      | zero =>
        obtain rfl : n = j := by omega
        have HR1 := Lib.hid (show Rows1 (fun v => G.X.getD v []) n by rw [← hxl]; exact gmB_rows HV.out)
        have HS := Lib.hid (Srch.start (own := ownB G q) (T := Tl) HR1.out (fun v hv => (hdm v hv).1) (fun v hv => (hdm v hv).2))
        have HQ := Lib.hid hq
        have hsz := hq.siz
        clear hq hdm HX
        go_wp2_with fail
        refine (all_any top wr).mono ?_
        rintro r w' ⟨rfl, rfl⟩
        go_wp2_with fail
        obtain ⟨bp, hbp⟩ : ∃ bp, wr.heap.size = bp := ⟨_, rfl⟩
        obtain ⟨W3, hW3⟩ : ∃ W3, wr.alloc (.cells #[.pointer (some ⟨top, 0, none⟩)] 84) = W3 := ⟨_, rfl⟩
        have hz3 : W3.heap.size = bp + 1 := by rw [← hW3, ← hbp]; simp
        have HE0 := Lib.hid (show Sea W0.heap.size top n G W0 b7 b8 b9 bs bm bb bp (bp + 1) V q Tl (fun _ _ => false) 0 0 D M ((List.range n).filter Tl) v W3 by
          have hbl : Below wr.heap.size wr W3 := by rw [← hW3]; exact (Below.refl _ _).alloc (Nat.le_refl _) _
          refine ⟨HQ.out.mem.kept (hbl.mono (by omega)) (fun k _ hk => hbl.block k (by omega)), HQ.out.que.kept (hbl.block _ (by omega)) (fun b e => hbl.block b (HQ.out.que.own.lt b e).2), ⟨by omega, by omega, by omega, by omega⟩, ?_, fun b e => ?_, HS.out⟩
          · rw [← hW3, ← hbp]
            exact cell_of_heap (World.alloc_heap_new _ _) 0
          · have := (HQ.out.que.own.lt b e).2
            omega)
        rw [hbp, hW3]
        clear hW3
        rw [← wpIn_wide (n := 4)]
        refine range_slot (F := Fence.wide) (n := 4) (sl := 13) rfl (by omega) (gf := 57) (lb := #[.pointer (some ⟨bp, 0, none⟩)]) rfl trivial (enters_of Try.func57 (by kernel_rfl) rfl)
          (fun x => .int .i64 (x : Nat)) (fun K x => K ++ [x]) [] (QuNx (top + 1) top) (QuEnd (top + 1) top) (QuSt (top + 1) bp top 1000)
          (fun l J W hJS hY hB h0 => all1_in 3 (by omega) l (top + 1) bp top 1000 (by omega) J hJS hY W h0)
          (fun K W => ∃ E D M L v, Sea W0.heap.size top n G W0 b7 b8 b9 bs bm bb bp (bp + 1) V q Tl E K.length K.length D M L v W ∧ L.take K.length = K)
          ?hI ?hIS ?hN ?hR ?h0 ?assign ?done ?body
        case hI =>
          rintro K W1 W2 ⟨E, D, M, L, v, hs, ht⟩ _ hT
          rw [hz3] at hT
          exact ⟨E, D, M, L, v, hs.turned hT, ht⟩
        case hIS =>
          rintro K W ⟨E, D, M, L, v, hs, ht⟩
          exact ⟨hs.ptr, L, v, hs.que, Nat.le_trans hs.sea.len hn, ht⟩
        case hN =>
          rintro K y W1 W2 ⟨E, D, M, L, v, hs, ht⟩ hT ⟨L', v', h1, h2, h3⟩
          rw [hz3] at hT
          obtain ⟨e1, rfl⟩ := h1.unique hs.que
          exact ⟨L', v', by have h4 := (hs.turned hT).que; rw [← e1] at h4; exact h4, h2, h3⟩
        case hR =>
          rintro K W1 W2 ⟨E, D, M, L, v, hs, ht⟩ hT ⟨v', h1⟩
          rw [hz3] at hT
          obtain ⟨e1, rfl⟩ := h1.unique hs.que
          exact ⟨v', by have h4 := (hs.turned hT).que; rw [← e1] at h4; exact h4⟩
        case h0 => exact ⟨_, _, _, _, _, HE0.out, rfl⟩
        case assign =>
          intro l x W K hK
          gi_wp2
          exact hK
        case done =>
          rintro Dd K W rfl ⟨v', hend⟩ ⟨E, D, M, L, v, hs, ht⟩ hK
          obtain ⟨e1, -⟩ := hend.unique hs.que
          obtain rfl := map_int_inj e1
          have HDI := Lib.hid (hs.sea.dist HR1.out (Nat.le_refl _))
          have HS2 := Lib.hid (hs.turned (Turned.putObj W (.deferred none) (.inl hz3)))
          have k7 := cell_of_heap hs.mem.c7 0
          clear hend hs ht e1
          go_wp2_with fail
          refine ⟨by simp, .inl ⟨_, _, rfl, run_takeDeferred hK, ?_⟩⟩
          exact ⟨_, results_tmp rfl _ _ _, bs, D, rfl, by omega, HS2.out.mem.rs, HDI.out, HBW.out.trans (HS2.out.mem.below.mono (by omega))⟩
        case body =>
          rintro l K y W ⟨E, D, M, L, v, hs, ht⟩ ⟨L', v', hqu, hlt, hgt⟩ hW
          obtain ⟨e1, -⟩ := hqu.unique hs.que
          obtain rfl := map_int_inj e1
          have hyn := hs.sea.lt y (by rw [← hgt]; exact getD_in hlt)
          obtain ⟨A8, c8, hV8, hx8⟩ := hs.mem.pre y hyn
          have k9 := cell_of_heap hs.mem.c9 0
          have kr := hs.mem.rb.cell hyn
          rw [hV8] at kr
          have HV8 := Lib.hid hV8
          obtain ⟨m8, hm8⟩ : ∃ m8, (preL G n y).length = m8 := ⟨_, rfl⟩
          have hm8n : m8 ≤ n := by rw [← hm8]; exact preL_len G n y
          have HB0 := Lib.hid (show DiB W0.heap.size top n G W0 b7 b8 b9 bs bm bb bp (bp + 1) V q Tl K y W 0 W from
            ⟨E, D, M, L', v, { hs with sea := hs.sea.enter }, take_snoc hlt ht hgt, hlt, hgt, fun i hi => absurd hi (by omega), fun i _ hi => by have h := hs.sea.fresh hlt ((preL G n y).getD i 0); rw [hgt] at h; exact h, by omega, rfl, rfl⟩)
          rw [hm8] at kr
          have HM8 := Lib.hid hm8
          have hy0 : (0 : Int) ≤ (y : Int) := by omega
          have hy1 : (y : Int) < (n : Int) := by omega
          have hm80 : (0 : Int) ≤ (m8 : Int) := by omega
          clear hs ht hqu hV8 hx8 e1 hm8
          simp only [List.setIfInBounds_toArray, List.set_cons_zero, List.set_cons_succ]
          gi_wp2_with fail
          gi_loopw [68] (fun i wr => ∃ u : Nat, u ≤ m8 ∧ i = .int .i64 u ∧ Hid (DiB W0.heap.size top n G W0 b7 b8 b9 bs bm bb bp (bp + 1) V q Tl K y W u wr)) (fun i wr => m8 - (intOf i).toNat)
          case atStart => exact ⟨0, by omega, rfl, HB0.out⟩
          case round =>
            clear HB0 k9 kr
            obtain ⟨u, hu, rfl, HX⟩ := hrel
            have hu0 : (0 : Int) ≤ (u : Int) := by omega
            by_cases hum : u < m8
            · have hum2 : (u : Int) < (m8 : Int) := by omega
              obtain ⟨E, D, M, L, v, hs, htk, hlt, hgt, hd1, hd2, hsz, hl1, hl2⟩ := HX.out
              obtain ⟨A5, c5, hV5, hx5⟩ := hs.mem.pre y hyn
              have hV6 := HV8.out.symm.trans hV5
              injection hV6 with e1 _ e3
              subst e1 e3
              obtain ⟨b5, off5, rfl, _, _, _, hc5⟩ := hx5 (by rw [HM8.out]; omega)
              obtain ⟨x, hx⟩ : ∃ x, (preL G n y).getD u 0 = x := ⟨_, rfl⟩
              have kP := hc5 u (by rw [HM8.out]; exact hum)
              have hpx := preL_at (G := G) (n := n) (y := y) (u := u) (by rw [HM8.out]; exact hum)
              rw [hx] at kP hpx
              obtain ⟨hxn, hyx⟩ := hpx
              obtain ⟨bd1, bd2, bd3, bd4⟩ := hs.bound HLEN.out hxn
              obtain ⟨_, _, bd5, bd6⟩ := hs.bound HLEN.out hyn
              have k7 := cell_of_heap hs.mem.c7 0
              have k8 := cell_of_heap hs.mem.c8 0
              have ks := hs.mem.rs.cell hxn
              have fs := hs.mem.rs.frozen x
              have kw := hs.mem.rs.cell hyn
              have km := hs.mem.rm.cell hxn
              have fm := hs.mem.rm.frozen x
              have hx0 : (0 : Int) ≤ (x : Int) := by omega
              have hx1 : (x : Int) < (n : Int) := by omega
              have HSK := Lib.hid (fun hno => DiB.skip HR1.out hs htk hlt hgt hd1 hd2 hsz hl1 hl2 (by rw [HM8.out]; exact hum) hx hno)
              have HFO := Lib.hid (fun w2 w3 v' => DiB.found (w2 := w2) (w3 := w3) (v' := v') HR1.out hs htk hlt hgt hd1 hd2 hsz hl1 hl2 (by rw [HM8.out]; exact hum) hx)
              have HDQ := Lib.hid (fun a b => (hs.dq.setM x a).setD x b)
              have HQL := Lib.hid (show (natL L).length ≤ 1000 by unfold natL; rw [List.length_map]; exact Nat.le_trans hs.sea.len hn)
              clear hc5 hx5 hV5 hs htk hlt hgt hd1 hd2 hsz hl1 hl2 HX hx hyx
              generalize M x = mx at *
              generalize D x = dx at *
              generalize D y = dy at *
              by_cases hm1 : mx - 1 = 0
              · have hb1 : (mx - 1 == 0) = true := by simp [hm1]
                by_cases hd1 : dx = -1
                · subst hd1
                  gi_wp2_with fail
                  obtain ⟨W5, hW5⟩ : ∃ W5, wr.setCell ⟨bm, x, none⟩ (.int .i64 0) = W5 := ⟨_, rfl⟩
                  have e7 : W5.drew.cell? ⟨b7, 0, none⟩ = some (.slice (some ⟨bs, 0, none⟩) n n) := by rw [← hW5]; exact (World.cell?_of_block (a := ⟨b7, 0, none⟩) (set_far wr ⟨bm, x, none⟩ _ (by show b7 ≠ bm; exact n3))).trans k7
                  have ew : W5.drew.cell? ⟨bs, y, none⟩ = some (.int .i64 dy) := by rw [← hW5]; exact (World.cell?_of_block (a := ⟨bs, y, none⟩) (set_far wr ⟨bm, x, none⟩ _ (by show bs ≠ bm; exact n1))).trans kw
                  have es : W5.drew.cell? ⟨bs, x, none⟩ = some (.int .i64 (-1)) := by rw [← hW5]; exact (World.cell?_of_block (a := ⟨bs, x, none⟩) (set_far wr ⟨bm, x, none⟩ _ (by show bs ≠ bm; exact n1))).trans ks
                  have ef : W5.drew.frozen? ⟨bs, x, none⟩ = false := by rw [← hW5]; exact (World.frozen?_of_block (a := ⟨bs, x, none⟩) (set_far wr ⟨bm, x, none⟩ _ (by show bs ≠ bm; exact n1))).trans fs
                  rw [hW5]
                  have HW5 := Lib.hid hW5
                  clear hW5 k7 kw ks fs k8 km fm kP
                  refine region_round (by kernel_rfl) (by kernel_rfl) [8] (S := fun V => V.cell? ⟨b7, 0, none⟩ = some (.slice (some ⟨bs, 0, none⟩) n n) ∧ V.cell? ⟨bs, y, none⟩ = some (.int .i64 dy)) ⟨e7, ew⟩ (fun hHeld => ?_)
                  obtain ⟨W6, hW6⟩ : ∃ W6, W5.drew = W6 := ⟨_, rfl⟩
                  rw [hW6] at e7 ew es ef hHeld ⊢
                  have HW6 := Lib.hid hW6
                  clear hW6
                  refine wpAnyU_load (i := 0) (v := ?p1) rfl (by kernel_rfl) (by kernel_rfl) (by kernel_rfl) (by kernel_rfl) (fun _ _ _ h => h) (Or.inl ⟨by rfl, fun V hSw => ?q1⟩) hHeld ?t1
                  case q1 => (obtain ⟨hs1, hs2⟩ := hSw); go_simp; try with_reducible rfl
                  try simp only [Act.put, List.getElem_toArray, List.getElem_cons_zero, List.getElem_cons_succ, List.setIfInBounds_toArray, List.set_cons_zero, List.set_cons_succ]
                  refine wpAnyU_pure (i := 1) (v := ?p2) rfl (by kernel_rfl) (by kernel_rfl) (by kernel_rfl) (by kernel_rfl) (fun _ _ _ h => h) (Or.inl ⟨by rfl, fun V _ => ?q2⟩) (fun _ => hHeld) ?t2
                  case q2 => go_simp; try with_reducible rfl
                  try simp only [Act.put, List.getElem_toArray, List.getElem_cons_zero, List.getElem_cons_succ, List.setIfInBounds_toArray, List.set_cons_zero, List.set_cons_succ]
                  refine wpAnyU_load (i := 2) (v := ?p3) rfl (by kernel_rfl) (by kernel_rfl) (by kernel_rfl) (by kernel_rfl) (fun _ _ _ h => h) (Or.inl ⟨by rfl, fun V hSw => ?q3⟩) hHeld ?t3
                  case q3 => (obtain ⟨hs1, hs2⟩ := hSw); go_simp; try with_reducible rfl
                  try simp only [Act.put, List.getElem_toArray, List.getElem_cons_zero, List.getElem_cons_succ, List.setIfInBounds_toArray, List.set_cons_zero, List.set_cons_succ]
                  refine wpAnyU_pure (i := 3) (v := ?p4) rfl (by kernel_rfl) (by kernel_rfl) (by kernel_rfl) (by kernel_rfl) (fun _ _ _ h => h) (Or.inl ⟨by rfl, fun V _ => ?q4⟩) (fun _ => hHeld) ?t4
                  case q4 => go_simp; try with_reducible rfl
                  try simp only [Act.put, List.getElem_toArray, List.getElem_cons_zero, List.getElem_cons_succ, List.setIfInBounds_toArray, List.set_cons_zero, List.set_cons_succ]
                  refine wpAnyU_pure (i := 4) (v := ?p5) rfl (by kernel_rfl) (by kernel_rfl) (by kernel_rfl) (by kernel_rfl) (fun _ _ _ h => h) (Or.inl ⟨by rfl, fun V _ => ?q5⟩) (fun _ => hHeld) ?t5
                  case q5 => go_simp; try with_reducible rfl
                  try simp only [Act.put, List.getElem_toArray, List.getElem_cons_zero, List.getElem_cons_succ, List.setIfInBounds_toArray, List.set_cons_zero, List.set_cons_succ]
                  refine wpAnyU_load (i := 5) (v := ?p6) rfl (by kernel_rfl) (by kernel_rfl) (by kernel_rfl) (by kernel_rfl) (fun _ _ _ h => h) (Or.inl ⟨by rfl, fun V hSw => ?q6⟩) hHeld ?t6
                  case q6 => (obtain ⟨hs1, hs2⟩ := hSw); go_simp; try with_reducible rfl
                  try simp only [Act.put, List.getElem_toArray, List.getElem_cons_zero, List.getElem_cons_succ, List.setIfInBounds_toArray, List.set_cons_zero, List.set_cons_succ]
                  refine wpAnyU_pure (i := 6) (v := ?p7) rfl (by kernel_rfl) (by kernel_rfl) (by kernel_rfl) (by kernel_rfl) (fun _ _ _ h => h) (Or.inl ⟨by rfl, fun V _ => ?q7⟩) (fun _ => hHeld) ?t7
                  case q7 => go_simp; try with_reducible rfl
                  try simp only [Act.put, List.getElem_toArray, List.getElem_cons_zero, List.getElem_cons_succ, List.setIfInBounds_toArray, List.set_cons_zero, List.set_cons_succ]
                  refine wpAnyU_pure (i := 7) (v := ?p8) rfl (by kernel_rfl) (by kernel_rfl) (by kernel_rfl) (by kernel_rfl) (fun _ _ _ h => h) (Or.inl ⟨by rfl, fun V _ => ?q8⟩) (fun _ => hHeld) ?t8
                  case q8 => go_simp; try with_reducible rfl
                  try simp only [Act.put, List.getElem_toArray, List.getElem_cons_zero, List.getElem_cons_succ, List.setIfInBounds_toArray, List.set_cons_zero, List.set_cons_succ]
                  refine wpAnyU_ready (rs := [8]) (by kernel_rfl) (by simp) (AllU.cons (i := 8) rfl (fun K hK => ?_) AllU.nil)
                  simp only [List.getElem_toArray, List.getElem_cons_zero, List.getElem_cons_succ]
                  go_simp
                  refine hK.out _ _ (fun h => by have h2 : false = true := h; cases h2) ?_
                  clear hK K
                  try simp only [Act.put, List.getElem_toArray, List.getElem_cons_zero, List.getElem_cons_succ, List.setIfInBounds_toArray, List.set_cons_zero, List.set_cons_succ]
                  refine wpAnyU_done (by kernel_rfl) (only_normal ?_) _
                  have HD5 := Lib.hid (HDQ.out (mx - 1) (dy + 1))
                  rw [hm1] at HD5 HFO
                  have hw56 : W6.setCell ⟨bs, x, none⟩ (.int .i64 (dy + 1)) = ((wr.setCell ⟨bm, x, none⟩ (.int .i64 0)).setCell ⟨bs, x, none⟩ (.int .i64 (dy + 1))).drew := by rw [HW5.out, ← HW6.out]; rfl
                  have HD6 := Lib.hid HD5.out.drew
                  have HW7 := Lib.hid hw56
                  have hwr : IntKind.i64.wrap (dy + 1) = dy + 1 := IntWalk.i64_in (dy + 1) ⟨by omega, by omega⟩
                  rw [hwr, hw56]
                  clear hwr
                  clear hw56
                  gi_wp2_with fail
                  refine ⟨trivial, (CallsIn.inRound l (callsIn_wide.2 (add_any (top + 1) top _ v x _ HD6.out.que (by omega) HD6.out.siz (by have := HQL.out; omega)))).mono ?_⟩
                  rintro r w5 ⟨rfl, q5, hq5, hb5, hk5, hv5⟩
                  have HN := Lib.hid (HFO.out _ _ _ (by first | rfl | trivial) (by first | rfl | trivial) (.inr rfl) hq5 hb5 hk5 hv5)
                  clear hq5 hb5 hk5 hv5
                  gi_wp2_with fail
                  go_roundw
                  case rel => exact ⟨u + 1, by omega, by go_num, HN.out⟩
                  case measure => simp [intOf]; omega
                · have hb2 : (dx == -1) = false := by simp [hd1]
                  gi_wp2_with fail
                  go_roundw
                  case rel => exact ⟨u + 1, by omega, by go_num, by have h := HSK.out (.inr hd1); rw [hm1] at h; exact h⟩
                  case measure => simp [intOf]; omega
              · have hb1 : (mx - 1 == 0) = false := by simp [hm1]
                gi_wp2_with fail
                go_roundw
                case rel => exact ⟨u + 1, by omega, by go_num, HSK.out (.inl hm1)⟩
                case measure => simp [intOf]; omega
            · obtain rfl : u = m8 := by omega
              have HF := Lib.hid (DiB.whole (by rw [HM8.out]; exact HX.out))
              clear HX
              gi_wp2_with fail
              rw [hz3]
              exact HF.out
      | succ g =>
        have hjl : j < n := by omega
        have hjl2 : (j : Int) < (n : Int) := by omega
        have HW := Lib.hid hq.mem.below
        have HQ := Lib.hid hq
        have HDM := Lib.hid hdm
        obtain ⟨g0, g2⟩ := HQ0.out _ HW.out
        obtain ⟨bT, oT, rfl, hbT, hcT⟩ := HT.out (by omega)
        have kT := (HW.out.cell (p := ⟨bT, oT + j, none⟩) hbT).trans (hcT j hjl)
        obtain ⟨bO, oO, rfl, hbO, hcO⟩ := (H0.out.o).2 (by omega)
        have kO0 := hcO j hjl
        obtain ⟨bX, oX, rfl, hbX, hcX⟩ := (H0.out.x).2 (by omega)
        obtain ⟨lX, cX, kX0, _⟩ := hcX j hjl
        have HTJ := Lib.hid (hcT j hjl)
        have HKO := Lib.hid (fun W (hW : Below W0.heap.size W0 W) => (hW.cell (p := ⟨bO, oO + j, none⟩) hbO).trans kO0)
        have HKX := Lib.hid (fun W (hW : Below W0.heap.size W0 W) => (hW.cell (p := ⟨bX, oX + j, none⟩) hbX).trans kX0)
        have k7 := cell_of_heap hq.mem.c7 0
        have k8 := cell_of_heap hq.mem.c8 0
        have ks := hq.mem.rs.cell hjl
        have fs := hq.mem.rs.frozen j
        have km := hq.mem.rm.cell hjl
        have fm := hq.mem.rm.frozen j
        clear hq hdm HX hcT hcO hcX kO0 kX0
        go_upto_region 6 with fail
        go_cut [] from 32 to 60 (fun wx => Hid (DiQ W0.heap.size top n G W0 b7 b8 b9 bs bm bb V (updN D j (-1)) (updN M j 1) (natL ((List.range j).filter Tl)) v wx))
        case first =>
          go_region
          all_goals (go_wp2_with fail; go_meet)
          all_goals
            case rel => first | exact ((HQ.out.setD j (-1)).setM j 1).drew | exact ((HQ.out.setM j 1).setD j (-1)).drew | exact (HQ.out.drew.setD j (-1)).setM j 1 | exact (HQ.out.drew.setM j 1).setD j (-1) | exact ((HQ.out.setD j (-1)).drew.setM j 1) | exact ((HQ.out.setM j 1).drew.setD j (-1))
        case rest =>
          clear g0 g2 k7 k8 ks fs km fm kT
          obtain ⟨oj, hoj⟩ : ∃ oj, G.O.getD j 0 = oj := ⟨_, rfl⟩
          have HOJ := Lib.hid hoj
          rw [hoj] at HKO
          obtain ⟨lj, hlj⟩ : ∃ lj, (G.X.getD j []).length = lj := ⟨_, rfl⟩
          have HLJ := Lib.hid hlj
          rw [hlj] at HKX
          clear hlj
          have HQ := Lib.hid hcut.out
          have HW := Lib.hid HQ.out.mem.below
          obtain ⟨g0, g2⟩ := HQ0.out _ HW.out
          have kT := (HW.out.cell (p := ⟨bT, oT + j, none⟩) hbT).trans (HTJ.out)
          have kO := HKO.out _ HW.out
          have kX := HKX.out _ HW.out
          have k7 := cell_of_heap HQ.out.mem.c7 0
          have k8 := cell_of_heap HQ.out.mem.c8 0
          have ks := HQ.out.mem.rs.cell hjl
          have fs := HQ.out.mem.rs.frozen j
          have km := HQ.out.mem.rm.cell hjl
          have fm := HQ.out.mem.rm.frozen j
          have hxl2 : lj ≤ 64 := by rw [← HLJ.out]; exact gmB_len HV.out j
          have HTL := Lib.hid (natL_len Tl j)
          by_cases ho : oj = q
          · have hneq : (oj != q) = false := by simp [ho]
            have HOW := Lib.hid (show ownB G q j = true by unfold ownB; rw [HOJ.out]; exact decide_eq_true ho)
            clear HOJ HKO kX HKX
            cases hTj : Tl j
            · rw [hTj] at kT
              have HTF := Lib.hid hTj
              clear hTj
              go_wp2_with fail
              go_roundg g
              case measure => omega
              case rel => exact ⟨j + 1, by omega, by go_num, DiL.next HQ.out (natL_no HTF.out) HDM.out (by rw [HTF.out]; rfl) (by rw [HOW.out]; rfl)⟩
            · rw [hTj] at kT
              have HTF := Lib.hid hTj
              clear hTj
              go_wp2_with fail
              have HQ5 := Lib.hid (HQ.out.setD j 0)
              refine (add_any (top + 1) top _ v j _ HQ5.out.que (by omega) HQ5.out.siz (by have := HTL.out; omega)).mono ?_
              rintro r w5 ⟨rfl, q5, hq5, hb5, -, -⟩
              have HQ6 := Lib.hid (HQ5.out.added hq5 hb5)
              clear hq5 hb5
              go_wp2_with fail
              go_roundg g
              case measure => omega
              case rel => exact ⟨j + 1, by omega, by go_num, DiL.next (by have h := HQ6.out; rw [updN_twice] at h; exact h) (natL_yes HTF.out) HDM.out (by rw [HTF.out]; rfl) (by rw [HOW.out]; rfl)⟩
          · have hneq : (oj != q) = true := by simp [ho]
            have HOW := Lib.hid (show ownB G q j = false by unfold ownB; rw [HOJ.out]; exact decide_eq_false ho)
            clear HOJ
            go_upto_region 8 with fail
            go_cut [] from 45 to 60 (fun wx => Hid (DiQ W0.heap.size top n G W0 b7 b8 b9 bs bm bb V (updN D j (-1)) (updN M j (lj : Int)) (natL ((List.range j).filter Tl)) v wx))
            case first =>
              go_region
              all_goals (go_wp2_with fail; go_meet)
              all_goals
                case rel =>
                  have h := (HQ.out.setM j (lj : Int))
                  rw [updN_twice] at h
                  first | exact h | exact h.drew
            case rest =>
              clear HQ HW g0 g2 kT kO kX k7 k8 ks fs km fm
              have HQ := Lib.hid hcut.out
              have HW := Lib.hid HQ.out.mem.below
              have kT := (HW.out.cell (p := ⟨bT, oT + j, none⟩) hbT).trans (HTJ.out)
              have k7 := cell_of_heap HQ.out.mem.c7 0
              have ks := HQ.out.mem.rs.cell hjl
              have fs := HQ.out.mem.rs.frozen j
              clear hcut
              cases hTj : Tl j
              · rw [hTj] at kT
                have HTF := Lib.hid hTj
                clear hTj
                go_wp2_with fail
                go_roundg g
                case measure => omega
                case rel => exact ⟨j + 1, by omega, by go_num, DiL.next HQ.out (natL_no HTF.out) HDM.out (by rw [HTF.out]; rfl) (by rw [HOW.out, HLJ.out]; rfl)⟩
              · rw [hTj] at kT
                have HTF := Lib.hid hTj
                clear hTj
                go_wp2_with fail
                have HQ5 := Lib.hid (HQ.out.setD j 0)
                refine (add_any (top + 1) top _ v j _ HQ5.out.que (by omega) HQ5.out.siz (by have := HTL.out; omega)).mono ?_
                rintro r w5 ⟨rfl, q5, hq5, hb5, -, -⟩
                have HQ6 := Lib.hid (HQ5.out.added hq5 hb5)
                clear hq5 hb5
                go_wp2_with fail
                go_roundg g
                case measure => omega
                case rel => exact ⟨j + 1, by omega, by go_num, DiL.next (by have h := HQ6.out; rw [updN_twice] at h; exact h) (natL_yes HTF.out) HDM.out (by rw [HTF.out]; rfl) (by rw [HOW.out, HLJ.out]; rfl)⟩

end Go.Proofs.Ytffdbncjndnnaaa.Wd
