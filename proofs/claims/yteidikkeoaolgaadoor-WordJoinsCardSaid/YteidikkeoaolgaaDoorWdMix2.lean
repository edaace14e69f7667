/-
  Mix of package word, where both numbers may stand.
-/
import Derived.Test.YteidikkeoaolgaaDoorWdMix
namespace Go.Proofs.YteidikkeoaolgaaDoor.Wd
open Go.RowKit
set_option linter.unusedVariables false

theorem valid_mono {k : Nat} {s l : List Int} (hk : k ≤ 6) (h : validB k s l = true) : validB 6 s l = true := by
  have hp : (2 : Int) ^ k ≤ 64 := by
    have : k = 0 ∨ k = 1 ∨ k = 2 ∨ k = 3 ∨ k = 4 ∨ k = 5 ∨ k = 6 := by omega
    rcases this with rfl | rfl | rfl | rfl | rfl | rfl | rfl <;> decide
  have hlt : ∀ l : List Int, lettersB ((2 : Int) ^ k) l = true → lettersB 64 l = true := by
    intro l h
    simp only [lettersB, List.all_eq_true, Bool.and_eq_true, decide_eq_true_eq] at h ⊢
    intro x hx
    have := h x hx
    omega
  unfold validB at h ⊢
  rw [two6]
  simp only [Bool.and_eq_true, decide_eq_true_eq, Int.toNat_natCast] at h ⊢
  exact ⟨⟨⟨⟨by omega, h.1.1.1.2⟩, h.1.1.2⟩, hlt _ h.1.2⟩, hlt _ h.2⟩

theorem shl_small {y : Int} {k : Nat} (h0 : 0 ≤ y) (h1 : y < 64) (hk : k ≤ 6) : ∃ Y : Int, wrap64 (y * (2 : Int) ^ k) = Y ∧ Y = y * (2 : Int) ^ k ∧ 0 ≤ Y ∧ Y ≤ 5000 := by
  have : k = 0 ∨ k = 1 ∨ k = 2 ∨ k = 3 ∨ k = 4 ∨ k = 5 ∨ k = 6 := by omega
  refine ⟨y * (2 : Int) ^ k, IntWalk.wrap64_in _ ?_, rfl, ?_, ?_⟩
  all_goals
    rcases this with rfl | rfl | rfl | rfl | rfl | rfl | rfl
    all_goals (first | omega | (constructor <;> omega))

set_option maxRecDepth 100000 in
set_option maxHeartbeats 2000000 in
theorem Mix_arg (A B A' B' : Option Addr) (n c m d n' c' m' d' : Nat) (s l s' l' : List Int) (k j : Nat) (f : Nat → Int) (w : World) (ha : Ints w A n s) (hb : Ints w B m l) (ha' : Ints w A' n' s') (hb' : Ints w B' m' l') (h1 : n + m ≤ 100000) (h1' : n' + m' ≤ 100000) (hkj : k + j ≤ 6)
    (hbad : (validB k s l && validB j s' l') = false) :
    Calls Tryd.prog 15 #[.agg #[.slice A n c, .slice B m d], .agg #[.slice A' n' c', .slice B' m' d'], .int .i64 k, .int .i64 j] w fun e w' => ResM w w' (rngM k j) (validB k s l && validB j s' l') f e := by
  have hn : n ≤ 100000 := by omega
  have hm : m ≤ 100000 := by omega
  have hn' : n' ≤ 100000 := by omega
  have hm' : m' ≤ 100000 := by omega
  have HR := Lib.hid (show rngM k j = true by simp [rngM]; omega)
  have HBAD := Lib.hid hbad
  have hk6 : (k : Int) ≤ 6 := by omega
  have hj6 : (j : Int) ≤ 6 - (k : Int) := by omega
  have hk0 : (0 : Int) ≤ (k : Int) := by omega
  have hj0 : (0 : Int) ≤ (j : Int) := by omega
  go_enter Tryd.func15, Tryd.ntmps15
  go_wp2_with fail
  refine (valid_any A B n c m d k s l _ (((ha.alloc _).alloc _).alloc _) (((hb.alloc _).alloc _).alloc _) hn hm).mono ?_
  rintro e w1 ⟨rfl, hb1⟩
  have hbw : Below w.heap.size w w1 := ((((Below.refl _ _).alloc (Nat.le_refl _) _).alloc (by simp) _).alloc (by simp; omega) _).trans (hb1.mono (by simp; omega))
  obtain ⟨⟨⟨p0, p1⟩, ⟨q0, q1⟩, ⟨u0, u1⟩⟩, ⟨_, ⟨u2, u3⟩⟩, hz⟩ := boxes3 hb1
  have hz1 : w.heap.size + 1 < w1.heap.size := by omega
  clear hb1
  cases hv : validB k s l
  · go_wp2_with fail
    refine bodyPost_ret (v := .tuple #[.agg #[.slice none 0 0, .slice none 0 0], .int .i64 1]) (by simp [results, Tryd.results15, go_sem, u0, u1]) rfl ?_
    exact ResM.bad ((hbw.setCell (p := ⟨w.heap.size + 1 + 1, 0, none⟩) (by show w.heap.size ≤ w.heap.size + 1 + 1; omega) _).setCell (p := ⟨w.heap.size + 1 + 1, 1, none⟩) (by show w.heap.size ≤ w.heap.size + 1 + 1; omega) _) HR.out HBAD.out
  · have hv' : validB j s' l' = false := by rw [hv] at hbad; simpa using hbad
    have HV' := Lib.hid hv'
    clear hbad hv'
    go_wp2_with fail
    refine (valid_any A' B' n' c' m' d' j s' l' _ (ha'.below hbw) (hb'.below hbw) hn' hm').mono ?_
    rintro e w2 ⟨rfl, hb2⟩
    rw [HV'.out]
    have v0 := (hb2.cell (p := ⟨w.heap.size + 1 + 1, 0, none⟩) hz).trans u0
    have v1 := (hb2.cell (p := ⟨w.heap.size + 1 + 1, 1, none⟩) hz).trans u1
    have v2 := (hb2.frozen (p := ⟨w.heap.size + 1 + 1, 0, none⟩) hz).trans u2
    have v3 := (hb2.frozen (p := ⟨w.heap.size + 1 + 1, 1, none⟩) hz).trans u3
    have hz2 : w.heap.size + 1 + 1 < w2.heap.size := by have := hb2.size; omega
    have hbw2 := hbw.trans (hb2.mono hbw.size)
    clear hb2
    go_wp2_with fail
    refine bodyPost_ret (v := .tuple #[.agg #[.slice none 0 0, .slice none 0 0], .int .i64 1]) (by simp [results, Tryd.results15, go_sem, v0, v1]) rfl ?_
    exact ResM.bad ((hbw2.setCell (p := ⟨w.heap.size + 1 + 1, 0, none⟩) (by show w.heap.size ≤ w.heap.size + 1 + 1; omega) _).setCell (p := ⟨w.heap.size + 1 + 1, 1, none⟩) (by show w.heap.size ≤ w.heap.size + 1 + 1; omega) _) HR.out HBAD.out

theorem firstL_get {s l : List Int} {i N : Nat} (h : i < N) : (firstL s l N)[i]? = some (.int .i64 (at_ s l i)) := by simp [firstL, h]

set_option maxRecDepth 100000 in
set_option maxHeartbeats 8000000 in
theorem Mix_good (A B A' B' : Option Addr) (n c m d n' c' m' d' : Nat) (s l s' l' : List Int) (k j : Nat) (w : World) (ha : Ints w A n s) (hb : Ints w B m l) (ha' : Ints w A' n' s') (hb' : Ints w B' m' l') (hkj : k + j ≤ 6)
    (hv : validB k s l = true) (hv' : validB j s' l' = true) :
    Calls Tryd.prog 15 #[.agg #[.slice A n c, .slice B m d], .agg #[.slice A' n' c', .slice B' m' d'], .int .i64 k, .int .i64 j] w fun e w' => ResM w w' true true (mixF s l s' l' k) e := by
  have hw6 := valid_mono (by omega) hv
  have hw6' := valid_mono (by omega) hv'
  have hl6 := valid6 hw6
  have hl6' := valid6 hw6'
  have hx := ha.1
  have hy := hb.1
  have hx' := ha'.1
  have hy' := hb'.1
  have hn : n ≤ 200 := by omega
  have hm : m ≤ 200 := by omega
  have hn' : n' ≤ 200 := by omega
  have hm' : m' ≤ 200 := by omega
  have hm0 : 0 < m := by omega
  have hm0' : 0 < m' := by omega
  obtain ⟨st, hst⟩ : ∃ st, max n n' = st := ⟨_, rfl⟩
  have hst1 : n ≤ st ∧ n' ≤ st ∧ st ≤ 200 := by omega
  have HST := Lib.hid hst
  have HV := Lib.hid hv
  have HV' := Lib.hid hv'
  have HW := Lib.hid hw6
  have HW' := Lib.hid hw6'
  have HX := Lib.hid (show s.length = n ∧ l.length = m ∧ s'.length = n' ∧ l'.length = m' from ⟨hx, hy, hx', hy'⟩)
  have hk6 : (k : Int) ≤ 6 := by omega
  have hj6 : (j : Int) ≤ 6 - (k : Int) := by omega
  have hk0 : (0 : Int) ≤ (k : Int) := by omega
  have hj0 : (0 : Int) ≤ (j : Int) := by omega
  clear hl6 hl6' hx hy hx' hy' hv hv' hw6 hw6' hst
  go_enter Tryd.func15, Tryd.ntmps15
  go_wp2_with fail
  refine (valid_any A B n c m d k s l _ (((ha.alloc _).alloc _).alloc _) (((hb.alloc _).alloc _).alloc _) (by omega) (by omega)).mono ?_
  rintro e w1 ⟨rfl, hb1⟩
  rw [HV.out]
  have hbw : Below w.heap.size w w1 := ((((Below.refl _ _).alloc (Nat.le_refl _) _).alloc (by simp) _).alloc (by simp; omega) _).trans (hb1.mono (by simp; omega))
  obtain ⟨⟨⟨_, _⟩, ⟨q0, q1⟩, ⟨_, _⟩⟩, ⟨_, ⟨_, _⟩⟩, hz⟩ := boxes3 hb1
  have hz1 : w.heap.size + 1 < w1.heap.size := by omega
  go_wp2_with fail
  refine (valid_any A' B' n' c' m' d' j s' l' _ (ha'.below hbw) (hb'.below hbw) (by omega) (by omega)).mono ?_
  rintro e w2 ⟨rfl, hb2⟩
  rw [HV'.out]
  have hb3 := hb1.trans (hb2.mono hb1.size)
  have hbw2 := hbw.trans (hb2.mono hbw.size)
  clear hb1 hbw q0 q1 hz hz1
  obtain ⟨⟨⟨p0, p1⟩, ⟨q0, q1⟩, ⟨u0, u1⟩⟩, ⟨_, ⟨u2, u3⟩⟩, hz⟩ := boxes3 hb3
  have hz1 : w.heap.size + 1 < w2.heap.size := by omega
  have hz0 : w.heap.size < w2.heap.size := by omega
  have HA := Lib.hid (ha.below hbw2)
  have HB := Lib.hid (hb.below hbw2)
  have HA' := Lib.hid (ha'.below hbw2)
  have HB' := Lib.hid (hb'.below hbw2)
  clear hb2 hb3 ha hb ha' hb'
  have hmx : max (n : Int) (n' : Int) = (st : Int) := by have := HST.out; omega
  go_wp2_with fail
  refine (leastMultiple_any m m' _ hm0 hm0' (by omega) (by omega)).mono ?_
  rintro e w3 ⟨Lm, i1, i2, rfl, HL, hL0, hL1, rfl⟩
  obtain ⟨N, hN⟩ : ∃ N, st + Lm = N := ⟨_, rfl⟩
  have hsum : (st : Int) + (Lm : Int) = (N : Int) := by omega
  have hNst : st < N ∧ N ≤ 90200 := by omega
  have HN := Lib.hid hN
  clear hN
  go_wp2_with fail
  clear hsum
  go_region_held3 (fun V => V.cell? ⟨w.heap.size, 0, none⟩ = some (.slice A n c) ∧ V.cell? ⟨w.heap.size, 1, none⟩ = some (.slice B m d) ∧ V.cell? ⟨w.heap.size + 1, 0, none⟩ = some (.slice A' n' c') ∧ V.cell? ⟨w.heap.size + 1, 1, none⟩ = some (.slice B' m' d'))
    (first
      | go_keep
      | (refine ⟨?_, ?_, ?_, ?_⟩
         · rw [k2.cell (by simpa using hz0)]; exact p0
         · rw [k2.cell (by simpa using hz0)]; exact p1
         · rw [k2.cell (by simpa using hz1)]; exact q0
         · rw [k2.cell (by simpa using hz1)]; exact q1)
      | (refine ⟨?_, ?_, ?_, ?_⟩
         · rw [k1.cell (by simpa using hz0)]; exact p0
         · rw [k1.cell (by simpa using hz0)]; exact p1
         · rw [k1.cell (by simpa using hz1)]; exact q0
         · rw [k1.cell (by simpa using hz1)]; exact q1))
    (first
      | (have hgo := k1; clear hgo; go_at_call 61; refine (first_any A' B' n' c' m' d' s' l' N _ (HA'.out.below k1) (HB'.out.below k1) (by omega) (by omega) hm0' (by omega)).mono ?_; rintro e z2 ⟨A2, c2, rfl, HO2, hc2, b2⟩; have k2 : Below w2.heap.size w2 z2 := k1.trans (b2.mono k1.size))
      | (go_at_call 61; refine (first_any A B n c m d s l N _ HA.out.drew HB.out.drew (by omega) (by omega) hm0 (by omega)).mono ?_; rintro e z1 ⟨A1, c1, rfl, HO1, hc1, b1⟩; have k1 : Below w2.heap.size w2 z1 := ((Below.refl _ _).drew).trans b1)
      | fail)
  have hN0 : 0 < N := by omega
  have hr1 := own_below HO1.out b2
  obtain ⟨g1, cap1, hv1, hg1, hlt1⟩ := HO1.out.form hN0
  obtain ⟨g2, cap2, hv2, hg2, hlt2⟩ := HO2.out.form hN0
  have hA1 : A1 = some ⟨g1, 0, none⟩ := by injection hv1
  have hA2 : A2 = some ⟨g2, 0, none⟩ := by injection hv2
  have HG := Lib.hid (show w2.heap.size ≤ g1 ∧ w2.heap.size ≤ g2 ∧ g1 ≠ g2 from ⟨hg1, Nat.le_trans k1.size hg2, by omega⟩)
  subst hA1 hA2
  have HR1 := Lib.hid hr1
  rw [← rowL_start (mixF s l s' l' k) s l N] at HR1
  have HR2 := Lib.hid (own_le HO2.out k1.size)
  clear hv1 hv2 hr1 HO1 HO2 b1 b2 hg1 hg2 hlt1 hlt2
  have hP := wrap_pow (show k ≤ 6 by omega)
  go_wp2_with fail
  go_loopg [68] N (fun g i wx => ∃ t : Nat, t + g = N ∧ i = .int .i64 t ∧ Hid (wx.ownsRow w2.heap.size 3 1 (.slice (some ⟨g1, 0, none⟩) N c1) N (rowL (mixF s l s' l' k) (at_ s l) t N)) ∧
    Hid (wx.ownsRow w2.heap.size 3 1 (.slice (some ⟨g2, 0, none⟩) N c2) N (firstL s' l' N)) ∧ Below w2.heap.size w2 wx)
  case atStart => exact ⟨0, by omega, rfl, HR1, HR2, k2⟩
  case round =>
    obtain ⟨t, hjg, rfl, H1, H2, hbx⟩ := hrel
    cases gk with
    | zero =>
      obtain rfl : N = t := by omega
      have o1 := H1.out
      rw [rowL_end] at o1
      have HI1 := Lib.hid (Ints.of_own o1)
      clear o1 H1 H2
      have hcn1 : ¬ c1 = st := by omega
      have HSW1 := Lib.hid (show at_ (((List.range N).map (mixF s l s' l' k)).take st) (((List.range N).map (mixF s l s' l' k)).drop st) = mixF s l s' l' k by
        rw [← HN.out]
        have hx := HX.out
        exact seq_word hL0 (fun j hj => mixF_per (st := st) (by omega) (by omega) (by rw [hx.2.1]; exact HL.out.1) (by rw [hx.2.2.2]; exact HL.out.2) j hj))
      have HC1 := Lib.hid (HI1.out.cut (k := st) (cap := c1) (by omega) (by omega))
      have hadd : ∀ g : Nat, Option.map (fun x : Addr => x.add st) (some ⟨g, 0, none⟩) = some ⟨g, st, none⟩ := fun g => by
        show some ((⟨g, 0, none⟩ : Addr).add st) = _
        rw [Addr.add_lit, Nat.zero_add]
      rw [if_neg hcn1, hadd] at HC1
      clear hadd
      have HT1 := Lib.hid (HI1.out.take (k := st) (by omega))
      have i0' : (0 : Int) ≤ (st : Int) := by omega
      have i1' : (st : Int) ≤ (N : Int) := by omega
      have i2' : (st : Int) ≤ (c1 : Int) := by omega
      have i3' : (N : Int) ≤ (c1 : Int) := by omega
      go_wp2_with fail
      go_region_held3 (fun _ => True) (first | trivial)
        (first
          | (have hgo := e1; clear hgo; go_at_call 57
             refine (fitting_any A3 B3 n3 c3 m3 d3 s3 l3 (mixF s l s' l' k) _ ha3 hb3 HQ3.out.1 HQ3.out.2 hnc3 hmd3 HQ4).mono ?_
             rintro e w4 ⟨A4, n4, c4, B4, m4, d4, s4, l4, code, rfl, ⟨ha4, hb4, hnc4, hmd4⟩, HN4, b4⟩
             have e2 : Below wr.heap.size wr w4 := e1.trans (b4.mono e1.size)
             have hbx4 : Below w2.heap.size w2 w4 := hbx.trans (e2.mono hbx.size)
             have t0 := (hbx4.cell (p := ⟨w.heap.size + 1 + 1, 0, none⟩) hz).trans u0
             have t1 := (hbx4.cell (p := ⟨w.heap.size + 1 + 1, 1, none⟩) hz).trans u1
             have t2 := (hbx4.frozen (p := ⟨w.heap.size + 1 + 1, 0, none⟩) hz).trans u2
             have t3 := (hbx4.frozen (p := ⟨w.heap.size + 1 + 1, 1, none⟩) hz).trans u3
             have hz4 : w.heap.size + 1 + 1 < w4.heap.size := by have := hbx4.size; omega)
          | (go_at_call 51
             refine (normal_parts (some ⟨g1, 0, none⟩) (some ⟨g1, st, none⟩) st c1 (N - st) (c1 - st) (((List.range N).map (mixF s l s' l' k)).take st) (((List.range N).map (mixF s l s' l' k)).drop st) _ HT1.out.drew HC1.out.drew (by omega) (by omega) (by omega) (by omega) (by omega)).mono ?_
             rintro e w3 ⟨A3, n3, c3, B3, m3, d3, s3, l3, rfl, ⟨ha3, hb3, hnc3, hmd3⟩, HN3, b3⟩
             have e1 : Below wr.heap.size wr w3 := ((Below.refl _ _).drew).trans b3
             have HQ3 : Hid (n3 ≤ 100000 ∧ m3 ≤ 100000) := by have h1 := ha3.1; have h2 := hb3.1; have h3 := HN3.out; exact ⟨by omega, by omega⟩
             have HQ4 : Hid (NF (mixF s l s' l' k) s3 l3) := by have := HN3.out.1; rw [HSW1.out] at this; exact this)
          | fail)
      go_wp2_with fail
      refine bodyPost_ret (v := .tuple #[.agg #[.slice A4 n4 c4, .slice B4 m4 d4], .int .i64 code]) (by simp [results, Tryd.results15, go_sem, t0, t1]) rfl ?_
      have t1' := (World.cell?_setCell_other w4 ⟨w.heap.size + 1 + 1, 0, none⟩ ⟨w.heap.size + 1 + 1, 1, none⟩ (.slice A4 n4 c4) (by simp)).trans t1
      exact ⟨A4, n4, c4, B4, m4, d4, s4, l4, code, rfl, ⟨(ha4.set t0 (by simp) _).set t1' (by simp) _, (hb4.set t0 (by simp) _).set t1' (by simp) _, hnc4, hmd4⟩, ⟨.inr ⟨rfl, HN4.out.1⟩, HN4.out.2⟩,
        ((hbw2.trans (hbx4.mono hbw2.size)).setCell (p := ⟨w.heap.size + 1 + 1, 0, none⟩) (by show w.heap.size ≤ w.heap.size + 1 + 1; omega) _).setCell (p := ⟨w.heap.size + 1 + 1, 1, none⟩) (by show w.heap.size ≤ w.heap.size + 1 + 1; omega) _⟩
    | succ g =>
      have hlt : t < N := by omega
      have x1 := (H1.out.cellAt t (by omega)).trans (rowL_get hlt)
      have x2 := (H2.out.cellAt t (by omega)).trans (firstL_get hlt)
      have y1 := H1.out.frozenAt t
      generalize hxv : at_ s l t = x at x1
      generalize hyv : at_ s' l' t = y at x2
      have hx0 : 0 ≤ x := by rw [← hxv]; exact (letter_at HW.out t).1
      have hx1 : x < 64 := by rw [← hxv]; exact (letter_at HW.out t).2
      have hy0 : 0 ≤ y := by rw [← hyv]; exact (letter_at HW'.out t).1
      have hy1 : y < 64 := by rw [← hyv]; exact (letter_at HW'.out t).2
      obtain ⟨Y, hshl, hYe, hY0, hY1⟩ := shl_small hy0 hy1 (show k ≤ 6 by omega)
      have HM := Lib.hid (show mixF s l s' l' k t = x + Y by unfold mixF; rw [hxv, hyv, hYe])
      clear hYe hxv hyv
      go_wp2_with fail
      go_region
      all_goals
        go_wp2_with fail
        go_roundg g
        case measure => omega
        case rel =>
          have s1 := (H1.out.stored t (.int .i64 (x + Y))).1
          rw [← HM.out, rowL_set hlt] at s1
          refine ⟨t + 1, by omega, by go_num, ?_, ?_, ?_⟩
          · rw [HM.out] at s1
            exact s1
          · exact ownsRow_setCell_other H2.out (a := ⟨g1, t, none⟩) (by have := HG.out; simp [Value.ownBlock]; omega) (.int .i64 (x + Y))
          · exact (hbx.setCell (p := ⟨g1, t, none⟩) HG.out.1 _).drew

theorem Mix_any (A B A' B' : Option Addr) (n c m d n' c' m' d' : Nat) (s l s' l' : List Int) (k j : Int) (w : World) (ha : Ints w A n s) (hb : Ints w B m l) (ha' : Ints w A' n' s') (hb' : Ints w B' m' l') (h1 : n + m ≤ 100000) (h1' : n' + m' ≤ 100000)
    (hk : -9223372036854775808 ≤ k ∧ k ≤ 9223372036854775807) (hj : -9223372036854775808 ≤ j ∧ j ≤ 9223372036854775807) :
    Calls Tryd.prog 15 #[.agg #[.slice A n c, .slice B m d], .agg #[.slice A' n' c', .slice B' m' d'], .int .i64 k, .int .i64 j] w fun e w' => ResM w w' (rngM k j) (validB k s l && validB j s' l') (mixF s l s' l' k.toNat) e := by
  cases hr : rngM k j
  · rw [← hr]
    exact Mix_range A B A' B' n c m d n' c' m' d' k j _ _ w hr hk hj
  · have h3 : 0 ≤ k ∧ 0 ≤ j ∧ k + j ≤ 6 := by simpa [rngM, and_assoc] using hr
    obtain ⟨k', rfl⟩ := Int.eq_ofNat_of_zero_le h3.1
    obtain ⟨j', rfl⟩ := Int.eq_ofNat_of_zero_le h3.2.1
    cases hv : (validB k' s l && validB j' s' l')
    · have := Mix_arg A B A' B' n c m d n' c' m' d' s l s' l' k' j' (mixF s l s' l' (k' : Int).toNat) w ha hb ha' hb' h1 h1' (by omega) hv
      rw [hr, hv] at this
      exact this
    · rw [Bool.and_eq_true] at hv
      exact Mix_good A B A' B' n c m d n' c' m' d' s l s' l' k' j' w ha hb ha' hb' (by omega) hv.1 hv.2

end Go.Proofs.YteidikkeoaolgaaDoor.Wd
