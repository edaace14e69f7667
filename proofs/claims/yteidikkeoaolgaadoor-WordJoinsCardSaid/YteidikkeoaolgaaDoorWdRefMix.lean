/-
  Mix of the reference.
-/
import Derived.Test.YteidikkeoaolgaaDoorWdMix2
import Derived.Test.YteidikkeoaolgaaDoorWdRefValid
import Derived.Test.YteidikkeoaolgaaDoorWdRdS
import Derived.Test.YteidikkeoaolgaaDoorWdAwake
namespace Go.Proofs.YteidikkeoaolgaaDoor.Wd
open Go.RowKit
set_option linter.unusedVariables false

set_option maxRecDepth 100000 in
set_option maxHeartbeats 2000000 in
theorem refMix_range (A B A' B' : Option Addr) (n c m d n' c' m' d' : Nat) (k j : Int) (ok : Bool) (f : Nat → Int) (w : World) (hbad : rngM k j = false) :
    Calls Tryd.prog 16 #[.agg #[.slice A n c, .slice B m d], .agg #[.slice A' n' c', .slice B' m' d'], .int .i64 k, .int .i64 j] w fun e w' => ResM w w' (rngM k j) ok f e := by
  have HB := Lib.hid hbad
  have hcase : k < 0 ∨ (0 ≤ k ∧ j < 0) ∨ (0 ≤ k ∧ 0 ≤ j ∧ 6 < k) ∨ (0 ≤ k ∧ 0 ≤ j ∧ k ≤ 6 ∧ 6 < j) ∨ (0 ≤ k ∧ 0 ≤ j ∧ k ≤ 6 ∧ j ≤ 6 ∧ 6 < k + j) := by
    simp only [rngM, Bool.and_eq_false_iff, decide_eq_false_iff_not] at hbad
    omega
  clear hbad
  have hbw : Below w.heap.size w (((w.alloc (.cells #[.slice A n c, .slice B m d] 24)).alloc (.cells #[.slice A' n' c', .slice B' m' d'] 24)).alloc (.cells #[.slice none 0 0, .slice none 0 0] 24)) := (((Below.refl _ _).alloc (Nat.le_refl _) _).alloc (by simp) _).alloc (by simp; omega) _
  rcases hcase with h | ⟨h, h2⟩ | ⟨h, h2, h3⟩ | ⟨h, h2, h3, h4⟩ | ⟨h, h2, h3, h4, h5⟩
  all_goals
    go_enter Tryd.func16, Tryd.ntmps16
    go_wp2_with fail
    refine bodyPost_ret (v := .tuple #[.agg #[.slice none 0 0, .slice none 0 0], .int .i64 6]) (by simp [results, Tryd.results16, go_sem]) rfl ?_
    exact ResM.range hbw HB.out

set_option maxRecDepth 100000 in
set_option maxHeartbeats 2000000 in
theorem refMix_arg (A B A' B' : Option Addr) (n c m d n' c' m' d' : Nat) (s l s' l' : List Int) (k j : Nat) (f : Nat → Int) (w : World) (ha : Ints w A n s) (hb : Ints w B m l) (ha' : Ints w A' n' s') (hb' : Ints w B' m' l') (h1 : n + m ≤ 100000) (h1' : n' + m' ≤ 100000) (hkj : k + j ≤ 6)
    (hbad : (validB k s l && validB j s' l') = false) :
    Calls Tryd.prog 16 #[.agg #[.slice A n c, .slice B m d], .agg #[.slice A' n' c', .slice B' m' d'], .int .i64 k, .int .i64 j] w fun e w' => ResM w w' (rngM k j) (validB k s l && validB j s' l') f e := by
  have HVA := Lib.hid (fun W (hW : Below w.heap.size w W) => refValid_any A B n c m d k s l W (ha.below hW) (hb.below hW) (by omega) (by omega))
  have HVB := Lib.hid (fun W (hW : Below w.heap.size w W) => refValid_any A' B' n' c' m' d' j s' l' W (ha'.below hW) (hb'.below hW) (by omega) (by omega))
  have HR := Lib.hid (show rngM k j = true by simp [rngM]; omega)
  have HBAD := Lib.hid hbad
  have hk6 : (k : Int) ≤ 6 := by omega
  have hj6 : (j : Int) ≤ 6 := by omega
  have hkj6 : (k : Int) + (j : Int) ≤ 6 := by omega
  have hk0 : (0 : Int) ≤ (k : Int) := by omega
  have hj0 : (0 : Int) ≤ (j : Int) := by omega
  clear ha hb ha' hb'
  go_enter Tryd.func16, Tryd.ntmps16
  go_wp2_with fail
  refine (HVA.out _ ((((Below.refl _ _).alloc (Nat.le_refl _) _).alloc (by simp) _).alloc (by simp; omega) _)).mono ?_
  rintro e w1 ⟨rfl, hb1⟩
  have hbw : Below w.heap.size w w1 := ((((Below.refl _ _).alloc (Nat.le_refl _) _).alloc (by simp) _).alloc (by simp; omega) _).trans (hb1.mono (by simp; omega))
  obtain ⟨⟨⟨p0, p1⟩, ⟨q0, q1⟩, ⟨u0, u1⟩⟩, ⟨_, ⟨u2, u3⟩⟩, hz⟩ := boxes3 hb1
  have hz1 : w.heap.size + 1 < w1.heap.size := by omega
  clear hb1
  cases hv : validB k s l
  · go_wp2_with fail
    refine bodyPost_ret (v := .tuple #[.agg #[.slice none 0 0, .slice none 0 0], .int .i64 1]) (by simp [results, Tryd.results16, go_sem, u0, u1]) rfl ?_
    exact ResM.bad ((hbw.setCell (p := ⟨w.heap.size + 1 + 1, 0, none⟩) (by show w.heap.size ≤ w.heap.size + 1 + 1; omega) _).setCell (p := ⟨w.heap.size + 1 + 1, 1, none⟩) (by show w.heap.size ≤ w.heap.size + 1 + 1; omega) _) HR.out HBAD.out
  · have hv' : validB j s' l' = false := by rw [hv] at hbad; simpa using hbad
    have HV' := Lib.hid hv'
    clear hbad hv'
    go_wp2_with fail
    refine (HVB.out _ hbw).mono ?_
    rintro e w2 ⟨rfl, hb2⟩
    rw [HV'.out]
    have v0 := (hb2.cell (p := ⟨w.heap.size + 1 + 1, 0, none⟩) hz).trans u0
    have v1 := (hb2.cell (p := ⟨w.heap.size + 1 + 1, 1, none⟩) hz).trans u1
    have v2 := (hb2.frozen (p := ⟨w.heap.size + 1 + 1, 0, none⟩) hz).trans u2
    have v3 := (hb2.frozen (p := ⟨w.heap.size + 1 + 1, 1, none⟩) hz).trans u3
    have hz2 : w.heap.size + 1 + 1 < w2.heap.size := by have := hb2.size; omega
    have hbw2 := hbw.trans (hb2.mono hbw.size)
    clear hb2
    go_wp2_with fail
    refine bodyPost_ret (v := .tuple #[.agg #[.slice none 0 0, .slice none 0 0], .int .i64 1]) (by simp [results, Tryd.results16, go_sem, v0, v1]) rfl ?_
    exact ResM.bad ((hbw2.setCell (p := ⟨w.heap.size + 1 + 1, 0, none⟩) (by show w.heap.size ≤ w.heap.size + 1 + 1; omega) _).setCell (p := ⟨w.heap.size + 1 + 1, 1, none⟩) (by show w.heap.size ≤ w.heap.size + 1 + 1; omega) _) HR.out HBAD.out

/-- The letters ahead and those that come again, as they are laid one by one. -/
theorem seq_two {f : Nat → Int} {n m : Nat} (hm : 0 < m) (hper : ∀ j, n ≤ j → f (j + m) = f j) : at_ ((List.range n).map f) ((List.range m).map fun i => f (n + i)) = f := by
  funext k
  by_cases h : k < n
  · rw [at_lt (by simpa using h)]
    simp [List.getD_eq_getElem?_getD, h]
  · have hr : (k - n) % m < m := Nat.mod_lt _ hm
    rw [at_ge (by simp; omega), List.length_map, List.length_map, List.length_range, List.length_range]
    have hx : ((List.range m).map fun i => f (n + i)).getD ((k - n) % m) 0 = f (n + (k - n) % m) := by
      simp [List.getD_eq_getElem?_getD, hr]
    rw [hx, ← per_mul hper ((k - n) / m) (n + (k - n) % m) (by omega)]
    congr 1
    have := Nat.mod_add_div (k - n) m
    omega

/-- What has been laid of the mixed word after t letters. -/
def MixS (f : Nat → Int) (st t : Nat) : List Int := (List.range (min t st)).map f
def MixL (f : Nat → Int) (st t : Nat) : List Int := (List.range (t - st)).map fun i => f (st + i)
theorem mixS_lt {f : Nat → Int} {st t : Nat} (h : t < st) : MixS f st (t + 1) = MixS f st t ++ [f t] ∧ MixL f st (t + 1) = MixL f st t := by
  unfold MixS MixL
  rw [Nat.min_eq_left (by omega), Nat.min_eq_left (by omega), List.range_succ, show t + 1 - st = 0 by omega, show t - st = 0 by omega]
  simp
theorem mixS_ge {f : Nat → Int} {st t : Nat} (h : st ≤ t) : MixS f st (t + 1) = MixS f st t ∧ MixL f st (t + 1) = MixL f st t ++ [f t] := by
  unfold MixS MixL
  rw [Nat.min_eq_right (by omega), Nat.min_eq_right (by omega), show t + 1 - st = (t - st) + 1 by omega, List.range_succ]
  simp
  rw [show st + (t - st) = t from by omega]

set_option maxRecDepth 100000 in
set_option maxHeartbeats 16000000 in
theorem refMix_good (A B A' B' : Option Addr) (n c m d n' c' m' d' : Nat) (s l s' l' : List Int) (k j : Nat) (w : World) (ha : Ints w A n s) (hb : Ints w B m l) (ha' : Ints w A' n' s') (hb' : Ints w B' m' l') (hnc : n ≤ c) (hmd : m ≤ d) (hnc' : n' ≤ c') (hmd' : m' ≤ d') (hkj : k + j ≤ 6)
    (hv : validB k s l = true) (hv' : validB j s' l' = true) :
    Calls Tryd.prog 16 #[.agg #[.slice A n c, .slice B m d], .agg #[.slice A' n' c', .slice B' m' d'], .int .i64 k, .int .i64 j] w fun e w' => ResM w w' true true (mixF s l s' l' k) e := by
  obtain ⟨i0, hi, hi0, hi1, hi2⟩ := info_parts int_info
  have hw6 := valid_mono (by omega) hv
  have hw6' := valid_mono (by omega) hv'
  have hl6 := valid6 hw6
  have hl6' := valid6 hw6'
  have hx := ha.1
  have hy := hb.1
  have hx' := ha'.1
  have hy' := hb'.1
  have hn : n ≤ 200 := by omega
  have hm : m ≤ 200 := by omega
  have hn' : n' ≤ 200 := by omega
  have hm' : m' ≤ 200 := by omega
  have hm0 : 0 < m := by omega
  have hm0' : 0 < m' := by omega
  obtain ⟨st, hst⟩ : ∃ st, max n n' = st := ⟨_, rfl⟩
  obtain ⟨P, hP⟩ : ∃ P, m * m' = P := ⟨_, rfl⟩
  have hP2 : P ≤ 40000 := by rw [← hP]; exact Nat.mul_le_mul hm hm'
  have hP0 : 0 < P := by rw [← hP]; exact Nat.mul_pos hm0 hm0'
  have HP := Lib.hid hP
  have hst1 : n ≤ st ∧ n' ≤ st ∧ st ≤ 200 := by omega
  have HX := Lib.hid (show s.length = n ∧ l.length = m ∧ s'.length = n' ∧ l'.length = m' from ⟨hx, hy, hx', hy'⟩)
  have hmx : max (n : Int) (n' : Int) = (st : Int) := by omega
  have hmul : (m : Int) * (m' : Int) = (P : Int) := by rw [← hP]; simp
  have hk6 : (k : Int) ≤ 6 := by omega
  have hj6 : (j : Int) ≤ 6 := by omega
  have hkj6 : (k : Int) + (j : Int) ≤ 6 := by omega
  have hk0 : (0 : Int) ≤ (k : Int) := by omega
  have hj0 : (0 : Int) ≤ (j : Int) := by omega
  have HVA := Lib.hid (fun W (hW : Below w.heap.size w W) => refValid_any A B n c m d k s l W (ha.below hW) (hb.below hW) (by omega) (by omega))
  have HVB := Lib.hid (fun W (hW : Below w.heap.size w W) => refValid_any A' B' n' c' m' d' j s' l' W (ha'.below hW) (hb'.below hW) (by omega) (by omega))
  rw [hv] at HVA
  rw [hv'] at HVB
  have HLA := Lib.hid (fun W (hW : Below w.heap.size w W) t (ht : t ≤ 100000) => letters_any (.agg #[.slice A n c, .slice B m d]) s l t W ⟨A, n, c, B, m, d, rfl, ha.below hW, hb.below hW, hnc, hmd⟩ (by omega) (by omega) (by omega))
  have HLB := Lib.hid (fun W (hW : Below w.heap.size w W) t (ht : t ≤ 100000) => letters_any (.agg #[.slice A' n' c', .slice B' m' d']) s' l' t W ⟨A', n', c', B', m', d', rfl, ha'.below hW, hb'.below hW, hnc', hmd'⟩ (by omega) (by omega) (by omega))
  have HW := Lib.hid hw6
  have HW' := Lib.hid hw6'
  clear hl6 hl6' hx hy hx' hy' hv hv' hw6 hw6' hst ha hb ha' hb' hP
  go_enter Tryd.func16, Tryd.ntmps16
  go_wp2_with fail
  refine (HVA.out _ ((((Below.refl _ _).alloc (Nat.le_refl _) _).alloc (by simp) _).alloc (by simp; omega) _)).mono ?_
  rintro e w1 ⟨rfl, hb1⟩
  have hbw : Below w.heap.size w w1 := ((((Below.refl _ _).alloc (Nat.le_refl _) _).alloc (by simp) _).alloc (by simp; omega) _).trans (hb1.mono (by simp; omega))
  obtain ⟨⟨⟨_, _⟩, ⟨q0, q1⟩, ⟨_, _⟩⟩, ⟨_, ⟨_, _⟩⟩, hz⟩ := boxes3 hb1
  have hz1 : w.heap.size + 1 < w1.heap.size := by omega
  go_wp2_with fail
  refine (HVB.out _ hbw).mono ?_
  rintro e w2 ⟨rfl, hb2⟩
  have hb3 := hb1.trans (hb2.mono hb1.size)
  have hbw2 := hbw.trans (hb2.mono hbw.size)
  clear hb1 hbw q0 q1 hz hz1
  obtain ⟨⟨⟨p0, p1⟩, ⟨q0, q1⟩, ⟨u0, u1⟩⟩, ⟨_, ⟨u2, u3⟩⟩, hz⟩ := boxes3 hb3
  have hz1 : w.heap.size + 1 < w2.heap.size := by omega
  have hz0 : w.heap.size < w2.heap.size := by omega
  clear hb2 hb3
  go_wp2_with fail
  have hst0 := RdS.start w2
  have hb0 : Below w2.heap.size w2 (w2.alloc (.cells #[.slice none 0 0, .slice none 0 0] 24)) := (Below.refl _ _).alloc (Nat.le_refl _) _
  go_loopg [62] (st + P) (fun g i wx => ∃ (t : Nat) (C : Option Addr) (e f : Nat) (D : Option Addr) (g' h' : Nat), t + g = st + P ∧ i = .int .i64 t ∧ Hid (RdS w2.heap.size wx (if t ≤ st then 0 else 1) C e f D g' h' (MixS (mixF s l s' l' k) st t) (MixL (mixF s l s' l' k) st t)) ∧ Below w2.heap.size w2 wx)
  case atStart => exact ⟨0, none, 0, 0, none, 0, 0, by omega, rfl, by simpa [Hid, MixS, MixL] using hst0, hb0⟩
  case round =>
    obtain ⟨t, C, e, f, D, g', h', htg, rfl, HR, hbx⟩ := hrel
    clear hst0 hb0
    have a0 := (hbx.cell (p := ⟨w.heap.size, 0, none⟩) hz0).trans p0
    have a1 := (hbx.cell (p := ⟨w.heap.size, 1, none⟩) hz0).trans p1
    have b0 := (hbx.cell (p := ⟨w.heap.size + 1, 0, none⟩) hz1).trans q0
    have b1 := (hbx.cell (p := ⟨w.heap.size + 1, 1, none⟩) hz1).trans q1
    cases gk with
    | zero =>
      obtain rfl : t = st + P := by omega
      have hR1 := HR.out
      rw [if_neg (show ¬ st + P ≤ st by omega)] at hR1
      have c0 := hR1.c0
      have c1 := hR1.c1
      have hzb := hR1.size
      obtain ⟨hi1', hi2'⟩ := hR1.ints
      have HI1 := Lib.hid hi1'
      have HI2 := Lib.hid hi2'
      have hef := hR1.hc
      have hgh := hR1.hd
      have HEL := Lib.hid (show e = st ∧ g' = P by have h1 := hR1.hn; have h2 := hR1.hm; simp [MixS] at h1; simp [MixL] at h2; omega)
      have he1 : e ≤ 100000 := by have := HEL.out; omega
      have hg1 : g' ≤ 100000 := by have := HEL.out; omega
      have hg0 : 0 < g' := by have := HEL.out; omega
      have HSW := Lib.hid (show at_ (MixS (mixF s l s' l' k) st (st + P)) (MixL (mixF s l s' l' k) st (st + P)) = mixF s l s' l' k by
        unfold MixS MixL
        rw [Nat.min_eq_right (by omega), show st + P - st = P by omega]
        have hx := HX.out
        exact seq_two hP0 (fun j hj => mixF_per (st := st) (i := m') (i' := m) (by omega) (by omega) (by rw [hx.2.1]; exact HP.out.symm) (by rw [hx.2.2.2, Nat.mul_comm]; exact HP.out.symm) j hj))
      have t0 := (hbx.cell (p := ⟨w.heap.size + 1 + 1, 0, none⟩) hz).trans u0
      have t1 := (hbx.cell (p := ⟨w.heap.size + 1 + 1, 1, none⟩) hz).trans u1
      have t2 := (hbx.frozen (p := ⟨w.heap.size + 1 + 1, 0, none⟩) hz).trans u2
      have t3 := (hbx.frozen (p := ⟨w.heap.size + 1 + 1, 1, none⟩) hz).trans u3
      have hzr : w.heap.size + 1 + 1 < wr.heap.size := by have := hbx.size; omega
      clear hR1 hi1' hi2'
      go_wp2_with fail
      refine (short_any C D e f g' h' _ _ _ HI1.out HI2.out he1 hg1 hg0 hef hgh).mono ?_
      rintro e4 w4 ⟨A4, n4, c4, B4, m4, d4, s4, l4, code, rfl, ⟨ha4, hb4, hnc4, hmd4⟩, HN4, b4⟩
      rw [HSW.out] at HN4
      have v0 := (b4.cell (p := ⟨w.heap.size + 1 + 1, 0, none⟩) hzr).trans t0
      have v1 := (b4.cell (p := ⟨w.heap.size + 1 + 1, 1, none⟩) hzr).trans t1
      have v2 := (b4.frozen (p := ⟨w.heap.size + 1 + 1, 0, none⟩) hzr).trans t2
      have v3 := (b4.frozen (p := ⟨w.heap.size + 1 + 1, 1, none⟩) hzr).trans t3
      have hz4 : w.heap.size + 1 + 1 < w4.heap.size := by have := b4.size; omega
      have hbw4 : Below w.heap.size w w4 := hbw2.trans ((hbx.trans (b4.mono hbx.size)).mono hbw2.size)
      go_wp2_with fail
      refine bodyPost_ret (v := .tuple #[.agg #[.slice A4 n4 c4, .slice B4 m4 d4], .int .i64 code]) (by simp [results, Tryd.results16, go_sem, v0, v1]) rfl ?_
      have v1' := (World.cell?_setCell_other w4 ⟨w.heap.size + 1 + 1, 0, none⟩ ⟨w.heap.size + 1 + 1, 1, none⟩ (.slice A4 n4 c4) (by simp)).trans v1
      exact ⟨A4, n4, c4, B4, m4, d4, s4, l4, code, rfl, ⟨(ha4.set v0 (by simp) _).set v1' (by simp) _, (hb4.set v0 (by simp) _).set v1' (by simp) _, hnc4, hmd4⟩, ⟨.inr ⟨rfl, HN4.out.1⟩, HN4.out.2⟩,
        (hbw4.setCell (p := ⟨w.heap.size + 1 + 1, 0, none⟩) (by show w.heap.size ≤ w.heap.size + 1 + 1; omega) _).setCell (p := ⟨w.heap.size + 1 + 1, 1, none⟩) (by show w.heap.size ≤ w.heap.size + 1 + 1; omega) _⟩
    | succ g =>
      have HBWX := Lib.hid (hbw2.trans (hbx.mono hbw2.size))
      have ht1 : t < st + P := by omega
      have HLAt := Lib.hid (fun W hW => HLA.out W hW t (by omega))
      have HLBt := Lib.hid (fun W hW => HLB.out W hW t (by omega))
      generalize hxv : at_ s l t = x at HLAt
      generalize hyv : at_ s' l' t = y at HLBt
      have hx0 : 0 ≤ x := by rw [← hxv]; exact (letter_at HW.out t).1
      have hx1 : x < 64 := by rw [← hxv]; exact (letter_at HW.out t).2
      have hy0 : 0 ≤ y := by rw [← hyv]; exact (letter_at HW'.out t).1
      have hy1 : y < 64 := by rw [← hyv]; exact (letter_at HW'.out t).2
      obtain ⟨Y, hshl, hYe, hY0, hY1⟩ := shl_small hy0 hy1 (show k ≤ 6 by omega)
      have hshk : IntKind.i64.wrap (y * (2 : Int) ^ k) = Y := by rw [← hYe]; exact IntWalk.i64_in _ (by omega)
      have hsm : IntKind.i64.wrap (x + Y) = x + Y := IntWalk.i64_in _ (by omega)
      have HM := Lib.hid (show mixF s l s' l' k t = x + Y by unfold mixF; rw [hxv, hyv, hYe])
      have hwzr : w.heap.size < wr.heap.size := by have := hbx.size; omega
      have hwz1r : w.heap.size + 1 < wr.heap.size := by have := hbx.size; omega
      clear hYe hxv hyv
      go_wp2_with fail
      go_region_held3 (fun V => V.cell? ⟨w.heap.size, 0, none⟩ = some (.slice A n c) ∧ V.cell? ⟨w.heap.size, 1, none⟩ = some (.slice B m d) ∧ V.cell? ⟨w.heap.size + 1, 0, none⟩ = some (.slice A' n' c') ∧ V.cell? ⟨w.heap.size + 1, 1, none⟩ = some (.slice B' m' d'))
        (first
          | go_keep
          | (refine ⟨?_, ?_, ?_, ?_⟩
             · rw [k2.cell (by simpa using hwzr)]; exact a0
             · rw [k2.cell (by simpa using hwzr)]; exact a1
             · rw [k2.cell (by simpa using hwz1r)]; exact b0
             · rw [k2.cell (by simpa using hwz1r)]; exact b1)
          | (refine ⟨?_, ?_, ?_, ?_⟩
             · rw [k1.cell (by simpa using hwzr)]; exact a0
             · rw [k1.cell (by simpa using hwzr)]; exact a1
             · rw [k1.cell (by simpa using hwz1r)]; exact b0
             · rw [k1.cell (by simpa using hwz1r)]; exact b1))
        (first
          | (have hgo := k1; clear hgo; go_at_call 63; refine (HLBt.out _ (HBWX.out.trans (k1.mono HBWX.out.size))).mono ?_; rintro e2 y2 ⟨rfl, cc2⟩; have k2 : Below wr.heap.size wr y2 := k1.trans (cc2.mono k1.size))
          | (go_at_call 63; refine (HLAt.out _ HBWX.out.drew).mono ?_; rintro e1 y1 ⟨rfl, cc1⟩; have k1 : Below wr.heap.size wr y1 := ((Below.refl _ _).drew).trans cc1)
          | fail)
      have HRy := Lib.hid (HR.out.below k2)
      have hbxy : Below w2.heap.size w2 y2 := hbx.trans (k2.mono hbx.size)
      clear a0 a1 b0 b1 hwzr hwz1r k1 k2 cc1 cc2 hshl hshk hsm hbx HR
      by_cases hts : t < st
      · have HSL := Lib.hid (mixS_lt (f := mixF s l s' l' k) hts)
        have hR0 := HRy.out
        rw [if_pos (show t ≤ st by omega)] at hR0
        have c0 := hR0.c0
        have c1 := hR0.c1
        have f0 := hR0.f0
        have hzb := hR0.size
        have hel := hR0.hn
        have helb : e ≤ 200 := by rw [hel]; simp [MixS]; omega
        have HR0 := Lib.hid hR0
        clear hR0 hel HRy
        go_wp2_with (at_builtin; refine wpList_append_ints _ (by rfl) _ _ 22 (by rfl) (w2.heap.size + 1) 3 i0 _ Tryd.underlying22 hi hi0 hi1 hi2 rfl (.slice C e f) e ((MixS (mixF s l s' l' k) st t).map (Value.int .i64)) (by rfl) ((HR0.out.zero rfl).1.alloc _) (some ⟨y2.heap.size, 0, none⟩) 1 1 [x + Y] (by rfl) (ints_new y2 [x + Y] _) (by omega) (by simp; omega) ?_)
        intro v' w3 hown hgrow hat
        obtain ⟨A5, c5, hv', hcc'⟩ := own_slice hown
        subst hv'
        have HPUT := Lib.hid (HR0.out.put0 ((Below.refl _ _).alloc (Nat.le_refl _) _) hown hgrow)
        have hbel : Below (w2.heap.size + 1) _ w3 := below_own ((HR0.out.zero rfl).1.alloc _) hgrow (by simp; omega)
        have t2 : w3.frozen? ⟨w2.heap.size, 0, none⟩ = false := (hbel.frozen (p := ⟨w2.heap.size, 0, none⟩) (Nat.lt_succ_self _)).trans ((HR0.out.below ((Below.refl _ _).alloc (Nat.le_refl _) _)).f0)
        have t0 : w3.cell? ⟨w2.heap.size, 0, none⟩ = some (.slice C e f) := (hbel.cell (p := ⟨w2.heap.size, 0, none⟩) (Nat.lt_succ_self _)).trans ((HR0.out.below ((Below.refl _ _).alloc (Nat.le_refl _) _)).c0)
        clear hown hgrow hat hbel
        go_wp2_with fail
        go_roundg g
        case measure => omega
        case rel =>
          refine ⟨t + 1, A5, e + 1, c5, D, g', h', by omega, by go_num, ?_, hbxy.trans HPUT.out.2⟩
          rw [if_pos (show t + 1 ≤ st by omega), HSL.out.1, HSL.out.2, HM.out]
          exact HPUT.out.1
      · have hst2 : st ≤ t := by omega
        have HSL := Lib.hid (mixS_ge (f := mixF s l s' l' k) hst2)
        have hR0 : RdS w2.heap.size y2 1 C e f D g' h' (MixS (mixF s l s' l' k) st t) (MixL (mixF s l s' l' k) st t) := by
          have h := HRy.out
          by_cases hq : t ≤ st
          · rw [if_pos hq] at h; exact h.opened
          · rw [if_neg hq] at h; exact h
        have c0 := hR0.c0
        have c1 := hR0.c1
        have f1 := hR0.f1
        have hzb := hR0.size
        have hel := hR0.hm
        have helb : g' ≤ 50000 := by rw [hel]; simp [MixL]; omega
        obtain ⟨B1, hB1, hB2, hI, hrow⟩ := hR0.more (by decide)
        have HI := Lib.hid hI
        have HROW := Lib.hid hrow
        have HR0 := Lib.hid hR0
        clear hR0 hel HRy hI hrow
        go_wp2_with (at_builtin; refine wpList_append_ints _ (by rfl) _ _ 22 (by rfl) B1 3 i0 _ Tryd.underlying22 hi hi0 hi1 hi2 rfl (.slice D g' h') g' ((MixL (mixF s l s' l' k) st t).map (Value.int .i64)) (by rfl) (HROW.out.alloc _) (some ⟨y2.heap.size, 0, none⟩) 1 1 [x + Y] (by rfl) (ints_new y2 [x + Y] _) (by omega) (by simp; omega) ?_)
        intro v' w3 hown hgrow hat
        obtain ⟨A5, c5, hv', hcc'⟩ := own_slice hown
        subst hv'
        have HPUT := Lib.hid (HR0.out.put1 hB1 hB2 HI.out HROW.out ((Below.refl _ _).alloc (Nat.le_refl _) _) hown hgrow)
        have hbel : Below B1 _ w3 := below_own (HROW.out.alloc _) hgrow (by simp; omega)
        have t2 : w3.frozen? ⟨w2.heap.size, 1, none⟩ = false := (hbel.frozen (p := ⟨w2.heap.size, 1, none⟩) hB1).trans ((HR0.out.below ((Below.refl _ _).alloc (Nat.le_refl _) _)).f1)
        have t0 : w3.cell? ⟨w2.heap.size, 1, none⟩ = some (.slice D g' h') := (hbel.cell (p := ⟨w2.heap.size, 1, none⟩) hB1).trans ((HR0.out.below ((Below.refl _ _).alloc (Nat.le_refl _) _)).c1)
        clear hown hgrow hat hbel
        go_wp2_with fail
        go_roundg g
        case measure => omega
        case rel =>
          refine ⟨t + 1, C, e, f, A5, g' + 1, c5, by omega, by go_num, ?_, hbxy.trans HPUT.out.2⟩
          rw [if_neg (show ¬ t + 1 ≤ st by omega), HSL.out.1, HSL.out.2, HM.out]
          exact HPUT.out.1

theorem refMix_any (A B A' B' : Option Addr) (n c m d n' c' m' d' : Nat) (s l s' l' : List Int) (k j : Int) (w : World) (ha : Ints w A n s) (hb : Ints w B m l) (ha' : Ints w A' n' s') (hb' : Ints w B' m' l') (hnc : n ≤ c) (hmd : m ≤ d) (hnc' : n' ≤ c') (hmd' : m' ≤ d') (h1 : n + m ≤ 100000) (h1' : n' + m' ≤ 100000) :
    Calls Tryd.prog 16 #[.agg #[.slice A n c, .slice B m d], .agg #[.slice A' n' c', .slice B' m' d'], .int .i64 k, .int .i64 j] w fun e w' => ResM w w' (rngM k j) (validB k s l && validB j s' l') (mixF s l s' l' k.toNat) e := by
  cases hr : rngM k j
  · rw [← hr]
    exact refMix_range A B A' B' n c m d n' c' m' d' k j _ _ w hr
  · have h3 : 0 ≤ k ∧ 0 ≤ j ∧ k + j ≤ 6 := by simpa [rngM, and_assoc] using hr
    obtain ⟨k', rfl⟩ := Int.eq_ofNat_of_zero_le h3.1
    obtain ⟨j', rfl⟩ := Int.eq_ofNat_of_zero_le h3.2.1
    cases hv : (validB k' s l && validB j' s' l')
    · have := refMix_arg A B A' B' n c m d n' c' m' d' s l s' l' k' j' (mixF s l s' l' (k' : Int).toNat) w ha hb ha' hb' h1 h1' (by omega) hv
      rw [hr, hv] at this
      exact this
    · rw [Bool.and_eq_true] at hv
      exact refMix_good A B A' B' n c m d n' c' m' d' s l s' l' k' j' w ha hb ha' hb' hnc hmd hnc' hmd' (by omega) hv.1 hv.2

end Go.Proofs.YteidikkeoaolgaaDoor.Wd
