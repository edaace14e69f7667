/-
  WordLeast of lodesmanlaw01 at two valid words of at most 60 letters: the walk.
-/
import Derived.Test.YtimpobhpjfhmmaaDoorWdLeast
import Derived.Deep.RegionHeld3
import Derived.WalkLawsBesides
namespace Go.Proofs.YtimpobhpjfhmmaaDoor.Wd
open Go.RowKit
set_option linter.unusedVariables false

theorem agree_step {f g : Nat → Int} {k : Nat} {al : Bool} {x y : Int} (h : al = true ↔ ∀ j, j < k → f j = g j) (hx : f k = x) (hy : g k = y) : (al && (x == y)) = true ↔ ∀ j, j < k + 1 → f j = g j := by
  rw [Bool.and_eq_true, h, beq_iff_eq]
  constructor
  · rintro ⟨h1, h2⟩ j hj
    rcases Nat.lt_or_ge j k with hl | hg
    · exact h1 j hl
    · obtain rfl : j = k := by omega
      rw [hx, hy, h2]
  · intro h1
    exact ⟨fun j hj => h1 j (by omega), by rw [← hx, ← hy]; exact h1 k (by omega)⟩

theorem nf_iff {f g : Nat → Int} {s1 l1 s2 l2 : List Int} (h1 : NF f s1 l1) (h2 : NF g s2 l2) : (eqB s1 s2 && eqB l1 l2) = true ↔ f = g := by
  simp only [eqB, Bool.and_eq_true, decide_eq_true_eq]
  constructor
  · rintro ⟨rfl, rfl⟩
    funext k
    rw [← h1.1 k, ← h2.1 k]
  · intro e
    rw [e] at h1
    exact h1.unique h2

set_option maxRecDepth 100000 in
set_option maxHeartbeats 2000000 in
theorem least_valid (A B A' B' : Option Addr) (n c m d n' c' m' d' : Nat) (s l s' l' : List Int) (w : World) (ha : Ints w A n s) (hb : Ints w B m l) (ha' : Ints w A' n' s') (hb' : Ints w B' m' l') (hnc : n ≤ c) (hmd : m ≤ d) (hnc' : n' ≤ c') (hmd' : m' ≤ d')
    (hf : n + m ≤ 60 ∧ n' + m' ≤ 60) (hv : validB 6 s l = true ∧ validB 6 s' l' = true)
    (hsame : Hid (∀ (v u : Value) (w : World), IsWord w v s l → IsWord w u s' l' → Calls Tryd.prog 26 #[v, u] w fun e w' => ∃ r : Bool, e = .returned (.tuple #[.bool r, .int .i64 0]) ∧ Hid (r = true ↔ at_ s l = at_ s' l') ∧ Below w.heap.size w w')) :
    Calls Tryd.prog 7 #[.agg #[.slice A n c, .slice B m d], .agg #[.slice A' n' c', .slice B' m' d']] w fun e w' => e = .returned (.bool true) ∧ Below w.heap.size w w' := by
  have HF := Lib.hid (show (decide (n + m ≤ 60) && decide (n' + m' ≤ 60)) = true by simp; omega)
  have HE := Lib.hid (show s.length + l.length ≤ 60 ∧ s'.length + l'.length ≤ 60 by have := ha.1; have := hb.1; have := ha'.1; have := hb'.1; omega)
  have HL := Lib.hid (show s.length = n ∧ l.length = m ∧ s'.length = n' ∧ l'.length = m' from ⟨ha.1, hb.1, ha'.1, hb'.1⟩)
  have HV := Lib.hid hv
  have HW := Lib.hid (show IsWord w (.agg #[.slice A n c, .slice B m d]) s l from ⟨_, _, _, _, _, _, rfl, ha, hb, hnc, hmd⟩)
  have HW' := Lib.hid (show IsWord w (.agg #[.slice A' n' c', .slice B' m' d']) s' l' from ⟨_, _, _, _, _, _, rfl, ha', hb', hnc', hmd'⟩)
  have hn : (n ≤ 60 ∧ m ≤ 60 ∧ n' ≤ 60 ∧ m' ≤ 60) ∧ 0 < m ∧ 0 < m' := by have := valid6 hv.1; have := valid6 hv.2; have := HL.out; omega
  obtain ⟨⟨hn1, hn2, hn3, hn4⟩, hm0, hm0'⟩ := hn
  clear ha hb ha' hb' hf hv hnc hmd hnc' hmd'
  go_enter Tryd.func7, Tryd.ntmps7
  go_wp2_with fail
  refine (few_two A B A' B' n c m d n' c' m' d' 60 (w.heap.size + 1 + 1) ((w.alloc (.cells #[.slice A n c, .slice B m d] 24)).alloc (.cells #[.slice A' n' c', .slice B' m' d'] 24)) _ (by simp) (by omega) (by omega) (by omega)).mono ?_
  rintro e w1 ⟨rfl, hb1⟩
  rw [HF.out]
  have hw1 : Below w.heap.size w w1 := (((Below.refl _ _).alloc (Nat.le_refl _) _).alloc (by simp) _).trans (hb1.mono (by simp; omega))
  obtain ⟨⟨p0, p1, p2, p3⟩, _, hz⟩ := boxes hb1
  go_wp2_with fail
  refine (Normal_good _ s l _ (HW.out.below hw1) (by have := HE.out; omega) HV.out.1).mono ?_
  rintro e w2 ⟨A1, n1, k1, B1, m1, d1, s1, l1, rfl, ⟨ha1, hbb1, hnk1, hmk1⟩, HN1, hb2⟩
  have hb12 := hb1.trans (hb2.mono hb1.size)
  have hw2 := hw1.trans (hb2.mono hw1.size)
  clear p0 p1 p2 p3 hz
  obtain ⟨⟨p0, p1, p2, p3⟩, _, hz⟩ := boxes hb12
  have HI1 := Lib.hid (show IsWord w2 (.agg #[.slice A1 n1 k1, .slice B1 m1 d1]) s1 l1 from ⟨_, _, _, _, _, _, rfl, ha1, hbb1, hnk1, hmk1⟩)
  have HL1 := Lib.hid (show s1.length = n1 ∧ l1.length = m1 from ⟨ha1.1, hbb1.1⟩)
  clear ha1 hbb1 hnk1 hmk1
  go_wp2_with fail
  refine (Normal_good _ s' l' _ (HW'.out.below (hw2.alloc hw2.size _)) (by have := HE.out; omega) HV.out.2).mono ?_
  rintro e w3 ⟨A2, n2, k2, B2, m2, d2, s2, l2, rfl, ⟨ha2, hbb2, hnk2, hmk2⟩, HN2, hb3⟩
  have hb23 : Below (w2.alloc (.cells #[.slice A1 n1 k1, .slice B1 m1 d1] 24)).heap.size (w2.alloc (.cells #[.slice A1 n1 k1, .slice B1 m1 d1] 24)) w3 := hb3
  have hb13 := hb12.trans ((((Below.refl _ _).alloc (Nat.le_refl _) _).trans (hb3.mono (by simp))).mono hb12.size)
  have hw3 := (hw2.alloc hw2.size _).trans (hb3.mono (by have := hw2.size; simp; omega))
  clear p0 p1 p2 p3 hz
  obtain ⟨⟨p0, p1, p2, p3⟩, _, hz⟩ := boxes hb13
  have q0 : w3.cell? ⟨w2.heap.size, 0, none⟩ = some (.slice A1 n1 k1) := by rw [hb23.cell (by simp), box_last]; rfl
  have q1 : w3.cell? ⟨w2.heap.size, 1, none⟩ = some (.slice B1 m1 d1) := by rw [hb23.cell (by simp), box_last]; rfl
  have hz2 : w2.heap.size < w3.heap.size := by have := hb23.size; simp at this; omega
  have HI1' := Lib.hid ((HI1.out.below ((Below.refl _ _).alloc (Nat.le_refl _) _)).below hb23)
  have HI2 := Lib.hid (show IsWord w3 (.agg #[.slice A2 n2 k2, .slice B2 m2 d2]) s2 l2 from ⟨_, _, _, _, _, _, rfl, ha2, hbb2, hnk2, hmk2⟩)
  have HL2 := Lib.hid (show s2.length = n2 ∧ l2.length = m2 from ⟨ha2.1, hbb2.1⟩)
  clear ha2 hbb2 hnk2 hmk2
  have hz' : w.heap.size < w3.heap.size := by omega
  go_wp2_with fail
  refine (hsame.out _ _ _ (HW.out.below (hw3.alloc hw3.size _)) (HW'.out.below (hw3.alloc hw3.size _))).mono ?_
  rintro e w4 ⟨r, rfl, HR, hb4⟩
  have hw4 := (hw3.alloc hw3.size _).trans (hb4.mono (by have := hw3.size; simp; omega))
  have hb34 : Below w3.heap.size w3 w4 := ((Below.refl _ _).alloc (Nat.le_refl _) _).trans (hb4.mono (by simp))
  have y0 := (hb34.cell (p := ⟨w.heap.size, 0, none⟩) hz').trans p0
  have y1 := (hb34.cell (p := ⟨w.heap.size, 1, none⟩) hz').trans p1
  have y2 := (hb34.cell (p := ⟨w.heap.size + 1, 0, none⟩) hz).trans p2
  have y3 := (hb34.cell (p := ⟨w.heap.size + 1, 1, none⟩) hz).trans p3
  have x0 := (hb34.cell (p := ⟨w2.heap.size, 0, none⟩) hz2).trans q0
  have x1 := (hb34.cell (p := ⟨w2.heap.size, 1, none⟩) hz2).trans q1
  have x2 : w4.cell? ⟨w3.heap.size, 0, none⟩ = some (.slice A2 n2 k2) := by rw [hb4.cell (by simp), box_last]; rfl
  have x3 : w4.cell? ⟨w3.heap.size, 1, none⟩ = some (.slice B2 m2 d2) := by rw [hb4.cell (by simp), box_last]; rfl
  have zz : w.heap.size + 1 < w4.heap.size ∧ w2.heap.size < w4.heap.size ∧ w3.heap.size < w4.heap.size := by have := hb4.size; simp at this; omega
  obtain ⟨z1, z2, z3⟩ := zz
  have z0 : w.heap.size < w4.heap.size := by omega
  have HI1 := Lib.hid (HI1'.out.below hb34)
  have HI2' := Lib.hid (HI2.out.below hb34)
  clear p0 p1 p2 p3 q0 q1 hz hz2 hz' hb1 hb2 hb3 hb4 hb12 hb13 hb23 hb34 hw1 hw2 hw3 HI1' HI2
  go_wp2_with fail
  have hP : m * m' ≤ 3600 := Nat.mul_le_mul hn2 hn4
  obtain ⟨P, hPe⟩ : ∃ P, m * m' = P := ⟨_, rfl⟩
  have HP := Lib.hid hPe
  have hP2 : P ≤ 3600 := by omega
  have hPi : (m : Int) * (m' : Int) = (P : Int) := by rw [← hPe]; simp
  clear hP hPe
  go_loopg [11, 12] (max n n' + P) (fun g al i wx => ∃ (k : Nat) (b : Bool), k + g = max n n' + P ∧ al = .bool b ∧ i = .int .i64 k ∧ Hid (b = true ↔ ∀ j, j < k → at_ s l j = at_ s' l' j) ∧ Below w4.heap.size w4 wx)
  case atStart => exact ⟨0, true, by omega, rfl, rfl, by simp [Hid], Below.refl _ _⟩
  case round =>
    obtain ⟨k, b, hkg, rfl, rfl, HA, hbx⟩ := hrel
    have r0 := (hbx.cell (p := ⟨w.heap.size, 0, none⟩) z0).trans y0
    have r1 := (hbx.cell (p := ⟨w.heap.size, 1, none⟩) z0).trans y1
    have r2 := (hbx.cell (p := ⟨w.heap.size + 1, 0, none⟩) z1).trans y2
    have r3 := (hbx.cell (p := ⟨w.heap.size + 1, 1, none⟩) z1).trans y3
    have hzx := hbx.size
    have g0 : w.heap.size < wr.heap.size := by omega
    have g1 : w.heap.size + 1 < wr.heap.size := by omega
    by_cases hlt : k < max n n' + P
    · have HWx := Lib.hid (HW.out.below (hw4.trans (hbx.mono hw4.size)))
      have HWx' := Lib.hid (HW'.out.below (hw4.trans (hbx.mono hw4.size)))
      have hk6 : k ≤ 1000000 := by omega
      cases gk with
      | zero => exfalso; omega
      | succ g =>
      cases b
      · go_wp2_with fail
        go_quiet (fail)
        go_wp2_with fail
        go_roundg g
        case measure => omega
        case rel => exact ⟨k + 1, false, by omega, rfl, by go_num, by
          have := HA.out
          simp only [Hid, Bool.false_eq_true, false_iff] at this ⊢
          exact fun h => this fun j hj => h j (by omega), below_drewN hbx _⟩
      · have HST := Lib.hid (agree_step (al := true) HA.out rfl rfl)
        go_wp2_with fail
        go_region_held3 (fun W => W.cell? ⟨w.heap.size, 0, none⟩ = some (.slice A n c) ∧ W.cell? ⟨w.heap.size, 1, none⟩ = some (.slice B m d) ∧ W.cell? ⟨w.heap.size + 1, 0, none⟩ = some (.slice A' n' c') ∧ W.cell? ⟨w.heap.size + 1, 1, none⟩ = some (.slice B' m' d'))
          (first
            | go_keep
            | (refine ⟨?_, ?_, ?_, ?_⟩
               · rw [hb5.cell g0]; exact r0
               · rw [hb5.cell g0]; exact r1
               · rw [hb5.cell g1]; exact r2
               · rw [hb5.cell g1]; exact r3)
            | (refine ⟨?_, ?_, ?_, ?_⟩
               · rw [hb6.cell (Nat.lt_of_lt_of_le g0 hb5.size), hb5.cell g0]; exact r0
               · rw [hb6.cell (Nat.lt_of_lt_of_le g0 hb5.size), hb5.cell g0]; exact r1
               · rw [hb6.cell (Nat.lt_of_lt_of_le g1 hb5.size), hb5.cell g1]; exact r2
               · rw [hb6.cell (Nat.lt_of_lt_of_le g1 hb5.size), hb5.cell g1]; exact r3))
          (first
            | (go_at_call_of 40 (Value.slice A n c); refine (letters_any _ s l k _ (HWx.out.below ((Below.refl _ _).drew)) (by have := HE.out; omega) (by have := HL.out; omega) hk6).mono ?_; rintro e w5 ⟨rfl, hb5⟩)
            | (go_at_call_of 40 (Value.slice A' n' c'); refine (letters_any _ s' l' k _ ((HWx'.out.below ((Below.refl _ _).drew)).below hb5) (by have := HE.out; omega) (by have := HL.out; omega) hk6).mono ?_; rintro e w6 ⟨rfl, hb6⟩))
        go_wp2_with fail
        go_roundg g
        case measure => omega
        case rel => exact ⟨k + 1, _, by omega, rfl, by go_num, by
          have := HST.out
          simpa [Hid] using this, ((hbx.trans ((Below.refl _ _).drew)).trans (hb5.mono hbx.size)).trans (hb6.mono (Nat.le_trans hbx.size hb5.size))⟩
    · have hbr : b = r := by
        have h1 := HA.out
        have h2 := HR.out
        rw [Bool.eq_iff_iff, h1, h2]
        constructor
        · intro h
          exact alike (by have := HL.out; omega) (by have := HL.out; omega) (fun j hj => h j (by
            have := HL.out
            have := HP.out
            simp only [HL.out.1, HL.out.2.1, HL.out.2.2.1, HL.out.2.2.2] at hj
            omega))
        · intro h j _
          rw [h]
      subst hbr
      have u0 := (hbx.cell (p := ⟨w2.heap.size, 0, none⟩) z2).trans x0
      have u1 := (hbx.cell (p := ⟨w2.heap.size, 1, none⟩) z2).trans x1
      have u2 := (hbx.cell (p := ⟨w3.heap.size, 0, none⟩) z3).trans x2
      have u3 := (hbx.cell (p := ⟨w3.heap.size, 1, none⟩) z3).trans x3
      have hw5 := hw4.trans (hbx.mono hw4.size)
      have HX1 := Lib.hid (HI1.out.below hbx)
      have HX2 := Lib.hid (HI2'.out.below hbx)
      have HEq := Lib.hid (show (eqB s1 s2 && eqB l1 l2) = b by rw [Bool.eq_iff_iff, nf_iff HN1.out.1 HN2.out.1, HR.out])
      have hmin : b = true → m1 ≤ m' ∧ (m1 < m' ∨ n1 ≤ n') := by
        intro hb
        have hfe := HR.out.1 hb
        have hnf := HN1.out.1
        rw [hfe] at hnf
        have hev := ev_at s' l' (by have := HL.out; omega)
        have h1 := hnf.2.2.1 _ _ hev
        rw [HL1.out.2, HL.out.2.2.2] at h1
        refine ⟨h1, ?_⟩
        rcases Nat.lt_or_ge m1 m' with h | h
        · exact .inl h
        · right
          have he : l1.length = l'.length := by rw [HL1.out.2, HL.out.2.2.2]; omega
          have := hnf.2.2.2 s'.length (by rw [he]; exact hev)
          rw [HL1.out.1, HL.out.2.2.1] at this
          exact this
      clear y0 y1 y2 y3 x0 x1 x2 x3 HA
      go_wp2_with fail
      refine (written_any _ _ s1 l1 s2 l2 _ HX1.out HX2.out (by have := HN1.out; have := HE.out; omega) (by have := HN2.out; have := HE.out; omega)).mono ?_
      rintro e w5 ⟨rfl, hb5⟩
      rw [HEq.out]
      have t0 := (hb5.cell (p := ⟨w2.heap.size, 0, none⟩) (by show w2.heap.size < wr.heap.size; omega)).trans u0
      have t1 := (hb5.cell (p := ⟨w2.heap.size, 1, none⟩) (by show w2.heap.size < wr.heap.size; omega)).trans u1
      have t2 := (hb5.cell (p := ⟨w.heap.size + 1, 0, none⟩) g1).trans r2
      have t3 := (hb5.cell (p := ⟨w.heap.size + 1, 1, none⟩) g1).trans r3
      have hw6 := hw5.trans (hb5.mono hw5.size)
      clear u0 u1 u2 u3 r0 r1 r2 r3
      have hm1 : m1 ≤ 60 ∧ n1 ≤ 60 := by have := HN1.out; have := HE.out; have := HL1.out; have := HL.out; omega
      obtain ⟨hm1, hn1'⟩ := hm1
      have HMIN := Lib.hid hmin
      clear hmin
      cases b
      · go_wp2_with fail
        refine (awake_any _).mono ?_
        rintro e w6 ⟨rfl, hb6⟩
        go_wp2_with fail
        go_ret
        exact ⟨rfl, hw6.trans (hb6.mono hw6.size)⟩
      · obtain ⟨hq1, hq2⟩ := HMIN.out rfl
        have hd1 : decide ((m1 : Int) ≤ (m' : Int)) = true := by simp; omega
        by_cases hq : m1 < m'
        · have hd2 : decide ((m1 : Int) < (m' : Int)) = true := by simp; omega
          go_wp2_with fail
          refine (awake_any _).mono ?_
          rintro e w6 ⟨rfl, hb6⟩
          go_wp2_with fail
          go_ret
          exact ⟨rfl, hw6.trans (hb6.mono hw6.size)⟩
        · have hd2 : decide ((m1 : Int) < (m' : Int)) = false := by simp; omega
          have hd3 : decide ((n1 : Int) ≤ (n' : Int)) = true := by simp; omega
          go_wp2_with fail
          refine (awake_any _).mono ?_
          rintro e w6 ⟨rfl, hb6⟩
          go_wp2_with fail
          go_ret
          exact ⟨rfl, hw6.trans (hb6.mono hw6.size)⟩

end Go.Proofs.YtimpobhpjfhmmaaDoor.Wd
