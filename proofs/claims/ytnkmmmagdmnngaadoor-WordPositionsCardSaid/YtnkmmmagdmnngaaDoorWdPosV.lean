/-
  WordPositions of lodesmanlaw01 at a valid word: the walk.
-/
import Derived.Test.YtnkmmmagdmnngaaDoorWdPos
namespace Go.Proofs.YtnkmmmagdmnngaaDoor.Wd
open Go.RowKit
set_option linter.unusedVariables false

theorem pow_facts {k : Nat} (hk : k ≤ 6) : wrap64 ((2 : Int) ^ k) = (2 : Int) ^ k ∧ IntKind.i64.wrap ((2 : Int) ^ k) = (2 : Int) ^ k ∧ ((2 : Int) ^ k == 0) = false ∧ ¬ (2 : Int) ^ k = 0 ∧ (0 : Int) < (2 : Int) ^ k := by
  have : k = 0 ∨ k = 1 ∨ k = 2 ∨ k = 3 ∨ k = 4 ∨ k = 5 ∨ k = 6 := by omega
  rcases this with rfl | rfl | rfl | rfl | rfl | rfl | rfl <;> exact ⟨IntWalk.wrap64_in _ ⟨by decide, by decide⟩, IntWalk.i64_in _ (by omega), by decide, by decide, by decide⟩
theorem shl_wrap {y Y : Int} {k : Nat} (h : Y = y * (2 : Int) ^ k) (h0 : 0 ≤ Y) (h1 : Y ≤ 5000) : IntKind.i64.wrap (y * (2 : Int) ^ k) = Y := by
  rw [← h]
  exact IntWalk.i64_in _ (by omega)
theorem wrap64_bounds {x y : Int} (h : wrap64 x = y) : -9223372036854775808 ≤ y ∧ y ≤ 9223372036854775807 := by
  rw [← h]
  unfold wrap64
  omega
theorem rng_out {x y : Int} (hxo : x < 0 ∨ 6 < x) (hx : -9223372036854775808 ≤ x ∧ x ≤ 9223372036854775807) (hy : wrap64 (6 - x) = y) : rngM x y = false := by
  simp only [rngM, Bool.and_eq_false_iff, decide_eq_false_iff_not]
  rcases hxo with h | h
  · exact .inl (.inl (by omega))
  · have e : y = 6 - x := by rw [← hy]; exact IntWalk.wrap64_in _ (by omega)
    exact .inl (.inr (by omega))

set_option maxRecDepth 100000 in
set_option maxHeartbeats 16000000 in
theorem pos_valid (A B A' B' : Option Addr) (n c m d n' c' m' d' : Nat) (s l s' l' : List Int) (x : Int) (k j : Nat) (w : World) (ha : Ints w A n s) (hb : Ints w B m l) (ha' : Ints w A' n' s') (hb' : Ints w B' m' l') (hnc : n ≤ c) (hmd : m ≤ d) (hf : n + m ≤ 60 ∧ n' + m' ≤ 60) (hj : j ≤ 1099511627776) (hk : k ≤ 1099511627776) (hv : validB 6 s l = true)
    (hx : -9223372036854775808 ≤ x ∧ x ≤ 9223372036854775807) :
    Calls Tryd.prog 6 #[.agg #[.slice A n c, .slice B m d], .agg #[.slice A' n' c', .slice B' m' d'], .int .i64 x, .int .i64 k, .int .i64 j] w fun e w' => e = .returned (.bool true) ∧ Below w.heap.size w w' := by
  have HF := Lib.hid (show (decide (n + m ≤ 60) && decide (n' + m' ≤ 60)) = true by simp; omega)
  have H1 : Hid (n ≤ 17592186044416 ∧ m ≤ 17592186044416) := ⟨by omega, by omega⟩
  have H2 : Hid (n' ≤ 17592186044416 ∧ m' ≤ 17592186044416) := ⟨by omega, by omega⟩
  have HAt := Lib.hid (fun W (hW : Below w.heap.size w W) => At_any A B n c m d s l j W (ha.below hW) (hb.below hW) (by omega) (by omega) (by omega))
  have HAk := Lib.hid (fun W (hW : Below w.heap.size w W) => At_any A B n c m d s l ((k + j : Nat) : Int) W (ha.below hW) (hb.below hW) (by omega) (by omega) (by omega))
  rw [atR_pos hv] at HAt HAk
  rw [show ((k + j : Nat) : Int) = (k : Int) + (j : Int) from by omega] at HAk
  have HAv := Lib.hid (fun W (hW : Below w.heap.size w W) (h : validB 6 s' l' = true) => by have := At_any A' B' n' c' m' d' s' l' j W (ha'.below hW) (hb'.below hW) (by omega) (by omega) (by omega); rw [atR_pos h] at this; exact this)
  have HNo := Lib.hid (fun W (hW : Below w.heap.size w W) => normal_w A B n c m d s l W (ha.below hW) (hb.below hW) hnc hmd hv)
  obtain ⟨r, hr⟩ : ∃ r : Nat, k % 3 = r := ⟨_, rfl⟩
  have hr3 : (k : Int) % 3 = (r : Int) := by omega
  have hrb : r ≤ 2 := by omega
  have HLo := Lib.hid (fun W (hW : Below w.heap.size w W) => loops_w A B n c m d s l r W (ha.below hW) (hb.below hW) hnc hmd hv (by omega))
  have HFr := Lib.hid (fun W (hW : Below w.heap.size w W) => from_w A B n c m d s l k W (ha.below hW) (hb.below hW) hnc hmd hv (by omega))
  have HSp := Lib.hid (fun W (hW : Below w.heap.size w W) xn (h : xn ≤ 6) => split_w A B n c m d s l xn W (ha.below hW) (hb.below hW) hv h)
  have HSo := Lib.hid (fun W (hW : Below w.heap.size w W) x h => split_out A B n c m d s l x W (ha.below hW) (hb.below hW) hv h)
  have HMi := Lib.hid (fun W (hW : Below w.heap.size w W) xn yn (h : xn + yn = 6) => mix_w A B A' B' n c m d n' c' m' d' s l s' l' xn yn W (ha.below hW) (hb.below hW) (ha'.below hW) (hb'.below hW) (by omega) (by omega) h)
  have HLET := Lib.hid (letter_at hv j)
  generalize hxv : at_ s l j = xv at HAt HLET
  generalize hyv : at_ s l (k + j) = yv at HAk
  have HXV := Lib.hid hxv
  have HYV := Lib.hid hyv
  have HV := Lib.hid hv
  clear hr ha hb ha' hb' hf hv hxv hyv hnc hmd
  go_enter Tryd.func6, Tryd.ntmps6
  go_wp2_with fail
  refine (few_two A B A' B' n c m d n' c' m' d' 60 (w.heap.size + 1 + 1) ((w.alloc (.cells #[.slice A n c, .slice B m d] 24)).alloc (.cells #[.slice A' n' c', .slice B' m' d'] 24)) _ (by simp) H1.out H2.out (by omega)).mono ?_
  rintro e w1 ⟨rfl, hb1⟩
  rw [HF.out]
  have HB1 := Lib.hid (show Below w.heap.size w w1 from (((Below.refl _ _).alloc (Nat.le_refl _) _).alloc (by simp) _).trans (hb1.mono (by simp; omega)))
  have HC1 := Lib.hid (cells_two hb1)
  clear hb1
  have p0 := HC1.out.head
  have p1 := HC1.out.tail.head
  have hz := HC1.out.lt
  simp only at hz
  go_wp2_with fail
  refine (HAt.out _ HB1.out).mono ?_
  rintro e w2 ⟨rfl, hb2⟩
  have HB2 := Lib.hid (HB1.out.trans (hb2.mono HB1.out.size))
  have HC2 := Lib.hid (HC1.out.below hb2)
  clear hb2 p0 p1 hz HC1
  have p0 := HC2.out.head
  have p1 := HC2.out.tail.head
  have hz := HC2.out.lt
  simp only at hz
  go_wp2_with fail
  refine (HNo.out _ HB2.out).mono ?_
  rintro e w3 ⟨A3, n3, c3, B3, m3, d3, s3, l3, rfl, hw3, HN3, hb3⟩
  have HB3 := Lib.hid (HB2.out.trans (hb3.mono HB2.out.size))
  have HC3 := Lib.hid (HC2.out.below hb3)
  have HW3 := Lib.hid hw3
  clear hw3 hb3 p0 p1 hz HC2
  go_wp2_with fail
  have hal3 : Below w3.heap.size w3 (w3.alloc (.cells #[.slice A3 n3 c3, .slice B3 m3 d3] 24)) := (Below.refl _ _).alloc (Nat.le_refl _) _
  refine (same_ok A3 B3 n3 c3 m3 d3 s3 l3 j xv _ (HW3.out.below hal3).1 (HW3.out.below hal3).2.1 HN3.out.2.1 HN3.out.2.2 (by omega) HN3.out.1.1 (by rw [HN3.out.1.2]; exact HXV.out)).mono ?_
  rintro e w4 ⟨rfl, hb4⟩
  have HB4 := Lib.hid ((HB3.out.trans (hal3.mono HB3.out.size)).trans (hb4.mono (HB3.out.trans (hal3.mono HB3.out.size)).size))
  have HC4 := Lib.hid ((HC3.out.below hal3).below hb4)
  clear hb4 hal3 HC3 HW3 HN3
  have p0 := HC4.out.head
  have p1 := HC4.out.tail.head
  have hz := HC4.out.lt
  simp only at hz
  go_wp2_with fail
  refine (HLo.out _ HB4.out).mono ?_
  rintro e w5 ⟨A5, n5, c5, B5, m5, d5, s5, l5, code5, rfl, hw5, HN5, hb5⟩
  have HB5 := Lib.hid (HB4.out.trans (hb5.mono HB4.out.size))
  have HC5 := Lib.hid (HC4.out.below hb5)
  have HW5 := Lib.hid hw5
  clear hw5 hb5 p0 p1 hz HC4
  have HAL5 := Lib.hid ((Below.refl w5.heap.size w5).alloc (Nat.le_refl _) (.cells #[.slice A5 n5 c5, .slice B5 m5 d5] 24))
  have HB5a := Lib.hid (HB5.out.trans (HAL5.out.mono HB5.out.size))
  have HC5a := Lib.hid (HC5.out.below HAL5.out)
  have p0 := HC5a.out.head
  have p1 := HC5a.out.tail.head
  have hz := HC5.out.lt
  simp only at hz
  cases hq : ((code5 : Int) == 0)
  case' false =>
    go_wp2_with fail
    refine (HFr.out _ HB5a.out).mono ?_
    have HB6 := HB5a
    have HC6 := HC5a
    clear HB5a HC5a
  case' true =>
    obtain rfl : code5 = 0 := by simpa using hq
    have HG5 := Lib.hid (HN5.out.1 rfl)
    clear p0 p1 hz
    go_wp2_with fail
    refine (same_ok A5 B5 n5 c5 m5 d5 s5 l5 j xv _ (HW5.out.below HAL5.out).1 (HW5.out.below HAL5.out).2.1 HN5.out.2.1 HN5.out.2.2 (by omega) HG5.out.1 (by rw [HG5.out.2]; exact HXV.out)).mono ?_
    rintro e w6 ⟨rfl, hb6⟩
    have HB6 := Lib.hid (HB5a.out.trans (hb6.mono HB5a.out.size))
    have HC6 := Lib.hid (HC5a.out.below hb6)
    clear hb6 HB5a HC5a HG5
    have p0 := HC6.out.head
    have p1 := HC6.out.tail.head
    have hz := HC6.out.lt
    simp only at hz
    go_wp2_with fail
    refine (HFr.out _ HB6.out).mono ?_
  all_goals
    rintro e w7 ⟨A7, n7, c7, B7, m7, d7, s7, l7, rfl, hw7, HN7, hb7⟩
    have HB7 := Lib.hid (HB6.out.trans (hb7.mono HB6.out.size))
    have HC7 := Lib.hid (HC6.out.below hb7)
    have HW7 := Lib.hid hw7
    clear hw7 hb7 p0 p1 hz HC6 HC5 HW5 HN5 hq HAL5
    have p0 := HC7.out.head
    have p1 := HC7.out.tail.head
    have hz := HC7.out.lt
    simp only at hz
    have hal7 : Below w7.heap.size w7 (w7.alloc (.cells #[.slice A7 n7 c7, .slice B7 m7 d7] 24)) := (Below.refl _ _).alloc (Nat.le_refl _) _
    have HB7a := Lib.hid (HB7.out.trans (hal7.mono HB7.out.size))
    have HC7a := Lib.hid (HC7.out.box (.slice A7 n7 c7) (.slice B7 m7 d7) 24)
    have HW7a := Lib.hid (HW7.out.below hal7)
    clear hal7
    go_wp2_with fail
    refine (HAk.out _ HB7a.out).mono ?_
    rintro e w8 ⟨rfl, hb8⟩
    have HB8 := Lib.hid (HB7a.out.trans (hb8.mono HB7a.out.size))
    have HC8 := Lib.hid (HC7a.out.below hb8)
    have HW8 := Lib.hid (HW7a.out.below hb8)
    clear hb8 p0 p1 hz HC7 HC7a HW7 HW7a HB7 HB7a
    have x0 := HC8.out.head
    have x1 := HC8.out.tail.head
    have hzx := HC8.out.lt
    simp only at hzx
    go_wp2_with fail
    refine (same_ok A7 B7 n7 c7 m7 d7 s7 l7 j yv _ HW8.out.1 HW8.out.2.1 HN7.out.2.1 HN7.out.2.2 (by omega) HN7.out.1.1 (by rw [HN7.out.1.2]; exact HYV.out)).mono ?_
    rintro e w9 ⟨rfl, hb9⟩
    have HB9 := Lib.hid (HB8.out.trans (hb9.mono HB8.out.size))
    have HC9 := Lib.hid ((HC8.out.below hb9).tail.tail)
    clear hb9 x0 x1 hzx HC8 HW8 HN7
    have p0 := HC9.out.head
    have p1 := HC9.out.tail.head
    have hz := HC9.out.lt
    simp only at hz
    go_wp2_with fail
    by_cases hxr : 0 ≤ x ∧ x ≤ 6
    · obtain ⟨xn, rfl⟩ := Int.eq_ofNat_of_zero_le hxr.1
      have hxn : xn ≤ 6 := by omega
      refine (HSp.out _ HB9.out xn hxn).mono ?_
      rintro e w10 ⟨A1, n1, c1, B1, m1, d1, A2, n2, c2, B2, m2, d2, s1, l1, s2, l2, rfl, hw10, hv10, HN10, hb10⟩
      have HB10 := Lib.hid (HB9.out.trans (hb10.mono HB9.out.size))
      have HC10 := Lib.hid (HC9.out.below hb10)
      have HW10 := Lib.hid hw10
      have HV10 := Lib.hid hv10
      clear hw10 hv10 hb10 p0 p1 hz HC9
      have hmodn : ∃ lo, xv % (2 : Int) ^ xn = lo := ⟨_, rfl⟩
      obtain ⟨lo, hlo⟩ := hmodn
      obtain ⟨hi, hhi⟩ : ∃ hi, xv / (2 : Int) ^ xn = hi := ⟨_, rfl⟩
      have HLO := Lib.hid (show at_ s1 l1 j = lo by rw [HN10.out.1.1.2]; unfold lowF; rw [HXV.out]; exact hlo)
      have HHI := Lib.hid (show at_ s2 l2 j = hi by rw [HN10.out.2.1.2]; unfold highF; rw [HXV.out]; exact hhi)
      obtain ⟨hpw, hpk, hpe, hpn, hpos⟩ := pow_facts hxn
      have hxv0 : 0 ≤ xv := HLET.out.1
      have htm : xv.tmod ((2 : Int) ^ xn) = lo := by rw [Int.tmod_eq_emod_of_nonneg hxv0]; exact hlo
      clear hlo
      go_wp2_with fail
      have hal10 : Below w10.heap.size w10 ((w10.alloc (.cells #[.slice A1 n1 c1, .slice B1 m1 d1] 24)).alloc (.cells #[.slice A2 n2 c2, .slice B2 m2 d2] 24)) := ((Below.refl _ _).alloc (Nat.le_refl _) _).alloc (by simp) _
      have HBZ := Lib.hid (HB10.out.trans (hal10.mono HB10.out.size))
      have HWZ := Lib.hid (HW10.out.below hal10)
      have HVZ := Lib.hid (HV10.out.below hal10)
      have hcz := (HC10.out.box (.slice A1 n1 c1) (.slice B1 m1 d1) 24).box (.slice A2 n2 c2) (.slice B2 m2 d2) 24
      simp only [World.size_alloc] at hcz
      have HCZ := Lib.hid hcz
      clear hcz hal10 HC10 HW10 HV10 HB10
      generalize (w10.alloc (.cells #[.slice A1 n1 c1, .slice B1 m1 d1] 24)).alloc (.cells #[.slice A2 n2 c2, .slice B2 m2 d2] 24) = Z at *
      have z0 := HCZ.out.head
      have z1' := HCZ.out.tail.head
      have z2' := HCZ.out.tail.tail.head
      have z3' := HCZ.out.tail.tail.tail.head
      go_region_held3 (fun V => V.cell? ⟨w10.heap.size + 1, 0, none⟩ = some (.slice A2 n2 c2) ∧ V.cell? ⟨w10.heap.size + 1, 1, none⟩ = some (.slice B2 m2 d2) ∧ V.cell? ⟨w10.heap.size, 0, none⟩ = some (.slice A1 n1 c1) ∧ V.cell? ⟨w10.heap.size, 1, none⟩ = some (.slice B1 m1 d1))
        (first
          | exact ⟨(HCZ.out.below k2).head, (HCZ.out.below k2).tail.head, (HCZ.out.below k2).tail.tail.head, (HCZ.out.below k2).tail.tail.tail.head⟩
          | exact ⟨(HCZ.out.below k1).head, (HCZ.out.below k1).tail.head, (HCZ.out.below k1).tail.tail.head, (HCZ.out.below k1).tail.tail.tail.head⟩
          | exact ⟨z0, z1', z2', z3'⟩)
        (first
          | (have hgo := k1; clear hgo; go_at_call 39; refine (same_ok A2 B2 n2 c2 m2 d2 s2 l2 j hi _ (HVZ.out.below k1).1 (HVZ.out.below k1).2.1 HN10.out.2.2.1 HN10.out.2.2.2 (by omega) HN10.out.2.1.1 HHI.out).mono ?_; rintro e y2 ⟨rfl, b2⟩; have k2 : Below Z.heap.size Z y2 := k1.trans (b2.mono k1.size))
          | (go_at_call 39; refine (same_ok A1 B1 n1 c1 m1 d1 s1 l1 j lo _ HWZ.out.1.drew HWZ.out.2.1.drew HN10.out.1.2.1 HN10.out.1.2.2 (by omega) HN10.out.1.1.1 HLO.out).mono ?_; rintro e y1 ⟨rfl, b1⟩; have k1 : Below Z.heap.size Z y1 := ((Below.refl _ _).drew).trans b1)
          | fail)
      have HBy := Lib.hid (HBZ.out.trans (k2.mono HBZ.out.size))
      have HCy := Lib.hid ((HCZ.out.below k2).tail.tail.tail.tail)
      clear z0 z1' z2' z3' k1 k2 b1 b2 HCZ HWZ HVZ hpw hpk hpe hpn hpos htm hhi HLO HHI HN10
      have p0 := HCy.out.head
      have p1 := HCy.out.tail.head
      have p2 := HCy.out.tail.tail.head
      have p3 := HCy.out.tail.tail.tail.head
      have hz := HCy.out.lt
      have hz2 := HCy.out.tail.tail.lt
      simp only at hz hz2
      obtain ⟨yn, hyn⟩ : ∃ yn, 6 - xn = yn := ⟨_, rfl⟩
      have hy6 : (6 : Int) - (xn : Int) = (yn : Int) := by omega
      have hxy : xn + yn = 6 := by omega
      clear hyn
      go_wp2_with fail
      refine (HMi.out _ HBy.out xn yn hxy).mono ?_
      rintro e w11 ⟨A9, n9, c9, B9, m9, d9, s9, l9, code9, rfl, hw9, HN9, hb11⟩
      have HB11 := Lib.hid (HBy.out.trans (hb11.mono HBy.out.size))
      have HC11 := Lib.hid (HCy.out.below hb11)
      have HW9 := Lib.hid hw9
      clear hw9 hb11 p0 p1 p2 p3 hz hz2 hy6 HCy HBy
      have HAL11 := Lib.hid ((Below.refl w11.heap.size w11).alloc (Nat.le_refl _) (.cells #[.slice A9 n9 c9, .slice B9 m9 d9] 24))
      have HB11a := Lib.hid (HB11.out.trans (HAL11.out.mono HB11.out.size))
      cases hq9 : ((code9 : Int) == 0)
      · go_wp2_with fail
        refine (awake_any _).mono ?_
        rintro e w12 ⟨rfl, hb12⟩
        go_wp2_with fail
        go_ret
        exact ⟨rfl, HB11a.out.trans (hb12.mono HB11a.out.size)⟩
      · obtain rfl : code9 = 0 := by simpa using hq9
        have HG9 := Lib.hid (HN9.out.1 rfl)
        have HC11a := Lib.hid (HC11.out.box (.slice A9 n9 c9) (.slice B9 m9 d9) 24)
        have HW9a := Lib.hid (HW9.out.below HAL11.out)
        have p2 := HC11.out.tail.tail.head
        have p3 := HC11.out.tail.tail.tail.head
        have hz2 := HC11.out.tail.tail.lt
        simp only at hz2
        go_wp2_with fail
        refine (HAv.out _ HB11a.out HG9.out.1).mono ?_
        rintro e w12 ⟨rfl, hb12⟩
        have HB12 := Lib.hid (HB11a.out.trans (hb12.mono HB11a.out.size))
        have HC12 := Lib.hid (HC11a.out.below hb12)
        have HW12 := Lib.hid (HW9a.out.below hb12)
        have HLETv := Lib.hid (letter_at HG9.out.1 j)
        have HMX := Lib.hid (show at_ s9 l9 j = xv + at_ s' l' j * (2 : Int) ^ xn by rw [HG9.out.2.2]; unfold mixF; rw [HXV.out])
        generalize at_ s' l' j = vv at *
        obtain ⟨Y, hshl, hYe, hY0, hY1⟩ := shl_small HLETv.out.1 HLETv.out.2 hxn
        rw [← hYe] at HMX
        have hshk := shl_wrap hYe hY0 hY1
        have hsm : IntKind.i64.wrap (xv + Y) = xv + Y := IntWalk.i64_in _ (by have := HLET.out; omega)
        have hsm0 : 0 ≤ xv + Y := by have := HLET.out; omega
        have hsm1 : xv + Y ≤ 6000 := by have := HLET.out; omega
        clear hYe hb12 p2 p3 hz2 HC11 HC11a HW9 HW9a HB11 HB11a HAL11
        have z0 := HC12.out.head
        have z1' := HC12.out.tail.head
        go_wp2_with fail
        go_region_held3 (fun V => V.cell? ⟨w11.heap.size, 0, none⟩ = some (.slice A9 n9 c9) ∧ V.cell? ⟨w11.heap.size, 1, none⟩ = some (.slice B9 m9 d9))
          (first
            | exact ⟨(HC12.out.below k1).head, (HC12.out.below k1).tail.head⟩
            | exact ⟨z0, z1'⟩)
          (first
            | (go_at_call 39; refine (same_ok A9 B9 n9 c9 m9 d9 s9 l9 j (xv + Y) _ HW12.out.1.drew HW12.out.2.1.drew HN9.out.2.1 HN9.out.2.2 (by omega) HG9.out.2.1 HMX.out).mono ?_; rintro e y1 ⟨rfl, b1⟩; have k1 : Below w12.heap.size w12 y1 := ((Below.refl _ _).drew).trans b1)
            | fail)
        go_wp2_with fail
        refine (awake_any _).mono ?_
        rintro e w13 ⟨rfl, hb13⟩
        go_wp2_with fail
        go_ret
        exact ⟨rfl, (HB12.out.trans (k1.mono HB12.out.size)).trans (hb13.mono (HB12.out.trans (k1.mono HB12.out.size)).size)⟩
    · have hxo : x < 0 ∨ 6 < x := by omega
      refine (HSo.out _ HB9.out x hxo).mono ?_
      rintro e w10 ⟨A1, n1, c1, B1, m1, d1, A2, n2, c2, B2, m2, d2, rfl, hb10⟩
      have HB10 := Lib.hid (HB9.out.trans (hb10.mono HB9.out.size))
      have HC10 := Lib.hid (HC9.out.below hb10)
      clear hb10 p0 p1 hz HC9
      have hal10 : Below w10.heap.size w10 ((w10.alloc (.cells #[.slice A1 n1 c1, .slice B1 m1 d1] 24)).alloc (.cells #[.slice A2 n2 c2, .slice B2 m2 d2] 24)) := ((Below.refl _ _).alloc (Nat.le_refl _) _).alloc (by simp) _
      have HBZ := Lib.hid (HB10.out.trans (hal10.mono HB10.out.size))
      have HCZ := Lib.hid (HC10.out.below hal10)
      clear hal10 HC10 HB10
      go_wp2_with fail
      generalize (w10.alloc (.cells #[.slice A1 n1 c1, .slice B1 m1 d1] 24)).alloc (.cells #[.slice A2 n2 c2, .slice B2 m2 d2] 24) = Z at *
      have p0 := HCZ.out.head
      have p1 := HCZ.out.tail.head
      have p2 := HCZ.out.tail.tail.head
      have p3 := HCZ.out.tail.tail.tail.head
      obtain ⟨y0, hy0⟩ : ∃ y0, wrap64 (6 - x) = y0 := ⟨_, rfl⟩
      have hy0b := wrap64_bounds hy0
      have HRM := Lib.hid (rng_out hxo hx hy0)
      go_quiet (fail)
      go_wp2_with fail
      refine (mix_out A B A' B' n c m d n' c' m' d' x y0 _ HRM.out hx hy0b).mono ?_
      rintro e w11 ⟨A9, n9, c9, B9, m9, d9, rfl, hb11⟩
      have HB11 := Lib.hid ((below_drewN HBZ.out _).trans (hb11.mono HBZ.out.size))
      clear hb11 p0 p1 p2 p3
      have HAL11 := Lib.hid ((Below.refl w11.heap.size w11).alloc (Nat.le_refl _) (.cells #[.slice A9 n9 c9, .slice B9 m9 d9] 24))
      have HB11a := Lib.hid (HB11.out.trans (HAL11.out.mono HB11.out.size))
      go_wp2_with fail
      refine (awake_any _).mono ?_
      rintro e w12 ⟨rfl, hb12⟩
      go_wp2_with fail
      go_ret
      exact ⟨rfl, HB11a.out.trans (hb12.mono HB11a.out.size)⟩

end Go.Proofs.YtnkmmmagdmnngaaDoor.Wd
