/-
  Split of the reference, where the word is valid and the number is in its range.
-/
import Derived.Test.YteidikkeoaolgaaDoorWdGrow
namespace Go.Proofs.YteidikkeoaolgaaDoor.Wd
open Go.RowKit
set_option linter.unusedVariables false
set_option linter.unusedSimpArgs false

set_option maxRecDepth 100000 in
set_option maxHeartbeats 8000000 in
theorem refSplit_good (A B : Option Addr) (n c m d : Nat) (s l : List Int) (k : Nat) (w : World) (ha : Ints w A n s) (hb : Ints w B m l) (hnc : n ≤ c) (hmd : m ≤ d) (hv : validB 6 s l = true) (hk : k ≤ 6) :
    Calls Tryd.prog 18 #[.agg #[.slice A n c, .slice B m d], .int .i64 k] w fun e w' => Res2 w w' true (lowF s l k) (highF s l k) 0 e := by
  obtain ⟨i0, hi, hi0, hi1, hi2⟩ := info_parts int_info
  have hl6 := valid6 hv
  have hx := ha.1
  have hy := hb.1
  have hn : n ≤ 200 := by omega
  have hm : m ≤ 200 := by omega
  have hm0 : 0 < m := by omega
  have hk0 : (0 : Int) ≤ (k : Int) := by omega
  have hk6 : (k : Int) ≤ 6 := by omega
  have HX := Lib.hid (show s.length = n ∧ l.length = m from ⟨hx, hy⟩)
  have HV := Lib.hid hv
  have HI := Lib.hid (fun W (hW : Below w.heap.size w W) => is_any A B n c m d s l W (ha.below hW) (hb.below hW) (by omega) (by omega))
  rw [hv] at HI
  have HA := Lib.hid ha
  have HB := Lib.hid hb
  obtain ⟨P, hPw, hPn, HP⟩ : ∃ P : Int, IntKind.i64.wrap ((2 : Int) ^ k) = P ∧ P ≠ 0 ∧ Hid (P = (2 : Int) ^ k) := ⟨_, (pow_wrap hk).1, (pow_wrap hk).2, rfl⟩
  clear hl6 hx hy hv ha hb
  go_enter Tryd.func18, Tryd.ntmps18
  go_wp2_with fail
  refine (HI.out _ ((((Below.refl _ _).alloc (Nat.le_refl _) _).alloc (by simp) _).alloc (by simp; omega) _)).mono ?_
  rintro e w1 ⟨rfl, hb1⟩
  have hbw : Below w.heap.size w w1 := ((((Below.refl _ _).alloc (Nat.le_refl _) _).alloc (by simp) _).alloc (by simp; omega) _).trans (hb1.mono (by simp; omega))
  obtain ⟨⟨⟨p0, p1⟩, ⟨q0, q1⟩, ⟨u0, u1⟩⟩, ⟨⟨q2, q3⟩, ⟨u2, u3⟩⟩, hz⟩ := boxes3 hb1
  have hz1 : w.heap.size + 1 < w1.heap.size := by omega
  have hz0 : w.heap.size < w1.heap.size := by omega
  clear hb1
  have HB0 := Lib.hid (show Boxes (w.heap.size + 1) w1 (.slice none 0 0) (.slice none 0 0) (.slice none 0 0) (.slice none 0 0) from ⟨hz, q0, q1, u0, u1, q2, q3, u2, u3⟩)
  have HBW := Lib.hid hbw
  clear hbw q0 q1 u0 u1 q2 q3 u2 u3
  go_wp2_with fail
  have hst0 := Two.start w1
  have hb0 : Below (w.heap.size + 1) w1 w1 := Below.refl _ _
  go_loopg [29] n (fun g i wx => ∃ (t c1 c2 : Nat) (A1 A2 : Option Addr), t + g = n ∧ i = .int .i64 t ∧ Hid (Two w1.heap.size wx (.slice A1 t c1) (.slice A2 t c2) t (lowL (s.take t) k) (highL (s.take t) k)) ∧
    Hid (Boxes (w.heap.size + 1) wx (.slice A1 t c1) (.slice none 0 0) (.slice A2 t c2) (.slice none 0 0)) ∧ Below (w.heap.size + 1) w1 wx)
  case atStart => exact ⟨0, 0, 0, none, none, by omega, rfl, by simpa [Hid, lowL, highL] using hst0, HB0.out, hb0⟩
  case round =>
    obtain ⟨t, c1, c2, A1, A2, htg, rfl, HT, HBX, hbx⟩ := hrel
    clear hst0 hb0
    have a0 := (hbx.cell (p := ⟨w.heap.size, 0, none⟩) (by simp)).trans p0
    have a1 := (hbx.cell (p := ⟨w.heap.size, 1, none⟩) (by simp)).trans p1
    cases gk with
    | zero =>
      obtain rfl : n = t := by omega
      have hs0 : s.take n = s := List.take_of_length_le (by have := HX.out; omega)
      rw [hs0] at HT
      clear hs0
      obtain ⟨wq, rfl⟩ : ∃ wq, wq = wr := ⟨_, rfl⟩
      have HCP := Lib.hid HT.out.caps
      have HBW2 := Lib.hid (HBW.out.trans (hbx.mono (by omega)))
      have HI12 := Lib.hid (show IntsIn wq.heap.size wq A1 n (lowL s k) ∧ IntsIn wq.heap.size wq A2 n (highL s k) from ⟨IntsIn.of HT.out.ints.1 (Nat.le_refl _), IntsIn.of HT.out.ints.2 (Nat.le_refl _)⟩)
      have hst1 := Two.start wq
      have hb1 : Below (w.heap.size + 1) wq wq := Below.refl _ _
      have HBXQ := Lib.hid HBX.out
      have HZQ := Lib.hid (show w.heap.size + 1 + 2 ≤ wq.heap.size by have := HBX.out.size; omega)
      clear HT HBX
      go_wp2_with fail
      go_loopg [54] m (fun g i wx => ∃ (t c3 c4 : Nat) (A3 A4 : Option Addr), t + g = m ∧ i = .int .i64 t ∧ Hid (Two wq.heap.size wx (.slice A3 t c3) (.slice A4 t c4) t (lowL (l.take t) k) (highL (l.take t) k)) ∧
        Hid (Boxes (w.heap.size + 1) wx (.slice A1 n c1) (.slice A3 t c3) (.slice A2 n c2) (.slice A4 t c4)) ∧ Hid (IntsIn wq.heap.size wx A1 n (lowL s k) ∧ IntsIn wq.heap.size wx A2 n (highL s k)) ∧ Below (w.heap.size + 1) wq wx)
      case atStart => exact ⟨0, 0, 0, none, none, by omega, rfl, by simpa [Hid, lowL, highL] using hst1, HBXQ.out, HI12.out, hb1⟩
      case round =>
        obtain ⟨t, c3, c4, A3, A4, htg, rfl, HT, HBX, HST, hby⟩ := hrel
        clear hst1 hb1 a0 a1
        have HBWR := Lib.hid (HBW2.out.trans (hby.mono (by omega)))
        cases gk with
        | zero =>
          obtain rfl : m = t := by omega
          have hl0 : l.take m = l := List.take_of_length_le (by have := HX.out; omega)
          rw [hl0] at HT
          clear hl0
          have HCQ := Lib.hid HT.out.caps
          have HI1 := Lib.hid (HST.out.1.ints hby.size)
          have HI2 := Lib.hid (HST.out.2.ints hby.size)
          have HI3 := Lib.hid HT.out.ints.1
          have HI4 := Lib.hid HT.out.ints.2
          have hc0 := HBX.out.c0
          have hc1 := HBX.out.c1
          have hd0 := HBX.out.d0
          have hd1 := HBX.out.d1
          have hzz := HBX.out.size
          have hz3 : w.heap.size + 1 < wr.heap.size := by omega
          go_wp2_with fail
          refine wp_region_until_drew (st := [4, 5]) (S := fun V => (V.cell? ⟨w.heap.size + 1, 0, none⟩ = some (.slice A1 n c1) ∧ V.cell? ⟨w.heap.size + 1, 1, none⟩ = some (.slice A3 m c3)) ∧ V.cell? ⟨w.heap.size + 1 + 1, 0, none⟩ = some (.slice A2 n c2) ∧ V.cell? ⟨w.heap.size + 1 + 1, 1, none⟩ = some (.slice A4 m c4)) (by kernel_rfl) ⟨⟨hc0, hc1⟩, hd0, hd1⟩ (fun hHeld => ?_)
          refine wpAnyU_load (i := 0) (v := ?vr0) rfl (by kernel_rfl) (by kernel_rfl) (by kernel_rfl) (by kernel_rfl) (fun _ _ _ h => h) (Or.inl ⟨by rfl, fun V hSw => ?hyr0⟩) hHeld ?restr0
          case hyr0 => (obtain ⟨⟨hs1, hs2⟩, hs3, hs4⟩ := hSw); go_simp; try with_reducible rfl
          try simp only [Act.put, List.getElem_toArray, List.getElem_cons_zero, List.getElem_cons_succ, List.setIfInBounds_toArray, List.set_cons_zero, List.set_cons_succ]
          refine wpAnyU_load (i := 2) (v := ?vr2) rfl (by kernel_rfl) (by kernel_rfl) (by kernel_rfl) (by kernel_rfl) (fun _ _ _ h => h) (Or.inl ⟨by rfl, fun V hSw => ?hyr2⟩) hHeld ?restr2
          case hyr2 => (obtain ⟨⟨hs1, hs2⟩, hs3, hs4⟩ := hSw); go_simp; try with_reducible rfl
          try simp only [Act.put, List.getElem_toArray, List.getElem_cons_zero, List.getElem_cons_succ, List.setIfInBounds_toArray, List.set_cons_zero, List.set_cons_succ]
          refine wpAnyU_ready (rs := [1]) (by kernel_rfl) (by simp) (AllU.cons (i := 1) rfl (fun K hK => ?_) AllU.nil)
          simp only [List.getElem_toArray, List.getElem_cons_zero, List.getElem_cons_succ]
          go_simp
          go_at_call 65
          refine (norm_any A1 A3 n c1 m c3 (lowL s k) (lowL l k) _ (HI1.out.drew) (HI3.out.drew) (by omega) (by omega) hm0 HCP.out.1 HCQ.out.1).mono ?_
          rintro e w3 ⟨v3, s3, l3, rfl, hw3, hn3, hle3, hlel3, b3⟩
          obtain ⟨A5, n5, c5, B5, m5, d5, rfl, ha5, hb5, hnc5, hmd5⟩ := hw3
          have k3 : Below wr.heap.size wr w3 := ((Below.refl _ _).drew).trans b3
          have HX3 := Lib.hid (HBX.out.below (k3.mono (by have := HBX.out.size; omega)))
          refine hK.out _ _ (fun _ => ⟨⟨HX3.out.c0, HX3.out.c1⟩, HX3.out.d0, HX3.out.d1⟩) ?_
          clear hK K
          try simp only [Act.put, List.getElem_toArray, List.getElem_cons_zero, List.getElem_cons_succ, List.setIfInBounds_toArray, List.set_cons_zero, List.set_cons_succ]
          refine wpAnyU_ready (rs := [3]) (by kernel_rfl) (by simp) (AllU.cons (i := 3) rfl (fun K hK => ?_) AllU.nil)
          simp only [List.getElem_toArray, List.getElem_cons_zero, List.getElem_cons_succ]
          go_simp
          go_at_call 65
          refine (norm_any A2 A4 n c2 m c4 (highL s k) (highL l k) _ (HI2.out.below k3) (HI4.out.below k3) (by omega) (by omega) hm0 HCP.out.2 HCQ.out.2).mono ?_
          rintro e w4 ⟨v4, s4, l4, rfl, hw4, hn4, hle4, hlel4, b4⟩
          obtain ⟨A6, n6, c6, B6, m6, d6, rfl, ha6, hb6, hnc6, hmd6⟩ := hw4
          have k4 : Below wr.heap.size wr w4 := k3.trans (b4.mono k3.size)
          have HX4 := Lib.hid (HBX.out.below (k4.mono (by have := HBX.out.size; omega)))
          refine hK.out _ _ (fun _ => ⟨⟨HX4.out.c0, HX4.out.c1⟩, HX4.out.d0, HX4.out.d1⟩) ?_
          clear hK K
          try simp only [Act.put, List.getElem_toArray, List.getElem_cons_zero, List.getElem_cons_succ, List.setIfInBounds_toArray, List.set_cons_zero, List.set_cons_succ]
          clear hHeld hc0 hc1 hd0 hd1
          have r0 := HX4.out.c0
          have r1 := HX4.out.c1
          have t0 := HX4.out.d0
          have t1 := HX4.out.d1
          have r2 := HX4.out.f0
          have r3 := HX4.out.f1
          have t2 := HX4.out.g0
          have t3 := HX4.out.g1
          have hz4 := HX4.out.size
          have hz5 : w.heap.size + 1 < w4.heap.size := by omega
          refine wpAnyU_ready (rs := [4]) (by kernel_rfl) (by simp) (AllU.cons (i := 4) rfl (fun K hK => ?_) AllU.nil)
          simp only [List.getElem_toArray, List.getElem_cons_zero, List.getElem_cons_succ]
          go_simp
          refine hK.out _ _ (fun h => by have h2 : false = true := h; cases h2) ?_
          clear hK K
          try simp only [Act.put, List.getElem_toArray, List.getElem_cons_zero, List.getElem_cons_succ, List.setIfInBounds_toArray, List.set_cons_zero, List.set_cons_succ]
          refine wpAnyU_ready (rs := [5]) (by kernel_rfl) (by simp) (AllU.cons (i := 5) rfl (fun K hK => ?_) AllU.nil)
          simp only [List.getElem_toArray, List.getElem_cons_zero, List.getElem_cons_succ]
          go_simp
          refine hK.out _ _ (fun h => by have h2 : false = true := h; cases h2) ?_
          clear hK K
          try simp only [Act.put, List.getElem_toArray, List.getElem_cons_zero, List.getElem_cons_succ, List.setIfInBounds_toArray, List.set_cons_zero, List.set_cons_succ]
          refine wpAnyU_ready (rs := [6]) (by kernel_rfl) (by simp) (AllU.cons (i := 6) rfl (fun K hK => ?_) AllU.nil)
          simp only [List.getElem_toArray, List.getElem_cons_zero, List.getElem_cons_succ]
          go_simp
          refine hK.out _ _ (fun h => by have h2 : false = true := h; cases h2) ?_
          clear hK K
          try simp only [Act.put, List.getElem_toArray, List.getElem_cons_zero, List.getElem_cons_succ, List.setIfInBounds_toArray, List.set_cons_zero, List.set_cons_succ]
          refine wpAnyU_done (by kernel_rfl) ?_ _
          go_wp2_with fail
          refine bodyPost_ret (v := .tuple #[.agg #[.slice A5 n5 c5, .slice B5 m5 d5], .agg #[.slice A6 n6 c6, .slice B6 m6 d6], .int .i64 0]) (by simp [results, Tryd.results18, go_sem, r0, r1, t0, t1]) rfl ?_
          rw [at_low (by have := HX.out; omega)] at hn3
          rw [at_high (by have := HX.out; omega)] at hn4
          exact ⟨A5, n5, c5, B5, m5, d5, A6, n6, c6, B6, m6, d6, s3, l3, s4, l4, rfl, ⟨ints_set4 (ha5.below b4) r0 r1 t0 t1 (by simp) (by simp) (by simp) (by simp) _ _ _ _, ints_set4 (hb5.below b4) r0 r1 t0 t1 (by simp) (by simp) (by simp) (by simp) _ _ _ _, hnc5, hmd5⟩,
            ⟨ints_set4 ha6 r0 r1 t0 t1 (by simp) (by simp) (by simp) (by simp) _ _ _ _, ints_set4 hb6 r0 r1 t0 t1 (by simp) (by simp) (by simp) (by simp) _ _ _ _, hnc6, hmd6⟩, ⟨⟨out_good hn3, by omega⟩, ⟨out_good hn4, by omega⟩⟩,
            ((((HBWR.out.trans (k4.mono HBWR.out.size)).setCell (p := ⟨w.heap.size + 1, 0, none⟩) (by show w.heap.size ≤ w.heap.size + 1; omega) _).setCell (p := ⟨w.heap.size + 1, 1, none⟩) (by show w.heap.size ≤ w.heap.size + 1; omega) _).setCell (p := ⟨w.heap.size + 1 + 1, 0, none⟩) (by show w.heap.size ≤ w.heap.size + 1 + 1; omega) _).setCell (p := ⟨w.heap.size + 1 + 1, 1, none⟩) (by show w.heap.size ≤ w.heap.size + 1 + 1; omega) _⟩
        | succ g =>
          have HSB := Lib.hid HZQ.out
          have HSZ := Lib.hid (show w.heap.size + 1 + 2 ≤ wr.heap.size from Nat.le_trans HSB.out hby.size)
          have HAr := Lib.hid (HB.out.below HBWR.out)
          have ht1 : t < m := by omega
          obtain ⟨bA, oA, hAe, hlt, hcell⟩ := HAr.out.at_ ht1
          subst hAe
          have hct := hcell t ht1
          generalize hxe : l.getD t 0 = x at hct
          have hxat : at_ s l (s.length + t) = x := by rw [← hxe]; exact loop_at (by have := HX.out; omega)
          have hx0 : 0 ≤ x := by rw [← hxat]; exact (letter_at HV.out _).1
          have hx1 : x < 64 := by rw [← hxat]; exact (letter_at HV.out _).2
          have hti : (0 : Int) ≤ (t : Int) := by omega
          have hti2 : (t : Int) < (m : Int) := by omega
          have HXE := Lib.hid hxe
          have hq0 := HBX.out.c0
          have hq1 := HBX.out.c1
          have hu0 := HBX.out.d0
          have hu1 := HBX.out.d1
          have hq2 := HBX.out.f0
          have hq3 := HBX.out.f1
          have hu2 := HBX.out.g0
          have hu3 := HBX.out.g1
          clear hcell hxe hxat
          go_wp2_with fail
          refine wp_region_until_drew (st := [16, 18]) (S := fun V => V.cell? ⟨w.heap.size + 1, 1, none⟩ = some (.slice A3 t c3) ∧ V.cell? ⟨w.heap.size + 1 + 1, 1, none⟩ = some (.slice A4 t c4)) (by kernel_rfl) ⟨hq1, hu1⟩ (fun hHeld => ?_)
          refine wpAnyU_pure (i := 0) (v := ?vq0) rfl (by kernel_rfl) (by kernel_rfl) (by kernel_rfl) (by kernel_rfl) (fun _ _ _ h => h) (Or.inl ⟨by rfl, fun V _ => ?hyq0⟩) (fun _ => hHeld) ?restq0
          case hyq0 => go_simp; try with_reducible rfl
          try simp only [Act.put, List.getElem_toArray, List.getElem_cons_zero, List.getElem_cons_succ, List.setIfInBounds_toArray, List.set_cons_zero, List.set_cons_succ]
          refine wpAnyU_load (i := 1) (v := ?vq1) rfl (by kernel_rfl) (by kernel_rfl) (by kernel_rfl) (by kernel_rfl) (fun _ _ _ h => h) (Or.inl ⟨by rfl, fun V hSw => ?hyq1⟩) hHeld ?restq1
          case hyq1 => (obtain ⟨hs1, hs2⟩ := hSw); go_simp; try with_reducible rfl
          try simp only [Act.put, List.getElem_toArray, List.getElem_cons_zero, List.getElem_cons_succ, List.setIfInBounds_toArray, List.set_cons_zero, List.set_cons_succ]
          refine wpAnyU_pure (i := 2) (v := ?vq2) rfl (by kernel_rfl) (by kernel_rfl) (by kernel_rfl) (by kernel_rfl) (fun _ _ _ h => h) (Or.inl ⟨by rfl, fun V _ => ?hyq2⟩) (fun _ => hHeld) ?restq2
          case hyq2 => go_simp; try with_reducible rfl
          try simp only [Act.put, List.getElem_toArray, List.getElem_cons_zero, List.getElem_cons_succ, List.setIfInBounds_toArray, List.set_cons_zero, List.set_cons_succ]
          refine wpAnyU_pure (i := 3) (v := ?vq3) rfl (by kernel_rfl) (by kernel_rfl) (by kernel_rfl) (by kernel_rfl) (fun _ _ _ h => h) (Or.inl ⟨by rfl, fun V _ => ?hyq3⟩) (fun _ => hHeld) ?restq3
          case hyq3 => go_simp; try with_reducible rfl
          try simp only [Act.put, List.getElem_toArray, List.getElem_cons_zero, List.getElem_cons_succ, List.setIfInBounds_toArray, List.set_cons_zero, List.set_cons_succ]
          refine wpAnyU_pure (i := 4) (v := ?vq4) rfl (by kernel_rfl) (by kernel_rfl) (by kernel_rfl) (by kernel_rfl) (fun _ _ _ h => h) (Or.inl ⟨by rfl, fun V _ => ?hyq4⟩) (fun _ => hHeld) ?restq4
          case hyq4 => go_simp; try with_reducible rfl
          try simp only [Act.put, List.getElem_toArray, List.getElem_cons_zero, List.getElem_cons_succ, List.setIfInBounds_toArray, List.set_cons_zero, List.set_cons_succ]
          refine wpAnyU_pure (i := 5) (v := ?vq5) rfl (by kernel_rfl) (by kernel_rfl) (by kernel_rfl) (by kernel_rfl) (fun _ _ _ h => h) (Or.inl ⟨by rfl, fun V _ => ?hyq5⟩) (fun _ => hHeld) ?restq5
          case hyq5 => go_simp; try with_reducible rfl
          try simp only [Act.put, List.getElem_toArray, List.getElem_cons_zero, List.getElem_cons_succ, List.setIfInBounds_toArray, List.set_cons_zero, List.set_cons_succ]
          refine wpAnyU_pure (i := 8) (v := ?vq8) rfl (by kernel_rfl) (by kernel_rfl) (by kernel_rfl) (by kernel_rfl) (fun _ _ _ h => h) (Or.inl ⟨by rfl, fun V _ => ?hyq8⟩) (fun _ => hHeld) ?restq8
          case hyq8 => go_simp; try with_reducible rfl
          try simp only [Act.put, List.getElem_toArray, List.getElem_cons_zero, List.getElem_cons_succ, List.setIfInBounds_toArray, List.set_cons_zero, List.set_cons_succ]
          refine wpAnyU_load (i := 9) (v := ?vq9) rfl (by kernel_rfl) (by kernel_rfl) (by kernel_rfl) (by kernel_rfl) (fun _ _ _ h => h) (Or.inl ⟨by rfl, fun V hSw => ?hyq9⟩) hHeld ?restq9
          case hyq9 => (obtain ⟨hs1, hs2⟩ := hSw); go_simp; try with_reducible rfl
          try simp only [Act.put, List.getElem_toArray, List.getElem_cons_zero, List.getElem_cons_succ, List.setIfInBounds_toArray, List.set_cons_zero, List.set_cons_succ]
          refine wpAnyU_pure (i := 10) (v := ?vq10) rfl (by kernel_rfl) (by kernel_rfl) (by kernel_rfl) (by kernel_rfl) (fun _ _ _ h => h) (Or.inl ⟨by rfl, fun V _ => ?hyq10⟩) (fun _ => hHeld) ?restq10
          case hyq10 => go_simp; try with_reducible rfl
          try simp only [Act.put, List.getElem_toArray, List.getElem_cons_zero, List.getElem_cons_succ, List.setIfInBounds_toArray, List.set_cons_zero, List.set_cons_succ]
          refine wpAnyU_pure (i := 11) (v := ?vq11) rfl (by kernel_rfl) (by kernel_rfl) (by kernel_rfl) (by kernel_rfl) (fun _ _ _ h => h) (Or.inl ⟨by rfl, fun V _ => ?hyq11⟩) (fun _ => hHeld) ?restq11
          case hyq11 => go_simp; try with_reducible rfl
          try simp only [Act.put, List.getElem_toArray, List.getElem_cons_zero, List.getElem_cons_succ, List.setIfInBounds_toArray, List.set_cons_zero, List.set_cons_succ]
          refine wpAnyU_pure (i := 12) (v := ?vq12) rfl (by kernel_rfl) (by kernel_rfl) (by kernel_rfl) (by kernel_rfl) (fun _ _ _ h => h) (Or.inl ⟨by rfl, fun V _ => ?hyq12⟩) (fun _ => hHeld) ?restq12
          case hyq12 => go_simp; try with_reducible rfl
          try simp only [Act.put, List.getElem_toArray, List.getElem_cons_zero, List.getElem_cons_succ, List.setIfInBounds_toArray, List.set_cons_zero, List.set_cons_succ]
          refine wpAnyU_ready (rs := [6, 13]) (by kernel_rfl) (by simp) (AllU.cons (i := 6) rfl (fun K hK => ?bq6) (AllU.cons (i := 13) rfl (fun K hK => ?bq13) AllU.nil))
          case' bq6 =>
            have t1 := HT.out.below ((Below.refl wr.heap.size wr).drew.alloc (Nat.le_refl _) (.cells #[.int .i64 (x.tmod P)] 3))
            simp only [List.getElem_toArray, List.getElem_cons_zero, List.getElem_cons_succ]
            go_simp
            refine hK.out _ _ (fun _ => ?sqx6) ?rqx6
            case' sqx6 => exact ⟨(HBX.out.below (((Below.refl wr.heap.size wr).drew.alloc (Nat.le_refl _) (.cells #[.int .i64 (x.tmod P)] 3)).mono HSZ.out)).c1, (HBX.out.below (((Below.refl wr.heap.size wr).drew.alloc (Nat.le_refl _) (.cells #[.int .i64 (x.tmod P)] 3)).mono HSZ.out)).d1⟩
            case' rqx6 =>
              clear hK K
              try simp only [Act.put, List.getElem_toArray, List.getElem_cons_zero, List.getElem_cons_succ, List.setIfInBounds_toArray, List.set_cons_zero, List.set_cons_succ]
              refine wpAnyU_ready (rs := [7, 13]) (by kernel_rfl) (by simp) (AllU.cons (i := 7) rfl (fun K hK => ?bq67) (AllU.cons (i := 13) rfl (fun K hK => ?bq613) AllU.nil))
              case' bq67 =>
                refine step_append_ints _ (by rfl) _ _ _ (by rfl) wq.heap.size 3 i0 _ Tryd.underlying22 hi hi0 hi1 hi2 rfl (.slice A3 t c3) t ((lowL (l.take t) k).map (Value.int .i64)) (by rfl) (by exact t1.own) (some ⟨wr.heap.size, 0, none⟩) 1 1 [x.tmod P] (by rfl) (by exact ints_box wr.drew wr.heap.size rfl (x.tmod P) _) (by omega) (by exact t1.base) ?_
                intro u w2 hown hgrow hat
                obtain ⟨A1', c1', hu, hcc1⟩ := own_slice hown
                rw [hu] at hown hat ⊢
                obtain ⟨r1, ap1⟩ := own_apart t1.own' t1.apart.symm hgrow hat
                have hb7 := below_own t1.own hgrow t1.base
                have HX7 := Lib.hid (HBX.out.below (((((Below.refl wr.heap.size wr).drew.alloc (Nat.le_refl _) (.cells #[.int .i64 (x.tmod P)] 3)).mono HT.out.base).trans hb7).mono HSB.out))
                have HS2 := Lib.hid (show wq.heap.size ≤ w2.heap.size from Nat.le_trans t1.base hb7.size)
                refine hK.out _ _ (fun _ => ⟨HX7.out.c1, HX7.out.d1⟩) ?_
                clear hK K
                try simp only [Act.put, List.getElem_toArray, List.getElem_cons_zero, List.getElem_cons_succ, List.setIfInBounds_toArray, List.set_cons_zero, List.set_cons_succ]
                refine wpAnyU_pure (i := 15) (v := ?vqA15) rfl (by kernel_rfl) (by kernel_rfl) (by kernel_rfl) (by kernel_rfl) (fun _ _ _ h => h) (Or.inl ⟨by rfl, fun V _ => ?hyqA15⟩) (fun _ => ⟨HX7.out.c1, HX7.out.d1⟩) ?restqA15
                case hyqA15 => go_simp; try with_reducible rfl
                try simp only [Act.put, List.getElem_toArray, List.getElem_cons_zero, List.getElem_cons_succ, List.setIfInBounds_toArray, List.set_cons_zero, List.set_cons_succ]
                refine wpAnyU_ready (rs := [13]) (by kernel_rfl) (by simp) (AllU.cons (i := 13) rfl (fun K hK => ?_) AllU.nil)
                simp only [List.getElem_toArray, List.getElem_cons_zero, List.getElem_cons_succ]
                go_simp
                have HX8 := Lib.hid (HX7.out.below (((Below.refl w2.heap.size w2).alloc (Nat.le_refl _) (.cells #[.int .i64 (x / 2 ^ k)] 3)).mono HX7.out.size))
                refine hK.out _ _ (fun _ => ⟨HX8.out.c1, HX8.out.d1⟩) ?_
                clear hK K
                try simp only [Act.put, List.getElem_toArray, List.getElem_cons_zero, List.getElem_cons_succ, List.setIfInBounds_toArray, List.set_cons_zero, List.set_cons_succ]
                refine wpAnyU_ready (rs := [14]) (by kernel_rfl) (by simp) (AllU.cons (i := 14) rfl (fun K hK => ?_) AllU.nil)
                refine step_append_ints _ (by rfl) _ _ _ (by rfl) wq.heap.size 3 i0 _ Tryd.underlying22 hi hi0 hi1 hi2 rfl (.slice A4 t c4) t ((highL (l.take t) k).map (Value.int .i64)) (by rfl) (by exact own_below r1 ((Below.refl w2.heap.size w2).alloc (Nat.le_refl _) (.cells #[.int .i64 (x / 2 ^ k)] 3))) (some ⟨w2.heap.size, 0, none⟩) 1 1 [x / 2 ^ k] (by rfl) (by exact ints_box w2 w2.heap.size rfl (x / 2 ^ k) _) (by omega) (by exact Nat.le_trans HS2.out (by simp)) ?_
                intro u' w4 hown' hgrow' hat'
                obtain ⟨A2', c2', hu', hcc2⟩ := own_slice hown'
                rw [hu'] at hown' hat' ⊢
                have HG := Lib.hid (HT.out.roundA (.cells #[.int .i64 (x.tmod P)] 3) (.cells #[.int .i64 (x / 2 ^ k)] 3) hown hgrow hat hown' hgrow' hat')
                clear hu hu' hown hgrow hat hown' hgrow' hat' r1 ap1 hb7 hHeld
                have hHeld := (show w4.cell? ⟨w.heap.size + 1, 1, none⟩ = some (.slice A3 t c3) ∧ w4.cell? ⟨w.heap.size + 1 + 1, 1, none⟩ = some (.slice A4 t c4) from ⟨(HBX.out.below ((HG.out.2.mono (Nat.le_refl _)).mono HSB.out)).c1, (HBX.out.below ((HG.out.2.mono (Nat.le_refl _)).mono HSB.out)).d1⟩)
                refine hK.out _ _ (fun _ => hHeld) ?rqfa
                clear hK K
                try simp only [Act.put, List.getElem_toArray, List.getElem_cons_zero, List.getElem_cons_succ, List.setIfInBounds_toArray, List.set_cons_zero, List.set_cons_succ]
              case' bq613 =>
                simp only [List.getElem_toArray, List.getElem_cons_zero, List.getElem_cons_succ]
                go_simp
                refine hK.out _ _ (fun _ => ?sqx613) ?rqx613
                case' sqx613 => exact ⟨(HBX.out.below ((((Below.refl wr.heap.size wr).drew.alloc (Nat.le_refl _) (.cells #[.int .i64 (x.tmod P)] 3)).alloc (by simp) (.cells #[.int .i64 (x / 2 ^ k)] 3)).mono HSZ.out)).c1, (HBX.out.below ((((Below.refl wr.heap.size wr).drew.alloc (Nat.le_refl _) (.cells #[.int .i64 (x.tmod P)] 3)).alloc (by simp) (.cells #[.int .i64 (x / 2 ^ k)] 3)).mono HSZ.out)).d1⟩
                case' rqx613 =>
                  clear hK K
                  try simp only [Act.put, List.getElem_toArray, List.getElem_cons_zero, List.getElem_cons_succ, List.setIfInBounds_toArray, List.set_cons_zero, List.set_cons_succ]
                  have t2 := HT.out.below (((Below.refl wr.heap.size wr).drew.alloc (Nat.le_refl _) (.cells #[.int .i64 (x.tmod P)] 3)).alloc (by simp) (.cells #[.int .i64 (x / 2 ^ k)] 3))
                  refine wpAnyU_ready (rs := [7]) (by kernel_rfl) (by simp) (AllU.cons (i := 7) rfl (fun K hK => ?_) AllU.nil)
                  refine step_append_ints _ (by rfl) _ _ _ (by rfl) wq.heap.size 3 i0 _ Tryd.underlying22 hi hi0 hi1 hi2 rfl (.slice A3 t c3) t ((lowL (l.take t) k).map (Value.int .i64)) (by rfl) (by exact t2.own) (some ⟨wr.heap.size, 0, none⟩) 1 1 [x.tmod P] (by rfl) (by exact (ints_box wr.drew wr.heap.size rfl (x.tmod P) _).alloc _) (by omega) (by exact t2.base) ?_
                  intro u w2 hown hgrow hat
                  obtain ⟨A1', c1', hu, hcc1⟩ := own_slice hown
                  rw [hu] at hown hat ⊢
                  obtain ⟨r1, ap1⟩ := own_apart t2.own' t2.apart.symm hgrow hat
                  have hb7 := below_own t2.own hgrow t2.base
                  have HX7 := Lib.hid (HBX.out.below ((((((Below.refl wr.heap.size wr).drew.alloc (Nat.le_refl _) (.cells #[.int .i64 (x.tmod P)] 3)).alloc (by simp) (.cells #[.int .i64 (x / 2 ^ k)] 3)).mono HT.out.base).trans hb7).mono HSB.out))
                  have HS2 := Lib.hid (show wq.heap.size ≤ w2.heap.size from Nat.le_trans t2.base hb7.size)
                  have HI14 := Lib.hid (box_grown hgrow (by simp <;> omega) (own_ne HT.out.own (by simp)) (ints_box (wr.drew.alloc (.cells #[.int .i64 (x.tmod P)] 3)) (wr.heap.size + 1) (by simp) (x / 2 ^ k) 3))
                  refine hK.out _ _ (fun _ => ⟨HX7.out.c1, HX7.out.d1⟩) ?_
                  clear hK K
                  try simp only [Act.put, List.getElem_toArray, List.getElem_cons_zero, List.getElem_cons_succ, List.setIfInBounds_toArray, List.set_cons_zero, List.set_cons_succ]
                  refine wpAnyU_pure (i := 15) (v := ?vqB15) rfl (by kernel_rfl) (by kernel_rfl) (by kernel_rfl) (by kernel_rfl) (fun _ _ _ h => h) (Or.inl ⟨by rfl, fun V _ => ?hyqB15⟩) (fun _ => ⟨HX7.out.c1, HX7.out.d1⟩) ?restqB15
                  case hyqB15 => go_simp; try with_reducible rfl
                  try simp only [Act.put, List.getElem_toArray, List.getElem_cons_zero, List.getElem_cons_succ, List.setIfInBounds_toArray, List.set_cons_zero, List.set_cons_succ]
                  refine wpAnyU_ready (rs := [14]) (by kernel_rfl) (by simp) (AllU.cons (i := 14) rfl (fun K hK => ?_) AllU.nil)
                  refine step_append_ints _ (by rfl) _ _ _ (by rfl) wq.heap.size 3 i0 _ Tryd.underlying22 hi hi0 hi1 hi2 rfl (.slice A4 t c4) t ((highL (l.take t) k).map (Value.int .i64)) (by rfl) (by exact r1) (some ⟨wr.heap.size + 1, 0, none⟩) 1 1 [x / 2 ^ k] (by rfl) (by exact HI14.out) (by omega) (by exact HS2.out) ?_
                  intro u' w4 hown' hgrow' hat'
                  obtain ⟨A2', c2', hu', hcc2⟩ := own_slice hown'
                  rw [hu'] at hown' hat' ⊢
                  have HG := Lib.hid (HT.out.roundB (.cells #[.int .i64 (x.tmod P)] 3) (.cells #[.int .i64 (x / 2 ^ k)] 3) hown hgrow hat hown' hgrow' hat')
                  clear hu hu' hown hgrow hat hown' hgrow' hat' r1 ap1 hb7 hHeld
                  have hHeld := (show w4.cell? ⟨w.heap.size + 1, 1, none⟩ = some (.slice A3 t c3) ∧ w4.cell? ⟨w.heap.size + 1 + 1, 1, none⟩ = some (.slice A4 t c4) from ⟨(HBX.out.below ((HG.out.2.mono (Nat.le_refl _)).mono HSB.out)).c1, (HBX.out.below ((HG.out.2.mono (Nat.le_refl _)).mono HSB.out)).d1⟩)
                  refine hK.out _ _ (fun _ => hHeld) ?rqfB
                  clear hK K
                  try simp only [Act.put, List.getElem_toArray, List.getElem_cons_zero, List.getElem_cons_succ, List.setIfInBounds_toArray, List.set_cons_zero, List.set_cons_succ]
          case' bq13 =>
            simp only [List.getElem_toArray, List.getElem_cons_zero, List.getElem_cons_succ]
            go_simp
            refine hK.out _ _ (fun _ => ?sqx13) ?rqx13
            case' sqx13 => exact ⟨(HBX.out.below (((Below.refl wr.heap.size wr).drew.alloc (Nat.le_refl _) (.cells #[.int .i64 (x / 2 ^ k)] 3)).mono HSZ.out)).c1, (HBX.out.below (((Below.refl wr.heap.size wr).drew.alloc (Nat.le_refl _) (.cells #[.int .i64 (x / 2 ^ k)] 3)).mono HSZ.out)).d1⟩
            case' rqx13 =>
              clear hK K
              try simp only [Act.put, List.getElem_toArray, List.getElem_cons_zero, List.getElem_cons_succ, List.setIfInBounds_toArray, List.set_cons_zero, List.set_cons_succ]
              refine wpAnyU_ready (rs := [6]) (by kernel_rfl) (by simp) (AllU.cons (i := 6) rfl (fun K hK => ?_) AllU.nil)
              simp only [List.getElem_toArray, List.getElem_cons_zero, List.getElem_cons_succ]
              go_simp
              refine hK.out _ _ (fun _ => ?sqx136) ?rqx136
              case' sqx136 => exact ⟨(HBX.out.below ((((Below.refl wr.heap.size wr).drew.alloc (Nat.le_refl _) (.cells #[.int .i64 (x / 2 ^ k)] 3)).alloc (by simp) (.cells #[.int .i64 (x.tmod P)] 3)).mono HSZ.out)).c1, (HBX.out.below ((((Below.refl wr.heap.size wr).drew.alloc (Nat.le_refl _) (.cells #[.int .i64 (x / 2 ^ k)] 3)).alloc (by simp) (.cells #[.int .i64 (x.tmod P)] 3)).mono HSZ.out)).d1⟩
              case' rqx136 =>
                clear hK K
                try simp only [Act.put, List.getElem_toArray, List.getElem_cons_zero, List.getElem_cons_succ, List.setIfInBounds_toArray, List.set_cons_zero, List.set_cons_succ]
                have t2 := HT.out.below (((Below.refl wr.heap.size wr).drew.alloc (Nat.le_refl _) (.cells #[.int .i64 (x / 2 ^ k)] 3)).alloc (by simp) (.cells #[.int .i64 (x.tmod P)] 3))
                refine wpAnyU_ready (rs := [7]) (by kernel_rfl) (by simp) (AllU.cons (i := 7) rfl (fun K hK => ?_) AllU.nil)
                refine step_append_ints _ (by rfl) _ _ _ (by rfl) wq.heap.size 3 i0 _ Tryd.underlying22 hi hi0 hi1 hi2 rfl (.slice A3 t c3) t ((lowL (l.take t) k).map (Value.int .i64)) (by rfl) (by exact t2.own) (some ⟨wr.heap.size + 1, 0, none⟩) 1 1 [x.tmod P] (by rfl) (by exact ints_box (wr.drew.alloc (.cells #[.int .i64 (x / 2 ^ k)] 3)) (wr.heap.size + 1) (by simp) (x.tmod P) _) (by omega) (by exact t2.base) ?_
                intro u w2 hown hgrow hat
                obtain ⟨A1', c1', hu, hcc1⟩ := own_slice hown
                rw [hu] at hown hat ⊢
                obtain ⟨r1, ap1⟩ := own_apart t2.own' t2.apart.symm hgrow hat
                have hb7 := below_own t2.own hgrow t2.base
                have HX7 := Lib.hid (HBX.out.below ((((((Below.refl wr.heap.size wr).drew.alloc (Nat.le_refl _) (.cells #[.int .i64 (x / 2 ^ k)] 3)).alloc (by simp) (.cells #[.int .i64 (x.tmod P)] 3)).mono HT.out.base).trans hb7).mono HSB.out))
                have HS2 := Lib.hid (show wq.heap.size ≤ w2.heap.size from Nat.le_trans t2.base hb7.size)
                have HI14 := Lib.hid (box_grown hgrow (by simp <;> omega) (own_ne HT.out.own (by simp)) ((ints_box wr.drew wr.heap.size rfl (x / 2 ^ k) 3).alloc (.cells #[.int .i64 (x.tmod P)] 3)))
                refine hK.out _ _ (fun _ => ⟨HX7.out.c1, HX7.out.d1⟩) ?_
                clear hK K
                try simp only [Act.put, List.getElem_toArray, List.getElem_cons_zero, List.getElem_cons_succ, List.setIfInBounds_toArray, List.set_cons_zero, List.set_cons_succ]
                refine wpAnyU_pure (i := 15) (v := ?vqC15) rfl (by kernel_rfl) (by kernel_rfl) (by kernel_rfl) (by kernel_rfl) (fun _ _ _ h => h) (Or.inl ⟨by rfl, fun V _ => ?hyqC15⟩) (fun _ => ⟨HX7.out.c1, HX7.out.d1⟩) ?restqC15
                case hyqC15 => go_simp; try with_reducible rfl
                try simp only [Act.put, List.getElem_toArray, List.getElem_cons_zero, List.getElem_cons_succ, List.setIfInBounds_toArray, List.set_cons_zero, List.set_cons_succ]
                refine wpAnyU_ready (rs := [14]) (by kernel_rfl) (by simp) (AllU.cons (i := 14) rfl (fun K hK => ?_) AllU.nil)
                refine step_append_ints _ (by rfl) _ _ _ (by rfl) wq.heap.size 3 i0 _ Tryd.underlying22 hi hi0 hi1 hi2 rfl (.slice A4 t c4) t ((highL (l.take t) k).map (Value.int .i64)) (by rfl) (by exact r1) (some ⟨wr.heap.size, 0, none⟩) 1 1 [x / 2 ^ k] (by rfl) (by exact HI14.out) (by omega) (by exact HS2.out) ?_
                intro u' w4 hown' hgrow' hat'
                obtain ⟨A2', c2', hu', hcc2⟩ := own_slice hown'
                rw [hu'] at hown' hat' ⊢
                have HG := Lib.hid (HT.out.roundB (.cells #[.int .i64 (x / 2 ^ k)] 3) (.cells #[.int .i64 (x.tmod P)] 3) hown hgrow hat hown' hgrow' hat')
                clear hu hu' hown hgrow hat hown' hgrow' hat' r1 ap1 hb7 hHeld
                have hHeld := (show w4.cell? ⟨w.heap.size + 1, 1, none⟩ = some (.slice A3 t c3) ∧ w4.cell? ⟨w.heap.size + 1 + 1, 1, none⟩ = some (.slice A4 t c4) from ⟨(HBX.out.below ((HG.out.2.mono (Nat.le_refl _)).mono HSB.out)).c1, (HBX.out.below ((HG.out.2.mono (Nat.le_refl _)).mono HSB.out)).d1⟩)
                refine hK.out _ _ (fun _ => hHeld) ?rqfC
                clear hK K
                try simp only [Act.put, List.getElem_toArray, List.getElem_cons_zero, List.getElem_cons_succ, List.setIfInBounds_toArray, List.set_cons_zero, List.set_cons_succ]
          all_goals
            refine wpAnyU_ready (rs := [16]) (by kernel_rfl) (by simp) (AllU.cons (i := 16) rfl (fun K hK => ?_) AllU.nil)
            simp only [List.getElem_toArray, List.getElem_cons_zero, List.getElem_cons_succ]
            have HX4 := Lib.hid (HBX.out.below (HG.out.2.mono HSB.out))
            have hzz := HX4.out.size
            have e0 := HX4.out.c1
            have e1 := HX4.out.d1
            have e2 := HX4.out.f1
            have e3 := HX4.out.g1
            go_simp
            refine hK.out _ _ (fun h => by have h2 : false = true := h; cases h2) ?_
            clear hK K
            try simp only [Act.put, List.getElem_toArray, List.getElem_cons_zero, List.getElem_cons_succ, List.setIfInBounds_toArray, List.set_cons_zero, List.set_cons_succ]
            refine wpAnyU_pure (i := 17) (v := .pointer (some ⟨w.heap.size + 1 + 1, 1, none⟩)) rfl (by kernel_rfl) (by kernel_rfl) (by kernel_rfl) (by kernel_rfl) (fun _ _ _ h => h) (Or.inl ⟨by rfl, fun V _ => by (go_simp; try with_reducible rfl)⟩) (fun h => by have h2 : false = true := h; cases h2) ?_
            try simp only [Act.put, List.getElem_toArray, List.getElem_cons_zero, List.getElem_cons_succ, List.setIfInBounds_toArray, List.set_cons_zero, List.set_cons_succ]
            refine wpAnyU_ready (rs := [18]) (by kernel_rfl) (by simp) (AllU.cons (i := 18) rfl (fun K hK => ?_) AllU.nil)
            simp only [List.getElem_toArray, List.getElem_cons_zero, List.getElem_cons_succ]
            go_simp
            refine hK.out _ _ (fun h => by have h2 : false = true := h; cases h2) ?_
            clear hK K
            try simp only [Act.put, List.getElem_toArray, List.getElem_cons_zero, List.getElem_cons_succ, List.setIfInBounds_toArray, List.set_cons_zero, List.set_cons_succ]
            refine wpAnyU_done (by kernel_rfl) ?_ _
            clear e0 e1 e2 e3 hHeld hq0 hq1 hu0 hu1 hq2 hq3 hu2 hu3
            go_wp2_with fail
            go_roundg g
            case measure => omega
            case rel =>
              have HLO := low_snoc (s := l) (k := k) (t := t) (x := x) (P := P) (by have := HX.out; omega) HXE.out hx0 HP.out
              have HHI := high_snoc (s := l) (k := k) (t := t) (x := x) (by have := HX.out; omega) HXE.out
              refine ⟨t + 1, c1', c2', A1', A2', by omega, by go_num, ?_, HX4.out.set1 _ _, ?_, ?_⟩
              · rw [← HLO, ← HHI]
                exact ((HG.out.1.setCell (by have := HZQ.out; show w.heap.size + 1 < wq.heap.size; omega) _).setCell (by have := HZQ.out; show w.heap.size + 1 + 1 < wq.heap.size; omega) _)
              · exact ⟨(HST.out.1.below HG.out.2).set2 HX4.out _ _, (HST.out.2.below HG.out.2).set2 HX4.out _ _⟩
              · exact ((hby.trans (HG.out.2.mono (by have := HZQ.out; omega))).setCell (by simp) _).setCell (by simp) _
    | succ g =>
      have HSB := Lib.hid (show w.heap.size + 1 + 2 ≤ w1.heap.size by omega)
      have HSZ := Lib.hid (show w.heap.size + 1 + 2 ≤ wr.heap.size from Nat.le_trans HSB.out hbx.size)
      have HAr := Lib.hid (HA.out.below (HBW.out.trans (hbx.mono (by omega))))
      have ht1 : t < n := by omega
      obtain ⟨bA, oA, hAe, hlt, hcell⟩ := HAr.out.at_ ht1
      subst hAe
      have hct := hcell t ht1
      generalize hxe : s.getD t 0 = x at hct
      have hxat : at_ s l t = x := by rw [← hxe]; unfold at_; simp [HX.out.1, ht1]
      have hx0 : 0 ≤ x := by rw [← hxat]; exact (letter_at HV.out t).1
      have hx1 : x < 64 := by rw [← hxat]; exact (letter_at HV.out t).2
      have hti : (0 : Int) ≤ (t : Int) := by omega
      have hti2 : (t : Int) < (n : Int) := by omega
      have HXE := Lib.hid hxe
      have hq0 := HBX.out.c0
      have hq1 := HBX.out.c1
      have hu0 := HBX.out.d0
      have hu1 := HBX.out.d1
      have hq2 := HBX.out.f0
      have hq3 := HBX.out.f1
      have hu2 := HBX.out.g0
      have hu3 := HBX.out.g1
      clear hcell hxe hxat
      go_wp2_with fail
      refine wp_region_until_drew (st := [16, 18]) (S := fun V => V.cell? ⟨w.heap.size + 1, 0, none⟩ = some (.slice A1 t c1) ∧ V.cell? ⟨w.heap.size + 1 + 1, 0, none⟩ = some (.slice A2 t c2)) (by kernel_rfl) ⟨hq0, hu0⟩ (fun hHeld => ?_)
      refine wpAnyU_pure (i := 0) (v := ?vp0) rfl (by kernel_rfl) (by kernel_rfl) (by kernel_rfl) (by kernel_rfl) (fun _ _ _ h => h) (Or.inl ⟨by rfl, fun V _ => ?hyp0⟩) (fun _ => hHeld) ?restp0
      case hyp0 => go_simp; try with_reducible rfl
      try simp only [Act.put, List.getElem_toArray, List.getElem_cons_zero, List.getElem_cons_succ, List.setIfInBounds_toArray, List.set_cons_zero, List.set_cons_succ]
      refine wpAnyU_load (i := 1) (v := ?vp1) rfl (by kernel_rfl) (by kernel_rfl) (by kernel_rfl) (by kernel_rfl) (fun _ _ _ h => h) (Or.inl ⟨by rfl, fun V hSw => ?hyp1⟩) hHeld ?restp1
      case hyp1 => (obtain ⟨hs1, hs2⟩ := hSw); go_simp; try with_reducible rfl
      try simp only [Act.put, List.getElem_toArray, List.getElem_cons_zero, List.getElem_cons_succ, List.setIfInBounds_toArray, List.set_cons_zero, List.set_cons_succ]
      refine wpAnyU_pure (i := 2) (v := ?vp2) rfl (by kernel_rfl) (by kernel_rfl) (by kernel_rfl) (by kernel_rfl) (fun _ _ _ h => h) (Or.inl ⟨by rfl, fun V _ => ?hyp2⟩) (fun _ => hHeld) ?restp2
      case hyp2 => go_simp; try with_reducible rfl
      try simp only [Act.put, List.getElem_toArray, List.getElem_cons_zero, List.getElem_cons_succ, List.setIfInBounds_toArray, List.set_cons_zero, List.set_cons_succ]
      refine wpAnyU_pure (i := 3) (v := ?vp3) rfl (by kernel_rfl) (by kernel_rfl) (by kernel_rfl) (by kernel_rfl) (fun _ _ _ h => h) (Or.inl ⟨by rfl, fun V _ => ?hyp3⟩) (fun _ => hHeld) ?restp3
      case hyp3 => go_simp; try with_reducible rfl
      try simp only [Act.put, List.getElem_toArray, List.getElem_cons_zero, List.getElem_cons_succ, List.setIfInBounds_toArray, List.set_cons_zero, List.set_cons_succ]
      refine wpAnyU_pure (i := 4) (v := ?vp4) rfl (by kernel_rfl) (by kernel_rfl) (by kernel_rfl) (by kernel_rfl) (fun _ _ _ h => h) (Or.inl ⟨by rfl, fun V _ => ?hyp4⟩) (fun _ => hHeld) ?restp4
      case hyp4 => go_simp; try with_reducible rfl
      try simp only [Act.put, List.getElem_toArray, List.getElem_cons_zero, List.getElem_cons_succ, List.setIfInBounds_toArray, List.set_cons_zero, List.set_cons_succ]
      refine wpAnyU_pure (i := 5) (v := ?vp5) rfl (by kernel_rfl) (by kernel_rfl) (by kernel_rfl) (by kernel_rfl) (fun _ _ _ h => h) (Or.inl ⟨by rfl, fun V _ => ?hyp5⟩) (fun _ => hHeld) ?restp5
      case hyp5 => go_simp; try with_reducible rfl
      try simp only [Act.put, List.getElem_toArray, List.getElem_cons_zero, List.getElem_cons_succ, List.setIfInBounds_toArray, List.set_cons_zero, List.set_cons_succ]
      refine wpAnyU_pure (i := 8) (v := ?vp8) rfl (by kernel_rfl) (by kernel_rfl) (by kernel_rfl) (by kernel_rfl) (fun _ _ _ h => h) (Or.inl ⟨by rfl, fun V _ => ?hyp8⟩) (fun _ => hHeld) ?restp8
      case hyp8 => go_simp; try with_reducible rfl
      try simp only [Act.put, List.getElem_toArray, List.getElem_cons_zero, List.getElem_cons_succ, List.setIfInBounds_toArray, List.set_cons_zero, List.set_cons_succ]
      refine wpAnyU_load (i := 9) (v := ?vp9) rfl (by kernel_rfl) (by kernel_rfl) (by kernel_rfl) (by kernel_rfl) (fun _ _ _ h => h) (Or.inl ⟨by rfl, fun V hSw => ?hyp9⟩) hHeld ?restp9
      case hyp9 => (obtain ⟨hs1, hs2⟩ := hSw); go_simp; try with_reducible rfl
      try simp only [Act.put, List.getElem_toArray, List.getElem_cons_zero, List.getElem_cons_succ, List.setIfInBounds_toArray, List.set_cons_zero, List.set_cons_succ]
      refine wpAnyU_pure (i := 10) (v := ?vp10) rfl (by kernel_rfl) (by kernel_rfl) (by kernel_rfl) (by kernel_rfl) (fun _ _ _ h => h) (Or.inl ⟨by rfl, fun V _ => ?hyp10⟩) (fun _ => hHeld) ?restp10
      case hyp10 => go_simp; try with_reducible rfl
      try simp only [Act.put, List.getElem_toArray, List.getElem_cons_zero, List.getElem_cons_succ, List.setIfInBounds_toArray, List.set_cons_zero, List.set_cons_succ]
      refine wpAnyU_pure (i := 11) (v := ?vp11) rfl (by kernel_rfl) (by kernel_rfl) (by kernel_rfl) (by kernel_rfl) (fun _ _ _ h => h) (Or.inl ⟨by rfl, fun V _ => ?hyp11⟩) (fun _ => hHeld) ?restp11
      case hyp11 => go_simp; try with_reducible rfl
      try simp only [Act.put, List.getElem_toArray, List.getElem_cons_zero, List.getElem_cons_succ, List.setIfInBounds_toArray, List.set_cons_zero, List.set_cons_succ]
      refine wpAnyU_pure (i := 12) (v := ?vp12) rfl (by kernel_rfl) (by kernel_rfl) (by kernel_rfl) (by kernel_rfl) (fun _ _ _ h => h) (Or.inl ⟨by rfl, fun V _ => ?hyp12⟩) (fun _ => hHeld) ?restp12
      case hyp12 => go_simp; try with_reducible rfl
      try simp only [Act.put, List.getElem_toArray, List.getElem_cons_zero, List.getElem_cons_succ, List.setIfInBounds_toArray, List.set_cons_zero, List.set_cons_succ]
      refine wpAnyU_ready (rs := [6, 13]) (by kernel_rfl) (by simp) (AllU.cons (i := 6) rfl (fun K hK => ?bp6) (AllU.cons (i := 13) rfl (fun K hK => ?bp13) AllU.nil))
      case' bp6 =>
        have t1 := HT.out.below ((Below.refl wr.heap.size wr).drew.alloc (Nat.le_refl _) (.cells #[.int .i64 (x.tmod P)] 3))
        simp only [List.getElem_toArray, List.getElem_cons_zero, List.getElem_cons_succ]
        go_simp
        refine hK.out _ _ (fun _ => ?spx6) ?rpx6
        case' spx6 => exact ⟨(HBX.out.below (((Below.refl wr.heap.size wr).drew.alloc (Nat.le_refl _) (.cells #[.int .i64 (x.tmod P)] 3)).mono HSZ.out)).c0, (HBX.out.below (((Below.refl wr.heap.size wr).drew.alloc (Nat.le_refl _) (.cells #[.int .i64 (x.tmod P)] 3)).mono HSZ.out)).d0⟩
        case' rpx6 =>
          clear hK K
          try simp only [Act.put, List.getElem_toArray, List.getElem_cons_zero, List.getElem_cons_succ, List.setIfInBounds_toArray, List.set_cons_zero, List.set_cons_succ]
          refine wpAnyU_ready (rs := [7, 13]) (by kernel_rfl) (by simp) (AllU.cons (i := 7) rfl (fun K hK => ?bp67) (AllU.cons (i := 13) rfl (fun K hK => ?bp613) AllU.nil))
          case' bp67 =>
            refine step_append_ints _ (by rfl) _ _ _ (by rfl) w1.heap.size 3 i0 _ Tryd.underlying22 hi hi0 hi1 hi2 rfl (.slice A1 t c1) t ((lowL (s.take t) k).map (Value.int .i64)) (by rfl) (by exact t1.own) (some ⟨wr.heap.size, 0, none⟩) 1 1 [x.tmod P] (by rfl) (by exact ints_box wr.drew wr.heap.size rfl (x.tmod P) _) (by omega) (by exact t1.base) ?_
            intro u w2 hown hgrow hat
            obtain ⟨A1', c1', hu, hcc1⟩ := own_slice hown
            rw [hu] at hown hat ⊢
            obtain ⟨r1, ap1⟩ := own_apart t1.own' t1.apart.symm hgrow hat
            have hb7 := below_own t1.own hgrow t1.base
            have HX7 := Lib.hid (HBX.out.below (((((Below.refl wr.heap.size wr).drew.alloc (Nat.le_refl _) (.cells #[.int .i64 (x.tmod P)] 3)).mono HT.out.base).trans hb7).mono HSB.out))
            have HS2 := Lib.hid (show w1.heap.size ≤ w2.heap.size from Nat.le_trans t1.base hb7.size)
            refine hK.out _ _ (fun _ => ⟨HX7.out.c0, HX7.out.d0⟩) ?_
            clear hK K
            try simp only [Act.put, List.getElem_toArray, List.getElem_cons_zero, List.getElem_cons_succ, List.setIfInBounds_toArray, List.set_cons_zero, List.set_cons_succ]
            refine wpAnyU_pure (i := 15) (v := ?vpA15) rfl (by kernel_rfl) (by kernel_rfl) (by kernel_rfl) (by kernel_rfl) (fun _ _ _ h => h) (Or.inl ⟨by rfl, fun V _ => ?hypA15⟩) (fun _ => ⟨HX7.out.c0, HX7.out.d0⟩) ?restpA15
            case hypA15 => go_simp; try with_reducible rfl
            try simp only [Act.put, List.getElem_toArray, List.getElem_cons_zero, List.getElem_cons_succ, List.setIfInBounds_toArray, List.set_cons_zero, List.set_cons_succ]
            refine wpAnyU_ready (rs := [13]) (by kernel_rfl) (by simp) (AllU.cons (i := 13) rfl (fun K hK => ?_) AllU.nil)
            simp only [List.getElem_toArray, List.getElem_cons_zero, List.getElem_cons_succ]
            go_simp
            have HX8 := Lib.hid (HX7.out.below (((Below.refl w2.heap.size w2).alloc (Nat.le_refl _) (.cells #[.int .i64 (x / 2 ^ k)] 3)).mono HX7.out.size))
            refine hK.out _ _ (fun _ => ⟨HX8.out.c0, HX8.out.d0⟩) ?_
            clear hK K
            try simp only [Act.put, List.getElem_toArray, List.getElem_cons_zero, List.getElem_cons_succ, List.setIfInBounds_toArray, List.set_cons_zero, List.set_cons_succ]
            refine wpAnyU_ready (rs := [14]) (by kernel_rfl) (by simp) (AllU.cons (i := 14) rfl (fun K hK => ?_) AllU.nil)
            refine step_append_ints _ (by rfl) _ _ _ (by rfl) w1.heap.size 3 i0 _ Tryd.underlying22 hi hi0 hi1 hi2 rfl (.slice A2 t c2) t ((highL (s.take t) k).map (Value.int .i64)) (by rfl) (by exact own_below r1 ((Below.refl w2.heap.size w2).alloc (Nat.le_refl _) (.cells #[.int .i64 (x / 2 ^ k)] 3))) (some ⟨w2.heap.size, 0, none⟩) 1 1 [x / 2 ^ k] (by rfl) (by exact ints_box w2 w2.heap.size rfl (x / 2 ^ k) _) (by omega) (by exact Nat.le_trans HS2.out (by simp)) ?_
            intro u' w4 hown' hgrow' hat'
            obtain ⟨A2', c2', hu', hcc2⟩ := own_slice hown'
            rw [hu'] at hown' hat' ⊢
            have HG := Lib.hid (HT.out.roundA (.cells #[.int .i64 (x.tmod P)] 3) (.cells #[.int .i64 (x / 2 ^ k)] 3) hown hgrow hat hown' hgrow' hat')
            clear hu hu' hown hgrow hat hown' hgrow' hat' r1 ap1 hb7 hHeld
            have hHeld := (show w4.cell? ⟨w.heap.size + 1, 0, none⟩ = some (.slice A1 t c1) ∧ w4.cell? ⟨w.heap.size + 1 + 1, 0, none⟩ = some (.slice A2 t c2) from ⟨(HBX.out.below ((HG.out.2.mono (Nat.le_refl _)).mono HSB.out)).c0, (HBX.out.below ((HG.out.2.mono (Nat.le_refl _)).mono HSB.out)).d0⟩)
            refine hK.out _ _ (fun _ => hHeld) ?rpfa
            clear hK K
            try simp only [Act.put, List.getElem_toArray, List.getElem_cons_zero, List.getElem_cons_succ, List.setIfInBounds_toArray, List.set_cons_zero, List.set_cons_succ]
          case' bp613 =>
            simp only [List.getElem_toArray, List.getElem_cons_zero, List.getElem_cons_succ]
            go_simp
            refine hK.out _ _ (fun _ => ?spx613) ?rpx613
            case' spx613 => exact ⟨(HBX.out.below ((((Below.refl wr.heap.size wr).drew.alloc (Nat.le_refl _) (.cells #[.int .i64 (x.tmod P)] 3)).alloc (by simp) (.cells #[.int .i64 (x / 2 ^ k)] 3)).mono HSZ.out)).c0, (HBX.out.below ((((Below.refl wr.heap.size wr).drew.alloc (Nat.le_refl _) (.cells #[.int .i64 (x.tmod P)] 3)).alloc (by simp) (.cells #[.int .i64 (x / 2 ^ k)] 3)).mono HSZ.out)).d0⟩
            case' rpx613 =>
              clear hK K
              try simp only [Act.put, List.getElem_toArray, List.getElem_cons_zero, List.getElem_cons_succ, List.setIfInBounds_toArray, List.set_cons_zero, List.set_cons_succ]
              have t2 := HT.out.below (((Below.refl wr.heap.size wr).drew.alloc (Nat.le_refl _) (.cells #[.int .i64 (x.tmod P)] 3)).alloc (by simp) (.cells #[.int .i64 (x / 2 ^ k)] 3))
              refine wpAnyU_ready (rs := [7]) (by kernel_rfl) (by simp) (AllU.cons (i := 7) rfl (fun K hK => ?_) AllU.nil)
              refine step_append_ints _ (by rfl) _ _ _ (by rfl) w1.heap.size 3 i0 _ Tryd.underlying22 hi hi0 hi1 hi2 rfl (.slice A1 t c1) t ((lowL (s.take t) k).map (Value.int .i64)) (by rfl) (by exact t2.own) (some ⟨wr.heap.size, 0, none⟩) 1 1 [x.tmod P] (by rfl) (by exact (ints_box wr.drew wr.heap.size rfl (x.tmod P) _).alloc _) (by omega) (by exact t2.base) ?_
              intro u w2 hown hgrow hat
              obtain ⟨A1', c1', hu, hcc1⟩ := own_slice hown
              rw [hu] at hown hat ⊢
              obtain ⟨r1, ap1⟩ := own_apart t2.own' t2.apart.symm hgrow hat
              have hb7 := below_own t2.own hgrow t2.base
              have HX7 := Lib.hid (HBX.out.below ((((((Below.refl wr.heap.size wr).drew.alloc (Nat.le_refl _) (.cells #[.int .i64 (x.tmod P)] 3)).alloc (by simp) (.cells #[.int .i64 (x / 2 ^ k)] 3)).mono HT.out.base).trans hb7).mono HSB.out))
              have HS2 := Lib.hid (show w1.heap.size ≤ w2.heap.size from Nat.le_trans t2.base hb7.size)
              have HI14 := Lib.hid (box_grown hgrow (by simp <;> omega) (own_ne HT.out.own (by simp)) (ints_box (wr.drew.alloc (.cells #[.int .i64 (x.tmod P)] 3)) (wr.heap.size + 1) (by simp) (x / 2 ^ k) 3))
              refine hK.out _ _ (fun _ => ⟨HX7.out.c0, HX7.out.d0⟩) ?_
              clear hK K
              try simp only [Act.put, List.getElem_toArray, List.getElem_cons_zero, List.getElem_cons_succ, List.setIfInBounds_toArray, List.set_cons_zero, List.set_cons_succ]
              refine wpAnyU_pure (i := 15) (v := ?vpB15) rfl (by kernel_rfl) (by kernel_rfl) (by kernel_rfl) (by kernel_rfl) (fun _ _ _ h => h) (Or.inl ⟨by rfl, fun V _ => ?hypB15⟩) (fun _ => ⟨HX7.out.c0, HX7.out.d0⟩) ?restpB15
              case hypB15 => go_simp; try with_reducible rfl
              try simp only [Act.put, List.getElem_toArray, List.getElem_cons_zero, List.getElem_cons_succ, List.setIfInBounds_toArray, List.set_cons_zero, List.set_cons_succ]
              refine wpAnyU_ready (rs := [14]) (by kernel_rfl) (by simp) (AllU.cons (i := 14) rfl (fun K hK => ?_) AllU.nil)
              refine step_append_ints _ (by rfl) _ _ _ (by rfl) w1.heap.size 3 i0 _ Tryd.underlying22 hi hi0 hi1 hi2 rfl (.slice A2 t c2) t ((highL (s.take t) k).map (Value.int .i64)) (by rfl) (by exact r1) (some ⟨wr.heap.size + 1, 0, none⟩) 1 1 [x / 2 ^ k] (by rfl) (by exact HI14.out) (by omega) (by exact HS2.out) ?_
              intro u' w4 hown' hgrow' hat'
              obtain ⟨A2', c2', hu', hcc2⟩ := own_slice hown'
              rw [hu'] at hown' hat' ⊢
              have HG := Lib.hid (HT.out.roundB (.cells #[.int .i64 (x.tmod P)] 3) (.cells #[.int .i64 (x / 2 ^ k)] 3) hown hgrow hat hown' hgrow' hat')
              clear hu hu' hown hgrow hat hown' hgrow' hat' r1 ap1 hb7 hHeld
              have hHeld := (show w4.cell? ⟨w.heap.size + 1, 0, none⟩ = some (.slice A1 t c1) ∧ w4.cell? ⟨w.heap.size + 1 + 1, 0, none⟩ = some (.slice A2 t c2) from ⟨(HBX.out.below ((HG.out.2.mono (Nat.le_refl _)).mono HSB.out)).c0, (HBX.out.below ((HG.out.2.mono (Nat.le_refl _)).mono HSB.out)).d0⟩)
              refine hK.out _ _ (fun _ => hHeld) ?rpfB
              clear hK K
              try simp only [Act.put, List.getElem_toArray, List.getElem_cons_zero, List.getElem_cons_succ, List.setIfInBounds_toArray, List.set_cons_zero, List.set_cons_succ]
      case' bp13 =>
        simp only [List.getElem_toArray, List.getElem_cons_zero, List.getElem_cons_succ]
        go_simp
        refine hK.out _ _ (fun _ => ?spx13) ?rpx13
        case' spx13 => exact ⟨(HBX.out.below (((Below.refl wr.heap.size wr).drew.alloc (Nat.le_refl _) (.cells #[.int .i64 (x / 2 ^ k)] 3)).mono HSZ.out)).c0, (HBX.out.below (((Below.refl wr.heap.size wr).drew.alloc (Nat.le_refl _) (.cells #[.int .i64 (x / 2 ^ k)] 3)).mono HSZ.out)).d0⟩
        case' rpx13 =>
          clear hK K
          try simp only [Act.put, List.getElem_toArray, List.getElem_cons_zero, List.getElem_cons_succ, List.setIfInBounds_toArray, List.set_cons_zero, List.set_cons_succ]
          refine wpAnyU_ready (rs := [6]) (by kernel_rfl) (by simp) (AllU.cons (i := 6) rfl (fun K hK => ?_) AllU.nil)
          simp only [List.getElem_toArray, List.getElem_cons_zero, List.getElem_cons_succ]
          go_simp
          refine hK.out _ _ (fun _ => ?spx136) ?rpx136
          case' spx136 => exact ⟨(HBX.out.below ((((Below.refl wr.heap.size wr).drew.alloc (Nat.le_refl _) (.cells #[.int .i64 (x / 2 ^ k)] 3)).alloc (by simp) (.cells #[.int .i64 (x.tmod P)] 3)).mono HSZ.out)).c0, (HBX.out.below ((((Below.refl wr.heap.size wr).drew.alloc (Nat.le_refl _) (.cells #[.int .i64 (x / 2 ^ k)] 3)).alloc (by simp) (.cells #[.int .i64 (x.tmod P)] 3)).mono HSZ.out)).d0⟩
          case' rpx136 =>
            clear hK K
            try simp only [Act.put, List.getElem_toArray, List.getElem_cons_zero, List.getElem_cons_succ, List.setIfInBounds_toArray, List.set_cons_zero, List.set_cons_succ]
            have t2 := HT.out.below (((Below.refl wr.heap.size wr).drew.alloc (Nat.le_refl _) (.cells #[.int .i64 (x / 2 ^ k)] 3)).alloc (by simp) (.cells #[.int .i64 (x.tmod P)] 3))
            refine wpAnyU_ready (rs := [7]) (by kernel_rfl) (by simp) (AllU.cons (i := 7) rfl (fun K hK => ?_) AllU.nil)
            refine step_append_ints _ (by rfl) _ _ _ (by rfl) w1.heap.size 3 i0 _ Tryd.underlying22 hi hi0 hi1 hi2 rfl (.slice A1 t c1) t ((lowL (s.take t) k).map (Value.int .i64)) (by rfl) (by exact t2.own) (some ⟨wr.heap.size + 1, 0, none⟩) 1 1 [x.tmod P] (by rfl) (by exact ints_box (wr.drew.alloc (.cells #[.int .i64 (x / 2 ^ k)] 3)) (wr.heap.size + 1) (by simp) (x.tmod P) _) (by omega) (by exact t2.base) ?_
            intro u w2 hown hgrow hat
            obtain ⟨A1', c1', hu, hcc1⟩ := own_slice hown
            rw [hu] at hown hat ⊢
            obtain ⟨r1, ap1⟩ := own_apart t2.own' t2.apart.symm hgrow hat
            have hb7 := below_own t2.own hgrow t2.base
            have HX7 := Lib.hid (HBX.out.below ((((((Below.refl wr.heap.size wr).drew.alloc (Nat.le_refl _) (.cells #[.int .i64 (x / 2 ^ k)] 3)).alloc (by simp) (.cells #[.int .i64 (x.tmod P)] 3)).mono HT.out.base).trans hb7).mono HSB.out))
            have HS2 := Lib.hid (show w1.heap.size ≤ w2.heap.size from Nat.le_trans t2.base hb7.size)
            have HI14 := Lib.hid (box_grown hgrow (by simp <;> omega) (own_ne HT.out.own (by simp)) ((ints_box wr.drew wr.heap.size rfl (x / 2 ^ k) 3).alloc (.cells #[.int .i64 (x.tmod P)] 3)))
            refine hK.out _ _ (fun _ => ⟨HX7.out.c0, HX7.out.d0⟩) ?_
            clear hK K
            try simp only [Act.put, List.getElem_toArray, List.getElem_cons_zero, List.getElem_cons_succ, List.setIfInBounds_toArray, List.set_cons_zero, List.set_cons_succ]
            refine wpAnyU_pure (i := 15) (v := ?vpC15) rfl (by kernel_rfl) (by kernel_rfl) (by kernel_rfl) (by kernel_rfl) (fun _ _ _ h => h) (Or.inl ⟨by rfl, fun V _ => ?hypC15⟩) (fun _ => ⟨HX7.out.c0, HX7.out.d0⟩) ?restpC15
            case hypC15 => go_simp; try with_reducible rfl
            try simp only [Act.put, List.getElem_toArray, List.getElem_cons_zero, List.getElem_cons_succ, List.setIfInBounds_toArray, List.set_cons_zero, List.set_cons_succ]
            refine wpAnyU_ready (rs := [14]) (by kernel_rfl) (by simp) (AllU.cons (i := 14) rfl (fun K hK => ?_) AllU.nil)
            refine step_append_ints _ (by rfl) _ _ _ (by rfl) w1.heap.size 3 i0 _ Tryd.underlying22 hi hi0 hi1 hi2 rfl (.slice A2 t c2) t ((highL (s.take t) k).map (Value.int .i64)) (by rfl) (by exact r1) (some ⟨wr.heap.size, 0, none⟩) 1 1 [x / 2 ^ k] (by rfl) (by exact HI14.out) (by omega) (by exact HS2.out) ?_
            intro u' w4 hown' hgrow' hat'
            obtain ⟨A2', c2', hu', hcc2⟩ := own_slice hown'
            rw [hu'] at hown' hat' ⊢
            have HG := Lib.hid (HT.out.roundB (.cells #[.int .i64 (x / 2 ^ k)] 3) (.cells #[.int .i64 (x.tmod P)] 3) hown hgrow hat hown' hgrow' hat')
            clear hu hu' hown hgrow hat hown' hgrow' hat' r1 ap1 hb7 hHeld
            have hHeld := (show w4.cell? ⟨w.heap.size + 1, 0, none⟩ = some (.slice A1 t c1) ∧ w4.cell? ⟨w.heap.size + 1 + 1, 0, none⟩ = some (.slice A2 t c2) from ⟨(HBX.out.below ((HG.out.2.mono (Nat.le_refl _)).mono HSB.out)).c0, (HBX.out.below ((HG.out.2.mono (Nat.le_refl _)).mono HSB.out)).d0⟩)
            refine hK.out _ _ (fun _ => hHeld) ?rpfC
            clear hK K
            try simp only [Act.put, List.getElem_toArray, List.getElem_cons_zero, List.getElem_cons_succ, List.setIfInBounds_toArray, List.set_cons_zero, List.set_cons_succ]
      all_goals
        refine wpAnyU_ready (rs := [16]) (by kernel_rfl) (by simp) (AllU.cons (i := 16) rfl (fun K hK => ?_) AllU.nil)
        simp only [List.getElem_toArray, List.getElem_cons_zero, List.getElem_cons_succ]
        have HX4 := Lib.hid (HBX.out.below (HG.out.2.mono HSB.out))
        have hzz := HX4.out.size
        have e0 := HX4.out.c0
        have e1 := HX4.out.d0
        have e2 := HX4.out.f0
        have e3 := HX4.out.g0
        go_simp
        refine hK.out _ _ (fun h => by have h2 : false = true := h; cases h2) ?_
        clear hK K
        try simp only [Act.put, List.getElem_toArray, List.getElem_cons_zero, List.getElem_cons_succ, List.setIfInBounds_toArray, List.set_cons_zero, List.set_cons_succ]
        refine wpAnyU_pure (i := 17) (v := .pointer (some ⟨w.heap.size + 1 + 1, 0, none⟩)) rfl (by kernel_rfl) (by kernel_rfl) (by kernel_rfl) (by kernel_rfl) (fun _ _ _ h => h) (Or.inl ⟨by rfl, fun V _ => by (go_simp; try with_reducible rfl)⟩) (fun h => by have h2 : false = true := h; cases h2) ?_
        try simp only [Act.put, List.getElem_toArray, List.getElem_cons_zero, List.getElem_cons_succ, List.setIfInBounds_toArray, List.set_cons_zero, List.set_cons_succ]
        refine wpAnyU_ready (rs := [18]) (by kernel_rfl) (by simp) (AllU.cons (i := 18) rfl (fun K hK => ?_) AllU.nil)
        simp only [List.getElem_toArray, List.getElem_cons_zero, List.getElem_cons_succ]
        go_simp
        refine hK.out _ _ (fun h => by have h2 : false = true := h; cases h2) ?_
        clear hK K
        try simp only [Act.put, List.getElem_toArray, List.getElem_cons_zero, List.getElem_cons_succ, List.setIfInBounds_toArray, List.set_cons_zero, List.set_cons_succ]
        refine wpAnyU_done (by kernel_rfl) ?_ _
        clear e0 e1 e2 e3 hHeld hq0 hq1 hu0 hu1 hq2 hq3 hu2 hu3
        go_wp2_with fail
        go_roundg g
        case measure => omega
        case rel =>
          have HLO := low_snoc (s := s) (k := k) (t := t) (x := x) (P := P) (by have := HX.out; omega) HXE.out hx0 HP.out
          have HHI := high_snoc (s := s) (k := k) (t := t) (x := x) (by have := HX.out; omega) HXE.out
          refine ⟨t + 1, c1', c2', A1', A2', by omega, by go_num, ?_, HX4.out.set0 _ _, ?_⟩
          · rw [← HLO, ← HHI]
            exact ((HG.out.1.setCell (by show w.heap.size + 1 < w1.heap.size; omega) _).setCell (by show w.heap.size + 1 + 1 < w1.heap.size; omega) _)
          · exact ((hbx.trans (HG.out.2.mono (by omega))).setCell (by simp) _).setCell (by simp) _

end Go.Proofs.YteidikkeoaolgaaDoor.Wd
