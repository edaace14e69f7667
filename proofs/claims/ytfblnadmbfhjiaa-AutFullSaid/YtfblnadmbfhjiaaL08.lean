/-
  AutFull of layer 5, within the ranges.
-/
import Derived.Test.YtfblnadmbfhjiaaL07
namespace Go.Proofs.Ytfblnadmbfhjiaa.Wd
open Go.RowKit Go.Maps
set_option linter.unusedVariables false
set_option linter.unusedSimpArgs false

/-- The law's count of missing edges: it may wrap around where gap is huge. -/
theorem missing_of {S G : Nat} (h1 : 1 ≤ S) (h2 : S ≤ 3000) (h3 : 1 ≤ G) (h4 : G < 9223372036854775808) :
    ∃ X1 X2 MS : Int, IntKind.i64.wrap ((S : Int) + (G : Int)) = X1 ∧ IntKind.i64.wrap (X1 - 1) = X2 ∧ X2.tdiv (G : Int) = MS ∧ (MS = (((S + G - 1) / G : Nat) : Int) ∨ ((S + G - 1) / G = 1 ∧ -1 ≤ MS ∧ MS ≤ 0)) ∧ -1 ≤ MS ∧ MS ≤ 3000 := by
  have hR : (S + G - 1) / G ≤ 3000 := by
    refine Nat.div_le_of_le_mul ?_
    have : G * 3000 = 2999 * G + G := by omega
    have h5 : 2999 ≤ 2999 * G := Nat.le_mul_of_pos_right _ h3
    omega
  refine ⟨_, _, _, rfl, rfl, rfl, ?_⟩
  by_cases hb : S + G - 1 < 9223372036854775808
  · have e : IntKind.i64.wrap (IntKind.i64.wrap ((S : Int) + (G : Int)) - 1) = ((S + G - 1 : Nat) : Int) := by
      rw [IntKind.wrap_i64, IntKind.wrap_i64]; omega
    rw [e, ← Int.ofNat_tdiv]
    obtain ⟨R, hRR⟩ : ∃ R, (S + G - 1) / G = R := ⟨_, rfl⟩
    rw [hRR] at hR ⊢
    exact ⟨.inl rfl, by omega, by omega⟩
  · obtain ⟨a, ha⟩ : ∃ a, 18446744073709551616 - (S + G - 1) = a := ⟨_, rfl⟩
    have e : IntKind.i64.wrap (IntKind.i64.wrap ((S : Int) + (G : Int)) - 1) = -((a : Nat) : Int) := by
      rw [IntKind.wrap_i64, IntKind.wrap_i64]; omega
    have h6 : a / G ≤ 1 := by
      have : a / G < 2 := Nat.div_lt_of_lt_mul (by omega)
      omega
    have h7 : (S + G - 1) / G = 1 := Nat.div_eq_of_lt_le (by omega) (by omega)
    rw [e, Int.neg_tdiv, ← Int.ofNat_tdiv]
    obtain ⟨Q, hQ⟩ : ∃ Q, a / G = Q := ⟨_, rfl⟩
    rw [hQ] at h6 ⊢
    exact ⟨.inr ⟨h7, by omega, by omega⟩, by omega, by omega⟩

set_option maxRecDepth 100000 in
set_option maxHeartbeats 8000000 in
theorem full_in (p S G : Nat) (K M : Int) (w : World) (h0 : 0 ≤ K) (h5 : K ≤ 5) (hm : marksB K M = true) (hp : p ≤ 6) (hS1 : 1 ≤ S) (hS3 : S ≤ 3000) (hG1 : 1 ≤ G) (hG2 : G < 9223372036854775808) :
    Calls Try.prog 7 #[.int .i64 K, .int .i64 M, .int .i64 p, .int .i64 S, .int .i64 G] w fun e w' => e = .returned (.bool true) ∧ Below w.heap.size w w' := by
  have HAW := Lib.hid (fun W => awake5_any W)
  have HM := Lib.hid (fun W => (refMarks_any K M W h0 h5).mono (fun e w' h => (by rw [hm] at h; exact h : e = .returned (.bool true) ∧ W = w')))
  have HWI := Lib.hid (fun W => wide_any p S G K M W hp hS3 hG1 hG2)
  obtain ⟨X1, X2, MS, hx1, hx2, hx3, hx4, hx5, hx6⟩ := missing_of hS1 hS3 hG1 hG2
  have HX4 := Lib.hid hx4
  obtain ⟨N, hN, HN⟩ : ∃ N : Nat, IntKind.i64.wrap ((2 : Int) ^ p) = (N : Int) ∧ Hid (2 ^ p = N) := ⟨2 ^ p, (pow_six hp).1, rfl⟩
  have hN64 : (N : Int) ≤ 64 := by have := (pow_six hp).2; rw [HN.out] at this; omega
  have hN0 : (1 : Int) ≤ (N : Int) := by have := Nat.two_pow_pos p; rw [HN.out] at this; omega
  have HG2 := Lib.hid hG2
  have hG0 : ((G : Int) == 0) = false := by simp; omega
  have hp0 : (0 : Int) ≤ (p : Int) := by omega
  have hp6 : (p : Int) ≤ 6 := by omega
  have hs1 : (1 : Int) ≤ (S : Int) := by omega
  have hs3 : (S : Int) ≤ 3000 := by omega
  have hg1 : (1 : Int) ≤ (G : Int) := by omega
  have HR := Lib.hid (marksB_few hm)
  have HMB := Lib.hid hm
  clear hx4 hG2 hm
  go_enter Try.func7, Try.ntmps7
  go_wp2_with fail
  refine (HM.out _).mono ?_
  rintro x w0 ⟨rfl, rfl⟩
  go_wp2_with fail
  refine (HWI.out _).mono ?_
  rintro x w1 ⟨A2, m, c2, rfl, hI, hE, hb1⟩
  have HI := Lib.hid hI
  have HE := Lib.hid hE
  have HB1 := Lib.hid hb1
  have HLM := Lib.hid hE.1
  clear hI hE hb1
  by_cases hbig : 40000 < m
  · have hbi : (40000 : Int) < (m : Int) := by omega
    clear hbig
    go_wp2_with fail
    refine (HAW.out _).mono ?_
    rintro x w9 ⟨rfl, hb9⟩
    have HB9 := Lib.hid ((HB1.out.alloc HB1.out.size _).trans (hb9.mono (by have := HB1.out.size; simp; omega)))
    clear hb9
    go_wp2_with fail
    go_ret
    exact ⟨rfl, HB9.out⟩
  · have hbi : (m : Int) ≤ 40000 := by omega
    have hmn : m ≤ 40000 := by omega
    have HFI := Lib.hid (fun W (hW : Below w1.heap.size w1 W) => fill_lack p S K M (some ⟨w.heap.size + 1, 0, none⟩) A2 1 m c2 [0] (wideL ((2 : Int) ^ p - 1) (2 ^ p) G S) W hp hS3 h0 h5 HR.out.1 HR.out.2 (HI.out.below hW) (HE.out.below hW) hmn
      (wide_valid hp hS1 hS3 h0 h5 HMB.out (by rw [HLM.out]; exact hmn)) (by have h := wide_clash (G := G) (S := S) hp; rw [HLM.out] at h; exact h) (wide_full hp hS1) (by have h := wide_from (c := (2 : Int) ^ p - 1) (N := 2 ^ p) (G := G) (S := S); rw [HLM.out] at h; exact h))
    clear hbig
    go_wp2_with fail
    refine (HFI.out _ ((Below.refl _ _).alloc (Nat.le_refl _) _)).mono ?_
    rintro x w2 hres
    rw [fill_wide hp, full_len hG1, HLM.out] at hres
    obtain ⟨R, hR⟩ : ∃ R, (S + G - 1) / G = R := ⟨_, rfl⟩
    have HX5 := Lib.hid (show MS = (R : Int) ∨ (R = 1 ∧ -1 ≤ MS ∧ MS ≤ 0) by have := HX4.out; rw [hR] at this; exact this)
    rw [hR] at hres
    have hml : m ≤ S * N := by rw [← HLM.out, ← HN.out]; exact wideL_len _ _ _ _
    have hml2 : S * N ≤ 3000 * N := Nat.mul_le_mul_right _ hS3
    have hwa : IntKind.i64.wrap ((m : Int) + MS) = (m : Int) + MS := IntWalk.i64_in _ (by omega)
    have hwb : IntKind.i64.wrap ((m : Int) + MS + (N : Int)) = (m : Int) + MS + (N : Int) := IntWalk.i64_in _ (by omega)
    have HML := Lib.hid (show m ≤ 3000 * N by omega)
    have HWS := Lib.hid (⟨hwa, hwb⟩ : _ ∧ _)
    have HRE := Lib.hid hR
    clear hR hml hml2 hwa hwb
    rcases hres with ⟨hc, rfl, hb2⟩ | ⟨hc1, hc2, ⟨A1, n1, c1, A3, c3, rfl, hI2, hE2⟩, hb2⟩
    · have HQ2 := Lib.hid (show w2.cell? ⟨w1.heap.size, 5, none⟩ = some (.slice A2 m c2) from (hb2.cell (p := ⟨w1.heap.size, 5, none⟩) (by simp)).trans (box_last w1 _ _ 5))
      have HB2 := Lib.hid ((HB1.out.alloc HB1.out.size (.cells #[.int .i64 p, .int .i64 S, .slice (some ⟨w.heap.size + 1, 0, none⟩) 1 1, .int .i64 K, .int .i64 M, .slice A2 m c2] 25)).trans (hb2.mono (by have := HB1.out.size; simp; omega)))
      have hz2 : w1.heap.size < w2.heap.size := by have := hb2.size; simp at this; omega
      have q5 := HQ2.out
      clear hb2
      have HB3 := Lib.hid (HB2.out.alloc HB2.out.size (.cells #[.int .i64 0, .int .i64 0, .slice none 0 0, .int .i64 0, .int .i64 0, .slice none 0 0] 25))
      unfold zeroA
      by_cases hS : S = 3000
      · have hSI : (S : Int) = 3000 := by omega
        clear hc
        go_wp2_with fail
        refine (HAW.out _).mono ?_
        rintro x w9 ⟨rfl, hb9⟩
        have HB9 := Lib.hid (HB3.out.trans (hb9.mono HB3.out.size))
        clear hb9
        go_wp2_with fail
        go_ret
        exact ⟨rfl, HB9.out⟩
      · have hSI : ((S : Int) == 3000) = false := by simp; omega
        have hc' : 40000 < m + R + 1 := by omega
        by_cases hq : 40000 < (m : Int) + MS + 1
        · clear hc hc' hS
          go_wp2_with fail
          refine (HAW.out _).mono ?_
          rintro x w9 ⟨rfl, hb9⟩
          have HB9 := Lib.hid (HB3.out.trans (hb9.mono HB3.out.size))
          clear hb9
          go_wp2_with fail
          go_ret
          exact ⟨rfl, HB9.out⟩
        · have hq2 : (m : Int) + MS + 1 ≤ 40000 := by omega
          have hd : 40000 < (m : Int) + MS + (N : Int) := by
            have h1 := HX5.out
            have h2 := HML.out
            rcases h1 with h1 | ⟨h1, h3, h4⟩ <;> omega
          clear hq hc hc' hS
          go_wp2_with fail
          have hdt : decide (40000 < (m : Int) + MS + (N : Int)) = true := decide_eq_true hd
          have hwa := HWS.out.1
          have hwb := HWS.out.2
          go_quiet (fail)
          clear hdt hwa hwb
          go_wp2_with fail
          refine (HAW.out _).mono ?_
          rintro x w9 ⟨rfl, hb9⟩
          have HB9 := Lib.hid ((below_drewN HB3.out _).trans (hb9.mono (below_drewN HB3.out _).size))
          clear hb9
          go_wp2_with fail
          go_ret
          exact ⟨rfl, HB9.out⟩
    · have HQ2 := Lib.hid (show w2.cell? ⟨w1.heap.size, 5, none⟩ = some (.slice A2 m c2) from (hb2.cell (p := ⟨w1.heap.size, 5, none⟩) (by simp)).trans (box_last w1 _ _ 5))
      have HB2 := Lib.hid ((HB1.out.alloc HB1.out.size (.cells #[.int .i64 p, .int .i64 S, .slice (some ⟨w.heap.size + 1, 0, none⟩) 1 1, .int .i64 K, .int .i64 M, .slice A2 m c2] 25)).trans (hb2.mono (by have := HB1.out.size; simp; omega)))
      have hz2 : w1.heap.size < w2.heap.size := by have := hb2.size; simp at this; omega
      have q5 := HQ2.out
      clear hb2
      have HB3 := Lib.hid (HB2.out.alloc HB2.out.size (.cells #[.int .i64 p, .int .i64 ((S : Int) + 1), .slice A1 n1 c1, .int .i64 K, .int .i64 (M + addF K M), .slice A3 (m + R + 1) c3] 25))
      have hlen : (fullL p S G K M).length = m + R + 1 := by rw [full_len hG1, HLM.out, HRE.out]
      have HFV := Lib.hid (full_valid hp hS1 hc1 h0 h5 HMB.out (by rw [hlen]; exact hc2))
      have HRV := Lib.hid (show ∀ W, Below w2.heap.size w2 W → Calls Try.prog 19 #[.agg #[.int .i64 p, .int .i64 ((S : Int) + 1), .slice A1 n1 c1, .int .i64 K, .int .i64 (M + addF K M), .slice A3 (m + R + 1) c3]] W fun e w' => e = .returned (.bool true) ∧ Below W.heap.size W w' from fun W hW => by
        have h := refValid_ok p ((S : Int) + 1) K (M + addF K M) A1 A3 n1 c1 (m + R + 1) c3 [0] (fullL p S G K M) W (hI2.below hW) (by have := hI2.1; simp at this; omega) (hE2.below hW) (by omega)
        rw [HFV.out] at h
        exact h)
      have HRW := Lib.hid (show ∀ W, Below w2.heap.size w2 W → Calls Try.prog 30 #[.agg #[.int .i64 p, .int .i64 ((S : Int) + 1), .slice A1 n1 c1, .int .i64 K, .int .i64 (M + addF K M), .slice A3 (m + R + 1) c3]] W fun e w' => e = .returned (.bool true) ∧ Below W.heap.size W w' from fun W hW => by
        have h := refWhole_any p (S + 1) K (M + addF K M) A1 A3 n1 c1 (m + R + 1) c3 (fullL p S G K M) W (hE2.below hW) hc2 hp (by omega) (fun j hj => by
          rcases full_mem.1 (getD_mem (show j < (fullL p S G K M).length by omega)) with ⟨s, l, h1, _, _, e⟩ | ⟨s, h1, _, e⟩ | e
          · exact ⟨s, by rw [e], by omega⟩
          · exact ⟨s, by rw [e], by omega⟩
          · exact ⟨S, by rw [e], by omega⟩)
        rw [full_whole hp, show ((S + 1 : Nat) : Int) = (S : Int) + 1 by omega] at h
        exact h)
      have hSI : ((S : Int) == 3000) = false := by simp; omega
      have hq2 : (m : Int) + MS + 1 ≤ 40000 := by
        have h1 := HX5.out
        rcases h1 with h1 | ⟨h1, h3, h4⟩ <;> omega
      have HBN := Lib.hid (show Below w2.heap.size w2 (w2.alloc (.cells #[.int .i64 p, .int .i64 ((S : Int) + 1), .slice A1 n1 c1, .int .i64 K, .int .i64 (M + addF K M), .slice A3 (m + R + 1) c3] 25)) from (Below.refl _ _).alloc (Nat.le_refl _) _)
      clear hc1 hc2 hI2 hE2 hlen
      by_cases hd : 40000 < (m : Int) + MS + (N : Int)
      · go_wp2_with fail
        have hdt : decide (40000 < (m : Int) + MS + (N : Int)) = true := decide_eq_true hd
        have hwa := HWS.out.1
        have hwb := HWS.out.2
        go_quiet (fail)
        clear hdt hwa hwb
        go_wp2_with fail
        refine (HRV.out _ (below_drewN HBN.out _)).mono ?_
        rintro x w4 ⟨rfl, hb4⟩
        have HB4 := Lib.hid (show Below w2.heap.size w2 w4 from (below_drewN HBN.out _).trans (hb4.mono (below_drewN HBN.out _).size))
        have hbc := fun i => (hb4.cell (p := ⟨w2.heap.size, i, none⟩) (by simp)).trans (show World.cell? (World.drewN (w2.alloc (.cells #[.int .i64 p, .int .i64 ((S : Int) + 1), .slice A1 n1 c1, .int .i64 K, .int .i64 (M + addF K M), .slice A3 (m + R + 1) c3] 25)) _) ⟨w2.heap.size, i, none⟩ = #[.int .i64 p, .int .i64 ((S : Int) + 1), .slice A1 n1 c1, .int .i64 K, .int .i64 (M + addF K M), .slice A3 (m + R + 1) c3][i]? from box_last w2 _ _ i)
        have b0 := hbc 0
        have b1 := hbc 1
        have b2 := hbc 2
        have b3 := hbc 3
        have b4 := hbc 4
        have b5 := hbc 5
        have hz4 : w2.heap.size < w4.heap.size := by have := hb4.size; simp at this; omega
        have HBC := Lib.hid hbc
        simp only [List.getElem?_toArray, List.getElem?_cons_zero, List.getElem?_cons_succ] at b0 b1 b2 b3 b4 b5
        clear hbc hb4
        go_wp2_with fail
        refine (HRW.out _ HB4.out).mono ?_
        rintro x w5 ⟨rfl, hb5⟩
        have HB5 := Lib.hid (show Below w2.heap.size w2 w5 from HB4.out.trans (hb5.mono HB4.out.size))
        clear hb5
        go_wp2_with fail
        refine (HAW.out _).mono ?_
        rintro x w9 ⟨rfl, hb9⟩
        have HB9 := Lib.hid ((HB2.out.trans (HB5.out.mono HB2.out.size)).trans (hb9.mono (Nat.le_trans HB2.out.size HB5.out.size)))
        clear hb9
        go_wp2_with fail
        go_ret
        exact ⟨rfl, HB9.out⟩
      · have hdf : decide (40000 < (m : Int) + MS + (N : Int)) = false := decide_eq_false hd
        clear hd
        go_wp2_with fail
        have hwa := HWS.out.1
        have hwb := HWS.out.2
        go_quiet (fail)
        clear hdf hwa hwb
        go_wp2_with fail
        refine (HRV.out _ (below_drewN HBN.out _)).mono ?_
        rintro x w4 ⟨rfl, hb4⟩
        have HB4 := Lib.hid (show Below w2.heap.size w2 w4 from (below_drewN HBN.out _).trans (hb4.mono (below_drewN HBN.out _).size))
        have hbc := fun i => (hb4.cell (p := ⟨w2.heap.size, i, none⟩) (by simp)).trans (show World.cell? (World.drewN (w2.alloc (.cells #[.int .i64 p, .int .i64 ((S : Int) + 1), .slice A1 n1 c1, .int .i64 K, .int .i64 (M + addF K M), .slice A3 (m + R + 1) c3] 25)) _) ⟨w2.heap.size, i, none⟩ = #[.int .i64 p, .int .i64 ((S : Int) + 1), .slice A1 n1 c1, .int .i64 K, .int .i64 (M + addF K M), .slice A3 (m + R + 1) c3][i]? from box_last w2 _ _ i)
        have b0 := hbc 0
        have b1 := hbc 1
        have b2 := hbc 2
        have b3 := hbc 3
        have b4 := hbc 4
        have b5 := hbc 5
        have hz4 : w2.heap.size < w4.heap.size := by have := hb4.size; simp at this; omega
        have HBC := Lib.hid hbc
        simp only [List.getElem?_toArray, List.getElem?_cons_zero, List.getElem?_cons_succ] at b0 b1 b2 b3 b4 b5
        clear hbc hb4
        go_wp2_with fail
        refine (HRW.out _ HB4.out).mono ?_
        rintro x w5 ⟨rfl, hb5⟩
        have HB5 := Lib.hid (show Below w2.heap.size w2 w5 from HB4.out.trans (hb5.mono HB4.out.size))
        clear hb5
        go_wp2_with fail
        refine (HAW.out _).mono ?_
        rintro x w9 ⟨rfl, hb9⟩
        have HB9 := Lib.hid ((HB2.out.trans (HB5.out.mono HB2.out.size)).trans (hb9.mono (Nat.le_trans HB2.out.size HB5.out.size)))
        clear hb9
        go_wp2_with fail
        go_ret
        exact ⟨rfl, HB9.out⟩

theorem full_law (K M P S G : Int) (w : World) (hG : G < 9223372036854775808) :
    Calls Try.prog 7 #[.int .i64 K, .int .i64 M, .int .i64 P, .int .i64 S, .int .i64 G] w fun e w' => e = .returned (.bool true) ∧ Below w.heap.size w w' := by
  by_cases hK : 0 ≤ K ∧ K ≤ 5
  · cases hm : marksB K M
    · exact full_out K M P S G w (.inr (.inr (.inl ⟨hK, hm⟩)))
    · by_cases hP : 0 ≤ P
      · by_cases hP6 : P ≤ 6
        · by_cases hS : 1 ≤ S
          · by_cases hS3 : S ≤ 3000
            · by_cases hG1 : 1 ≤ G
              · obtain ⟨p, rfl⟩ := Int.eq_ofNat_of_zero_le hP
                obtain ⟨s, rfl⟩ := Int.eq_ofNat_of_zero_le (show 0 ≤ S by omega)
                obtain ⟨g, rfl⟩ := Int.eq_ofNat_of_zero_le (show 0 ≤ G by omega)
                exact full_in p s g K M w hK.1 hK.2 hm (by omega) (by omega) (by omega) (by omega) (by omega)
              · exact full_out K M P S G w (.inr (.inr (.inr (.inr (.inr (.inr (.inr ⟨hK, hm, ⟨hP, hP6⟩, ⟨hS, hS3⟩, by omega⟩)))))))
            · exact full_out K M P S G w (.inr (.inr (.inr (.inr (.inr (.inr (.inl ⟨hK, hm, ⟨hP, hP6⟩, hS, by omega⟩)))))))
          · exact full_out K M P S G w (.inr (.inr (.inr (.inr (.inr (.inl ⟨hK, hm, ⟨hP, hP6⟩, by omega⟩))))))
        · exact full_out K M P S G w (.inr (.inr (.inr (.inr (.inl ⟨hK, hm, hP, by omega⟩)))))
      · exact full_out K M P S G w (.inr (.inr (.inr (.inl ⟨hK, hm, by omega⟩))))
  · by_cases h0 : K < 0
    · exact full_out K M P S G w (.inl h0)
    · exact full_out K M P S G w (.inr (.inl (by omega)))

end Go.Proofs.Ytfblnadmbfhjiaa.Wd
