/-
  GameFacts: Valid, Attract and Play against the reference, and the example.
-/
import Derived.Test.YtffdbncjndnnaaaGaAwake
import Derived.Test.YtffdbncjndnnaaaGaParts
import Derived.Test.YtffdbncjndnnaaaGaAttrE
import Derived.Test.YtffdbncjndnnaaaGaRefPlayE
import Derived.Deep.RegionHeld3
namespace Go.Proofs.Ytffdbncjndnnaaa.Wd
open Go.RowKit
set_option linter.unusedVariables false
set_option linter.unusedSimpArgs false

theorem gfew_len {s t : Nat} {G : Gm} (h : gfewB s t G = true) : G.X.length ≤ s := by
  unfold gfewB at h
  simp only [Bool.and_eq_true, decide_eq_true_eq] at h
  omega

set_option maxRecDepth 100000 in
set_option maxHeartbeats 16000000 in
theorem facts_law12 (a p x A C : Option Addr) (n c m d k e nt ct na ca : Nat) (G : Gm) (T : Nat → Bool) (ch : List Int) (q f : Int) (w : World) (h : GameIn w a n p m x k G) (hT : BoolsIn w A nt T) (hC : Ints w C na ch)
    (hn : n ≤ 17592186044416) (hm : m ≤ 17592186044416) (hk : k ≤ 17592186044416) (hnt : nt ≤ 140737488355328) (hna : na ≤ 17592186044416) (hl : ∀ v, (G.X.getD v []).length ≤ 17592186044416) :
    Calls Try.prog 3 #[.agg #[.slice a n c, .slice p m d, .slice x k e], .int .i64 q, .slice A nt ct, .slice C na ca, .int .i64 f] w fun r w' => r = .returned (.bool true) ∧ Below w.heap.size w w' := by
  obtain ⟨W0, hW0⟩ : ∃ W0, w.alloc (.cells #[.slice a n c, .slice p m d, .slice x k e] 25) = W0 := ⟨_, rfl⟩
  have HBW := Lib.hid (show Below w.heap.size w W0 by rw [← hW0]; exact (Below.refl _ _).alloc (Nat.le_refl _) _)
  have hbx0 : Bx3 W0 w.heap.size (.slice a n c) (.slice p m d) (.slice x k e) := by rw [← hW0]; exact Bx3.new _ _ _ _ _
  have HX0 := Lib.hid hbx0
  obtain ⟨hlt0, q0, q1, q2⟩ := hbx0
  have HFW := Lib.hid (gfew_any 200 1000 a p x n c m d k e G W0 (h.below HBW.out) (by omega) (by omega) hn hm hk hl)
  have HAT := Lib.hid (fun (hsm : gmB G = true → G.X.length ≤ 1000) W (hW : Below W0.heap.size W0 W) => attract_any a p x A n c m d k e nt ct G q T W ((h.below HBW.out).below hW) ((hT.below HBW.out).below hW) hk hnt hl hsm)
  have HRA := Lib.hid (fun W (hW : Below W0.heap.size W0 W) => refAttract_any a p x A n c m d k e nt ct G q T W ((h.below HBW.out).below hW) ((hT.below HBW.out).below hW) hn hk hnt hl)
  have HPL := Lib.hid (fun W (hW : Below W0.heap.size W0 W) => play_any a p x C n c m d k e na ca G ch f W ((h.below HBW.out).below hW) ((hC.below HBW.out).below hW) hk hna hl)
  have HRP := Lib.hid (fun W (hW : Below W0.heap.size W0 W) => refPlay_any a p x C n c m d k e na ca G ch f W ((h.below HBW.out).below hW) ((hC.below HBW.out).below hW) hn hk hna hl)
  have HVA := Lib.hid (fun W (hW : Below W0.heap.size W0 W) => valid_any a p x n c m d k e G W ((h.below HBW.out).below hW) hk hl)
  have HRV := Lib.hid (fun W (hW : Below W0.heap.size W0 W) => refValidG_any a p x n c m d k e G W ((h.below HBW.out).below hW) hn hk hl)
  have hnt0 : (0 : Int) ≤ (nt : Int) := by omega
  have hna0 : (0 : Int) ≤ (na : Int) := by omega
  have hxl := h.x.1
  clear h hT hC hl
  have small : (gfewB 200 1000 G = false ∨ 400 < nt ∨ 400 < na) → Calls Try.prog 3 #[.agg #[.slice a n c, .slice p m d, .slice x k e], .int .i64 q, .slice A nt ct, .slice C na ca, .int .i64 f] w fun r w' => r = .returned (.bool true) ∧ Below w.heap.size w w' := fun hs => by
    have HS := Lib.hid hs
    clear hs
    generalize gfewB 200 1000 G = fb at *
    cases fb
    · go_enter Try.func3, Try.ntmps3
      go_wp2_with fail
      clear hW0
      refine HFW.out.mono ?_
      rintro r1 w1 ⟨rfl, hb1⟩
      have HB1 := Lib.hid (HBW.out.trans (hb1.mono HBW.out.size))
      clear hb1
      go_wp2_with fail
      refine (awakeG_any _).mono ?_
      rintro r2 w2 ⟨rfl, hb2⟩
      have HB2 := Lib.hid (HB1.out.trans (hb2.mono HB1.out.size))
      clear hb2
      go_wp2_with fail
      go_ret
      exact ⟨rfl, HB2.out⟩
    · by_cases h4 : 400 < nt
      · have h4' : (400 : Int) < (nt : Int) := by omega
        go_enter Try.func3, Try.ntmps3
        go_wp2_with fail
        clear hW0
        refine HFW.out.mono ?_
        rintro r1 w1 ⟨rfl, hb1⟩
        have HB1 := Lib.hid (HBW.out.trans (hb1.mono HBW.out.size))
        clear hb1
        go_wp2_with fail
        refine (awakeG_any _).mono ?_
        rintro r2 w2 ⟨rfl, hb2⟩
        have HB2 := Lib.hid (HB1.out.trans (hb2.mono HB1.out.size))
        clear hb2
        go_wp2_with fail
        go_ret
        exact ⟨rfl, HB2.out⟩
      · have h5 : 400 < na := by
          rcases HS.out with h | h | h
          · cases h
          · exact absurd h h4
          · exact h
        have h4' : ¬ (400 : Int) < (nt : Int) := by omega
        have h5' : (400 : Int) < (na : Int) := by omega
        go_enter Try.func3, Try.ntmps3
        go_wp2_with fail
        clear hW0
        refine HFW.out.mono ?_
        rintro r1 w1 ⟨rfl, hb1⟩
        have HB1 := Lib.hid (HBW.out.trans (hb1.mono HBW.out.size))
        clear hb1
        go_wp2_with fail
        refine (awakeG_any _).mono ?_
        rintro r2 w2 ⟨rfl, hb2⟩
        have HB2 := Lib.hid (HB1.out.trans (hb2.mono HB1.out.size))
        clear hb2
        go_wp2_with fail
        go_ret
        exact ⟨rfl, HB2.out⟩
  cases hfb : gfewB 200 1000 G
  · exact small (.inl hfb)
  by_cases h4 : 400 < nt
  · exact small (.inr (.inl h4))
  by_cases h5 : 400 < na
  · exact small (.inr (.inr h5))
  clear small
  have hsm : G.X.length ≤ 200 := gfew_len hfb
  have HSM := Lib.hid (show gmB G = true → G.X.length ≤ 1000 from fun _ => by omega)
  rw [hfb] at HFW
  have h4' : ¬ (400 : Int) < (nt : Int) := by omega
  have h5' : ¬ (400 : Int) < (na : Int) := by omega
  clear hfb
  go_enter Try.func3, Try.ntmps3
  go_wp2_with fail
  clear hW0
  refine HFW.out.mono ?_
  rintro r1 w1 ⟨rfl, hb1⟩
  have HB1 := Lib.hid hb1
  obtain ⟨_, q0', q1', q2'⟩ := HX0.out.below hb1
  clear hb1 q0 q1 q2 hlt0
  go_wp2_with fail
  refine (HAT.out HSM.out _ HB1.out).mono ?_
  rintro r2 w2 ⟨A1, i1, c1, A2, i2, c2, S1, C1, rfl, hi1, hi2, hl1, hl2, ho, hb⟩
  have HI1 := Lib.hid hi1
  have HI2 := Lib.hid hi2
  have HO1 := Lib.hid ho
  have HS2 := Lib.hid hb
  have HB2 := Lib.hid (HB1.out.trans (hb.mono HB1.out.size))
  obtain ⟨_, q0', q1', q2'⟩ := HX0.out.below HB2.out
  clear hi1 hi2 ho hb
  go_wp2_with fail
  refine (HRA.out _ HB2.out).mono ?_
  rintro r3 w3 ⟨B1, j1, d1, B2, j2, d2, S2, C2, rfl, hi1, hi2, hm1, hm2, ho, hb⟩
  obtain ⟨rfl, rfl⟩ := HO1.out.unique ho
  have HJ1 := Lib.hid hi1
  have HJ2 := Lib.hid hi2
  have HS3 := Lib.hid hb
  have HB3 := Lib.hid (HB2.out.trans (hb.mono HB2.out.size))
  obtain ⟨_, q0', q1', q2'⟩ := HX0.out.below HB3.out
  clear hi1 hi2 ho hb
  go_wp2_with fail
  refine (HPL.out _ HB3.out).mono ?_
  rintro r4 w4 ⟨A3, i3, c3, A4, i4, c4, S3, L3, wn, rfl, hi1, hi2, hl3, hl4, ho, hb⟩
  have HI3 := Lib.hid hi1
  have HI4 := Lib.hid hi2
  have HO3 := Lib.hid ho
  have HS4 := Lib.hid hb
  have HB4 := Lib.hid (HB3.out.trans (hb.mono HB3.out.size))
  obtain ⟨_, q0', q1', q2'⟩ := HX0.out.below HB4.out
  clear hi1 hi2 ho hb
  go_wp2_with fail
  refine (HRP.out _ HB4.out).mono ?_
  rintro r5 w5 ⟨B3, j3, d3, B4, j4, d4, S4, L4, wn2, rfl, hi1, hi2, hm3, hm4, ho, hb⟩
  obtain ⟨rfl, rfl, rfl⟩ := HO3.out.unique ho
  have HJ3 := Lib.hid hi1
  have HJ4 := Lib.hid hi2
  have HS5 := Lib.hid hb
  have HB5 := Lib.hid (HB4.out.trans (hb.mono HB4.out.size))
  obtain ⟨_, q0', q1', q2'⟩ := HX0.out.below HB5.out
  have HT4 := Lib.hid (HS4.out.trans (HS5.out.mono HS4.out.size))
  have HT3 := Lib.hid (HS3.out.trans (HT4.out.mono HS3.out.size))
  clear hi1 hi2 ho hb
  obtain rfl : i1 = j1 := by rw [← HI1.out.1, HJ1.out.1]
  obtain rfl : i2 = j2 := by rw [← HI2.out.1, HJ2.out.1]
  obtain rfl : i3 = j3 := by rw [← HI3.out.1, HJ3.out.1]
  obtain rfl : i4 = j4 := by rw [← HI4.out.1, HJ4.out.1]
  have HL1 := Lib.hid (fun W (hW : Below w5.heap.size w5 W) => (List_same A1 B1 i1 c1 d1 S1 W ((HI1.out.below HT3.out).below hW) ((HJ1.out.below HT4.out).below hW) (by omega)).mono (R' := fun r w' => r = .returned (.bool true) ∧ Below W.heap.size W w') (fun r w' ⟨h1, y, h2⟩ => ⟨h1, by rw [h2]; exact below_drewN (Below.refl _ _) _⟩))
  have HL2 := Lib.hid (fun W (hW : Below w5.heap.size w5 W) => (List_same A2 B2 i2 c2 d2 C1 W ((HI2.out.below HT3.out).below hW) ((HJ2.out.below HT4.out).below hW) (by omega)).mono (R' := fun r w' => r = .returned (.bool true) ∧ Below W.heap.size W w') (fun r w' ⟨h1, y, h2⟩ => ⟨h1, by rw [h2]; exact below_drewN (Below.refl _ _) _⟩))
  have HL3 := Lib.hid (fun W (hW : Below w5.heap.size w5 W) => (List_same A3 B3 i3 c3 d3 S3 W ((HI3.out.below HS5.out).below hW) (HJ3.out.below hW) (by omega)).mono (R' := fun r w' => r = .returned (.bool true) ∧ Below W.heap.size W w') (fun r w' ⟨h1, y, h2⟩ => ⟨h1, by rw [h2]; exact below_drewN (Below.refl _ _) _⟩))
  have HL4 := Lib.hid (fun W (hW : Below w5.heap.size w5 W) => (List_same A4 B4 i4 c4 d4 L3 W ((HI4.out.below HS5.out).below hW) (HJ4.out.below hW) (by omega)).mono (R' := fun r w' => r = .returned (.bool true) ∧ Below W.heap.size W w') (fun r w' ⟨h1, y, h2⟩ => ⟨h1, by rw [h2]; exact below_drewN (Below.refl _ _) _⟩))
  have HV5 := Lib.hid (fun W (hW : Below w5.heap.size w5 W) => HVA.out W (HB5.out.trans (hW.mono HB5.out.size)))
  have HR5 := Lib.hid (fun W (hW : Below w5.heap.size w5 W) => HRV.out W (HB5.out.trans (hW.mono HB5.out.size)))
  generalize hca : attrC G q nt = ka at *
  clear hca
  have hqa : (ka == ka) = true := by simp
  generalize hcp : playC G ch f = kp at *
  clear hcp
  have hqp : (kp == kp) = true := by simp
  have hqw : (wn == wn) = true := by simp
  have hqv : (gmB G == gmB G) = true := by simp
  generalize gmB G = gv at *
  have HCC := Lib.hid (fun W (hW : Below w5.heap.size w5 W) => show W.cell? ⟨w.heap.size, 0, none⟩ = some (.slice a n c) ∧ W.cell? ⟨w.heap.size, 1, none⟩ = some (.slice p m d) ∧ W.cell? ⟨w.heap.size, 2, none⟩ = some (.slice x k e) from have hh := HX0.out.below (HB5.out.trans (hW.mono HB5.out.size)); ⟨hh.c0, hh.c1, hh.c2⟩)
  clear HX0 q0' q1' q2'
  obtain ⟨q0', q1', q2'⟩ := HCC.out w5 (Below.refl _ _)
  have HAW := Lib.hid (fun W => awakeG_any W)
  go_wp2_with fail
  clear HFW HAT HRA HPL HRP HVA HRV HI1 HI2 HI3 HI4 HJ1 HJ2 HJ3 HJ4 HO1 HO3 HS2 HS3 HS4 HS5 HB2 HB3 HB4 HB1 HT3 HT4
  go_region_held3 (fun V => V.cell? ⟨w.heap.size, 0, none⟩ = some (.slice a n c) ∧ V.cell? ⟨w.heap.size, 1, none⟩ = some (.slice p m d) ∧ V.cell? ⟨w.heap.size, 2, none⟩ = some (.slice x k e))
      (first
        | exact HCC.out _ k7
        | exact HCC.out _ k6
        | exact HCC.out _ k5
        | exact HCC.out _ k4
        | exact HCC.out _ k3
        | exact HCC.out _ k2
        | exact HCC.out _ k1
        | exact HCC.out _ ((Below.refl w5.heap.size w5).drew))
      (first
        | (go_at_call 9; refine (HAW.out _).mono ?_; rintro e z7 ⟨rfl, b7⟩; have k7 : Below w5.heap.size w5 z7 := k6.trans (b7.mono k6.size))
        | (have hgo := k5; clear hgo; go_at_call 16; refine (HL4.out _ k5).mono ?_; rintro e z6 ⟨rfl, b6⟩; have k6 : Below w5.heap.size w5 z6 := k5.trans (b6.mono k5.size))
        | (have hgo := k4; clear hgo; go_at_call 16; refine (HL3.out _ k4).mono ?_; rintro e z5 ⟨rfl, b5⟩; have k5 : Below w5.heap.size w5 z5 := k4.trans (b5.mono k4.size))
        | (have hgo := k3; clear hgo; go_at_call 16; refine (HL2.out _ k3).mono ?_; rintro e z4 ⟨rfl, b4⟩; have k4 : Below w5.heap.size w5 z4 := k3.trans (b4.mono k3.size))
        | (have hgo := k2; clear hgo; go_at_call 16; refine (HL1.out _ k2).mono ?_; rintro e z3 ⟨rfl, b3⟩; have k3 : Below w5.heap.size w5 z3 := k2.trans (b3.mono k2.size))
        | (go_at_call 15; refine (HR5.out _ k1).mono ?_; rintro e z2 ⟨rfl, b2⟩; have k2 : Below w5.heap.size w5 z2 := k1.trans (b2.mono k1.size))
        | (go_at_call 14; refine (HV5.out _ ((Below.refl w5.heap.size w5).drew)).mono ?_; rintro e z1 ⟨rfl, b1⟩; have k1 : Below w5.heap.size w5 z1 := ((Below.refl w5.heap.size w5).drew).trans b1)
        | fail)
  go_wp2_with fail
  go_ret
  exact ⟨rfl, HBW.out.trans ((HB5.out.trans (k7.mono HB5.out.size)).mono HBW.out.size)⟩

end Go.Proofs.Ytffdbncjndnnaaa.Wd
