/-
  GameForced: the ways in which the statement holds at once, and the whole.
-/
import Derived.Test.YtffdbncjndnnaaaGaForced1
namespace Go.Proofs.Ytffdbncjndnnaaa.Wd
open Go.RowKit
set_option linter.unusedVariables false
set_option linter.unusedSimpArgs false

set_option maxRecDepth 100000 in
set_option maxHeartbeats 16000000 in
theorem forced_law (a p x A C : Option Addr) (n c m d k e nt ct na ca : Nat) (G : Gm) (T : Nat → Bool) (ch : List Int) (q f : Int) (w : World) (h : GameIn w a n p m x k G) (hT : BoolsIn w A nt T) (hC : Ints w C na ch)
    (hn : n ≤ 17592186044416) (hm : m ≤ 17592186044416) (hk : k ≤ 17592186044416) (hnt : nt ≤ 140737488355328) (hna : na ≤ 17592186044416) (hl : ∀ v, (G.X.getD v []).length ≤ 17592186044416) :
    Calls Try.prog 6 #[.agg #[.slice a n c, .slice p m d, .slice x k e], .int .i64 q, .slice A nt ct, .slice C na ca, .int .i64 f] w fun r w' => r = .returned (.bool true) ∧ Below w.heap.size w w' := by
  obtain ⟨W0, hW0⟩ : ∃ W0, w.alloc (.cells #[.slice a n c, .slice p m d, .slice x k e] 25) = W0 := ⟨_, rfl⟩
  have HBW := Lib.hid (show Below w.heap.size w W0 by rw [← hW0]; exact (Below.refl _ _).alloc (Nat.le_refl _) _)
  have hbx0 : Bx3 W0 w.heap.size (.slice a n c) (.slice p m d) (.slice x k e) := by rw [← hW0]; exact Bx3.new _ _ _ _ _
  have HX0 := Lib.hid hbx0
  obtain ⟨hlt0, q0, q1, q2⟩ := hbx0
  have HFW := Lib.hid (gfew_any 60 300 a p x n c m d k e G W0 (h.below HBW.out) (by omega) (by omega) hn hm hk hl)
  have HAT := Lib.hid (fun (hsm : gmB G = true → G.X.length ≤ 1000) W (hW : Below W0.heap.size W0 W) => attract_any a p x A n c m d k e nt ct G q T W ((h.below HBW.out).below hW) ((hT.below HBW.out).below hW) hk hnt hl hsm)
  have HRV := Lib.hid (fun W (hW : Below W0.heap.size W0 W) => refValidG_any a p x n c m d k e G W ((h.below HBW.out).below hW) hn hk hl)
  have hnt0 : (0 : Int) ≤ (nt : Int) := by omega
  have hna0 : (0 : Int) ≤ (na : Int) := by omega
  have hn0 : (0 : Int) ≤ (n : Int) := by omega
  have hxl := h.x.1
  have hol := h.o.1
  have H := Lib.hid h
  have HT := Lib.hid hT
  have HC := Lib.hid hC
  clear h hT hC hl
  cases hfb : gfewB 60 300 G
  · rw [hfb] at HFW
    clear hfb
    go_enter Try.func6, Try.ntmps6
    go_wp2_with fail
    clear hW0
    refine HFW.out.mono ?_
    rintro r1 w1 ⟨rfl, hb1⟩
    have HB1 := Lib.hid (HBW.out.trans (hb1.mono HBW.out.size))
    obtain ⟨_, s0, s1, s2⟩ := HX0.out.below hb1
    have HBB := Lib.hid hb1
    clear hb1 q0 q1 q2
    go_wp2_with fail
    refine (awakeG_any _).mono ?_
    rintro r2 w2 ⟨rfl, hb2⟩
    have HB2 := Lib.hid (HB1.out.trans (hb2.mono HB1.out.size))
    clear hb2
    go_wp2_with fail
    go_ret
    exact ⟨rfl, HB2.out⟩
  have hsm : G.X.length ≤ 60 := gfew_len2 hfb
  have HFB := Lib.hid hfb
  rw [hfb] at HFW
  clear hfb
  by_cases h4 : 400 < nt
  · have h4' : (400 : Int) < (nt : Int) := by omega
    go_enter Try.func6, Try.ntmps6
    go_wp2_with fail
    clear hW0
    refine HFW.out.mono ?_
    rintro r1 w1 ⟨rfl, hb1⟩
    have HB1 := Lib.hid (HBW.out.trans (hb1.mono HBW.out.size))
    obtain ⟨_, s0, s1, s2⟩ := HX0.out.below hb1
    have HBB := Lib.hid hb1
    clear hb1 q0 q1 q2
    go_wp2_with fail
    refine (awakeG_any _).mono ?_
    rintro r2 w2 ⟨rfl, hb2⟩
    have HB2 := Lib.hid (HB1.out.trans (hb2.mono HB1.out.size))
    clear hb2
    go_wp2_with fail
    go_ret
    exact ⟨rfl, HB2.out⟩
  have h4' : ¬ (400 : Int) < (nt : Int) := by omega
  by_cases h5 : ¬ na = n
  · have h5' : ((na : Int) != (n : Int)) = true := by simp; omega
    go_enter Try.func6, Try.ntmps6
    go_wp2_with fail
    clear hW0
    refine HFW.out.mono ?_
    rintro r1 w1 ⟨rfl, hb1⟩
    have HB1 := Lib.hid (HBW.out.trans (hb1.mono HBW.out.size))
    obtain ⟨_, s0, s1, s2⟩ := HX0.out.below hb1
    have HBB := Lib.hid hb1
    clear hb1 q0 q1 q2
    go_wp2_with fail
    refine (awakeG_any _).mono ?_
    rintro r2 w2 ⟨rfl, hb2⟩
    have HB2 := Lib.hid (HB1.out.trans (hb2.mono HB1.out.size))
    clear hb2
    go_wp2_with fail
    go_ret
    exact ⟨rfl, HB2.out⟩
  obtain rfl : na = n := by omega
  have h5' : ((na : Int) != (na : Int)) = false := by simp
  by_cases h6 : f < 0
  · go_enter Try.func6, Try.ntmps6
    go_wp2_with fail
    clear hW0
    refine HFW.out.mono ?_
    rintro r1 w1 ⟨rfl, hb1⟩
    have HB1 := Lib.hid (HBW.out.trans (hb1.mono HBW.out.size))
    obtain ⟨_, s0, s1, s2⟩ := HX0.out.below hb1
    have HBB := Lib.hid hb1
    clear hb1 q0 q1 q2
    go_wp2_with fail
    refine (awakeG_any _).mono ?_
    rintro r2 w2 ⟨rfl, hb2⟩
    have HB2 := Lib.hid (HB1.out.trans (hb2.mono HB1.out.size))
    clear hb2
    go_wp2_with fail
    go_ret
    exact ⟨rfl, HB2.out⟩
  obtain ⟨f, rfl⟩ : ∃ g : Nat, f = g := ⟨f.toNat, by omega⟩
  have h6' : ¬ (f : Int) < 0 := by omega
  clear h6
  by_cases h7 : na ≤ f
  · have h7' : (na : Int) ≤ (f : Int) := by omega
    go_enter Try.func6, Try.ntmps6
    go_wp2_with fail
    clear hW0
    refine HFW.out.mono ?_
    rintro r1 w1 ⟨rfl, hb1⟩
    have HB1 := Lib.hid (HBW.out.trans (hb1.mono HBW.out.size))
    obtain ⟨_, s0, s1, s2⟩ := HX0.out.below hb1
    have HBB := Lib.hid hb1
    clear hb1 q0 q1 q2
    go_wp2_with fail
    refine (awakeG_any _).mono ?_
    rintro r2 w2 ⟨rfl, hb2⟩
    have HB2 := Lib.hid (HB1.out.trans (hb2.mono HB1.out.size))
    clear hb2
    go_wp2_with fail
    go_ret
    exact ⟨rfl, HB2.out⟩
  have h7' : ¬ (na : Int) ≤ (f : Int) := by omega
  have hfn : f < na := by omega
  cases hv : gmB G
  · rw [hv] at HRV
    go_enter Try.func6, Try.ntmps6
    go_wp2_with fail
    clear hW0
    refine HFW.out.mono ?_
    rintro r1 w1 ⟨rfl, hb1⟩
    have HB1 := Lib.hid (HBW.out.trans (hb1.mono HBW.out.size))
    obtain ⟨_, s0, s1, s2⟩ := HX0.out.below hb1
    have HBB := Lib.hid hb1
    clear hb1 q0 q1 q2
    go_wp2_with fail
    refine (HRV.out w1 HBB.out).mono ?_
    rintro r3 w3 ⟨rfl, hb3⟩
    have HB1 := Lib.hid (HB1.out.trans (hb3.mono HB1.out.size))
    clear hb3
    go_wp2_with fail
    refine (awakeG_any _).mono ?_
    rintro r2 w2 ⟨rfl, hb2⟩
    have HB2 := Lib.hid (HB1.out.trans (hb2.mono HB1.out.size))
    clear hb2
    go_wp2_with fail
    go_ret
    exact ⟨rfl, HB2.out⟩
  have HV := Lib.hid hv
  have HSM := Lib.hid (show gmB G = true → G.X.length ≤ 1000 from fun _ => by omega)
  rw [hv] at HRV
  obtain ⟨hg1, hg2, hg3, -⟩ := gmB_true hv
  by_cases hcode : attrC G q nt = 0
  · have hv2 := (attrC_valid hcode).2
    have hp2 : plB q = true := by
      cases hp : plB q
      · rw [attrC_pl hv hp] at hcode; cases hcode
      · rfl
    obtain rfl : na = k := by omega
    obtain rfl : m = na := by have := H.out.p.1; omega
    obtain rfl : nt = m := by omega
    exact forced_main a p x A C nt c d e ct ca f G T ch q w H.out HT.out HC.out (by omega) HFB.out hfn hv hp2
  · have hc1 : (attrC G q nt != 0) = true := by simp [hcode]
    have HCD := Lib.hid hcode
    clear hcode
    go_enter Try.func6, Try.ntmps6
    go_wp2_with fail
    clear hW0
    refine HFW.out.mono ?_
    rintro r1 w1 ⟨rfl, hb1⟩
    have HB1 := Lib.hid (HBW.out.trans (hb1.mono HBW.out.size))
    obtain ⟨_, s0, s1, s2⟩ := HX0.out.below hb1
    have HBB := Lib.hid hb1
    clear hb1 q0 q1 q2
    go_wp2_with fail
    refine (HRV.out w1 HBB.out).mono ?_
    rintro r3 w3 ⟨rfl, hb3⟩
    have HBC := Lib.hid (HBB.out.trans (hb3.mono HBB.out.size))
    obtain ⟨_, u0, u1, u2⟩ := HX0.out.below HBC.out
    clear hb3 s0 s1 s2
    go_wp2_with fail
    refine (HAT.out HSM.out _ HBC.out).mono ?_
    rintro r2 w2 ⟨A1, i1, c1, A2, i2, c2, S1, C1, rfl, hi1, hi2, hl1, hl2, ho, hb⟩
    have HB1 := Lib.hid (HBW.out.trans ((HBC.out.trans (hb.mono HBC.out.size)).mono HBW.out.size))
    clear hi1 hi2 ho hb
    go_wp2_with fail
    refine (awakeG_any _).mono ?_
    rintro r4 w4 ⟨rfl, hb4⟩
    have HB2 := Lib.hid (HB1.out.trans (hb4.mono HB1.out.size))
    clear hb4
    go_wp2_with fail
    go_ret
    exact ⟨rfl, HB2.out⟩

end Go.Proofs.Ytffdbncjndnnaaa.Wd
