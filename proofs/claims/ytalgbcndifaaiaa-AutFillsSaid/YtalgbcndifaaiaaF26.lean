/-
  Fill of package aut, where the automaton is deterministic with one Start state and lacks a letter.
  Fill of package aut: of what is no automaton, and of what is not deterministic.
  Fill of package aut: of what has no Start state, and of what lacks no letter.
  wide of lodesmanlaw05: an automaton whose states have edges of one letter to themselves.
-/
import Derived.Test.YtalgbcndifaaiaaF25
import Derived.Test.YtalgbcndifaaiaaAuRef
import Derived.Test.YtalgbcndifaaiaaF22
import Derived.IntWalk
namespace Go.Proofs.Ytalgbcndifaaiaa.Wd
open Go.RowKit
set_option linter.unusedVariables false
set_option linter.unusedSimpArgs false

/-- What Fill makes. -/
def fillL (p S : Nat) (Kd M : Int) (es : List Ed) : List Ed := es.map (orE (othF Kd M)) ++ sinkL p S (infF Kd M) (setX S (setsN p es es.length)) (S + 1)

def zeroA : Value := .agg #[.int .i64 0, .int .i64 0, .slice none 0 0, .int .i64 0, .int .i64 0, .slice none 0 0]

set_option maxRecDepth 100000 in
set_option maxHeartbeats 8000000 in
theorem fill_lack (p S : Nat) (Kd M : Int) (A E : Option Addr) (c ne ce : Nat) (st : List Int) (es : List Ed) (w : World) (hp : p ≤ 6) (hS : S ≤ 3000) (h0 : 0 ≤ Kd) (h5 : Kd ≤ 5) (hM0 : 0 ≤ M) (hM4 : M ≤ 40) (ha : Ints w A 1 st) (he : EdgesAt w E ne es) (hne : ne ≤ 40000)
    (hv : autB p S Kd M st es = true) (hcl : clashB p es ne = false) (hfu : fullB p es S = false) (hfr : ∀ j, j < ne → ∃ f : Nat, (es.getD j ed0).f = (f : Int) ∧ f < S) :
    Calls Try.prog 7 #[.agg #[.int .i64 p, .int .i64 S, .slice A 1 c, .int .i64 Kd, .int .i64 M, .slice E ne ce]] w fun e w' =>
      ((S = 3000 ∨ 40000 < (fillL p S Kd M es).length) ∧ e = .returned (.tuple #[zeroA, .int .i64 3]) ∧ Below w.heap.size w w') ∨
      (S < 3000 ∧ (fillL p S Kd M es).length ≤ 40000 ∧ (∃ A1 n1 c1 A2 c2, e = .returned (.tuple #[.agg #[.int .i64 p, .int .i64 ((S : Int) + 1), .slice A1 n1 c1, .int .i64 Kd, .int .i64 (M + addF Kd M), .slice A2 (fillL p S Kd M es).length c2], .int .i64 0]) ∧
        Ints w' A1 n1 st ∧ EdgesAt w' A2 (fillL p S Kd M es).length (fillL p S Kd M es)) ∧ Below w.heap.size w w') := by
  obtain ⟨W0, hW0⟩ : ∃ W0, ((w.alloc (.cells #[.int .i64 p, .int .i64 S, .slice A 1 c, .int .i64 Kd, .int .i64 M, .slice E ne ce] 25)).alloc (.cells #[.int .i64 0, .int .i64 0, .slice none 0 0, .int .i64 0, .int .i64 0, .slice none 0 0] 25)) = W0 := ⟨_, rfl⟩
  have HXB := Lib.hid (Box6.new w p S A 1 c Kd M E ne ce 25)
  have HBw := Lib.hid (show Below w.heap.size w W0 by rw [← hW0]; exact ((Below.refl _ _).alloc (Nat.le_refl _) _).alloc (by simp) _)
  have HBX := Lib.hid (show Box6 W0 w.heap.size p S A 1 c Kd M E ne ce by rw [← hW0]; exact HXB.out.below ((Below.refl _ _).alloc (Nat.le_refl _) _))
  have HZZ := Lib.hid (show W0.heap.size = w.heap.size + 2 by rw [← hW0]; simp)
  have HRF := Lib.hid (show ∀ i, W0.frozen? ⟨w.heap.size + 1, i, none⟩ = false by intro i; rw [← hW0]; simp)
  have HRC := Lib.hid (show ∀ i, W0.cell? ⟨w.heap.size + 1, i, none⟩ = #[Value.int .i64 0, .int .i64 0, .slice none 0 0, .int .i64 0, .int .i64 0, .slice none 0 0][i]? by intro i; rw [← hW0]; have h := box_last (w.alloc (.cells #[.int .i64 p, .int .i64 S, .slice A 1 c, .int .i64 Kd, .int .i64 M, .slice E ne ce] 25)) #[.int .i64 0, .int .i64 0, .slice none 0 0, .int .i64 0, .int .i64 0, .slice none 0 0] 25 i; rw [World.size_alloc] at h; exact h)
  have HV := Lib.hid (fun W (hW : Below W0.heap.size W0 W) => by
    have h := autValid_any p S Kd M A E 1 c ne ce st es W ((ha.below HBw.out).below hW) (by omega) ((he.below HBw.out).below hW) (by omega)
    rw [hv] at h
    exact h)
  have HL := Lib.hid (fun W (hW : Below W0.heap.size W0 W) => by
    have h := lettersOf_any p S Kd M A E 1 c ne ce es W ((he.below HBw.out).below hW) hp hS hne hfr
    rw [hcl] at h
    exact h)
  have HF := Lib.hid (show ∀ (b : Nat) (W : World), W.rowIs b 78 S (fun s => .int .u64 (setsN p es ne s)) → Calls Try.prog 21 #[.slice (some ⟨b, 0, none⟩) S S, .int .i64 p] W fun r w' => r = .returned (.bool false) ∧ Below W.heap.size W w' from fun b W hr => by
    have h := allFull_any p S b es W hp hS (by rw [he.1]; exact hr)
    rw [hfu] at h
    exact h)
  have HSK := Lib.hid (show ∀ (b : Nat) (W : World), S ≤ 2999 → Below W0.heap.size W0 W → W.rowIs b 78 S (fun s => .int .u64 (setsN p es ne s)) → W0.heap.size ≤ b →
      Calls Try.prog 23 #[.agg #[.int .i64 p, .int .i64 S, .slice A 1 c, .int .i64 Kd, .int .i64 M, .slice E ne ce], .slice (some ⟨b, 0, none⟩) S S] W fun e w' => ∃ A1 n1 c1 A2 c2 m, e = .returned (.agg #[.int .i64 p, .int .i64 ((S : Int) + 1), .slice A1 n1 c1, .int .i64 Kd, .int .i64 (M + addF Kd M), .slice A2 m c2]) ∧
        w'.ownsRow W.heap.size 3 1 (.slice A1 n1 c1) n1 (st.map (Value.int .i64)) ∧ w'.ownsRow W.heap.size 37 5 (.slice A2 m c2) m (edsV (fillL p S Kd M es)) ∧ (fillL p S Kd M es).length = m ∧ Below W0.heap.size W w' from fun b W hS2 hW hr hb => by
    have h := sink_any p S b W0.heap.size Kd M A E 1 c ne ce st es (setsN p es ne) W hp hS2 h0 h5 hM0 hM4 ((ha.below HBw.out).below hW) (by omega) ((he.below HBw.out).below hW) hne hr hb (fun s => setsN_lt hp es ne s)
    unfold fillL
    rw [he.1]
    exact h)
  have HEL := Lib.hid he.1
  clear ha he hv hcl hfu hfr
  have hS0 : (0 : Int) ≤ (S : Int) := by omega
  have hS1 : (S : Int) ≤ 3000 := by omega
  go_enter Try.func7, Try.ntmps7
  obtain ⟨hz0, p0, p1, p2, p3, p4, p5⟩ := HBX.out
  go_wp2_with fail
  refine (HV.out _ (Below.refl _ _)).mono ?_
  rintro e w1 ⟨rfl, hb1⟩
  have HB1 := Lib.hid hb1
  clear hb1 p0 p1 p2 p3 p4 p5 hz0
  obtain ⟨hz0, p0, p1, p2, p3, p4, p5⟩ := HBX.out.below HB1.out
  go_wp2_with fail
  refine (HL.out _ HB1.out).mono ?_
  rintro e w2 ⟨b, rfl, hr, hbb, hb2⟩
  have HB2 := Lib.hid (HB1.out.trans (hb2.mono HB1.out.size))
  have HR2 := Lib.hid hr
  have HBB := Lib.hid (Nat.le_trans HB1.out.size hbb)
  clear hb2 hr hbb p0 p1 p2 p3 p4 p5 hz0
  obtain ⟨hz0, p0, p1, p2, p3, p4, p5⟩ := HBX.out.below HB2.out
  go_wp2_with fail
  refine (HF.out _ _ HR2.out).mono ?_
  rintro e w3 ⟨rfl, hb3⟩
  have HB3 := Lib.hid (HB2.out.trans (hb3.mono HB2.out.size))
  have HR3 := Lib.hid (HR2.out.of_block (hb3.block b HR2.out.lt))
  clear hb3 p0 p1 p2 p3 p4 p5 hz0
  obtain ⟨hz0, p0, p1, p2, p3, p4, p5⟩ := HBX.out.below HB3.out
  have hz1 : w.heap.size + 1 < w3.heap.size := by have := HB3.out.size; have := HZZ.out; omega
  have hzw : w.heap.size + 1 < W0.heap.size := by have := HZZ.out; omega
  have zc := fun i => (HB3.out.cell (p := ⟨w.heap.size + 1, i, none⟩) hzw).trans (HRC.out i)
  have zf := fun i => (HB3.out.frozen (p := ⟨w.heap.size + 1, i, none⟩) hzw).trans (HRF.out i)
  have ZC := Lib.hid zc
  have ZF := Lib.hid zf
  clear zc zf
  by_cases hS3 : S = 3000
  · have hSI : (S : Int) = 3000 := by omega
    obtain ⟨z0, z1, z2, z3, z4, z5⟩ : w3.cell? ⟨w.heap.size + 1, 0, none⟩ = some (.int .i64 0) ∧ w3.cell? ⟨w.heap.size + 1, 1, none⟩ = some (.int .i64 0) ∧ w3.cell? ⟨w.heap.size + 1, 2, none⟩ = some (.slice none 0 0) ∧ w3.cell? ⟨w.heap.size + 1, 3, none⟩ = some (.int .i64 0) ∧ w3.cell? ⟨w.heap.size + 1, 4, none⟩ = some (.int .i64 0) ∧ w3.cell? ⟨w.heap.size + 1, 5, none⟩ = some (.slice none 0 0) := ⟨ZC.out 0, ZC.out 1, ZC.out 2, ZC.out 3, ZC.out 4, ZC.out 5⟩
    have f0 := ZF.out 0
    have f1 := ZF.out 1
    have f2 := ZF.out 2
    have f3 := ZF.out 3
    have f4 := ZF.out 4
    have f5 := ZF.out 5
    have HX := Lib.hid (show S = 3000 from hS3)
    subst hS3
    clear hSI
    go_wp2_with fail
    obtain ⟨x0, x1, x2, x3, x4, x5⟩ := cells6 z0 z1 z2 z3 z4 z5 (.int .i64 0) (.int .i64 0) (.slice none 0 0) (.int .i64 0) (.int .i64 0) (.slice none 0 0)
    exact bodyPost_ret (v := .tuple #[zeroA, .int .i64 3]) (by simp [results, Try.results7, go_sem, zeroA, x0, x1, x2, x3, x4, x5, z0, z1, z2, z3, z4, z5]) rfl ⟨rfl, below6 (HBw.out.trans (HB3.out.mono HBw.out.size)) (by omega) _ _ _ _ _ _⟩
  · have hSI : (S : Int) < 3000 := by omega
    have hSE : ((S : Int) == 3000) = false := by simp; omega
    go_wp2_with fail
    refine (HSK.out b _ (by omega) HB3.out HR3.out HBB.out).mono ?_
    rintro e w4 ⟨A1, n1, c1, A2, c2, m, rfl, hI, hE, hlm, hb4⟩
    have HI := Lib.hid hI
    have HE := Lib.hid hE
    have HLM := Lib.hid hlm
    have HB4 := Lib.hid (show Below W0.heap.size W0 w4 from HB3.out.trans hb4)
    have HB5 := Lib.hid (HB4.out.alloc HB4.out.size (.cells #[.int .i64 p, .int .i64 ((S : Int) + 1), .slice A1 n1 c1, .int .i64 Kd, .int .i64 (M + addF Kd M), .slice A2 m c2] 25))
    have HBN := Lib.hid ((Below.refl w4.heap.size w4).alloc (Nat.le_refl _) (.cells #[.int .i64 p, .int .i64 ((S : Int) + 1), .slice A1 n1 c1, .int .i64 Kd, .int .i64 (M + addF Kd M), .slice A2 m c2] 25))
    obtain ⟨z0, z1, z2, z3, z4, z5⟩ : (w4.alloc (.cells #[.int .i64 p, .int .i64 ((S : Int) + 1), .slice A1 n1 c1, .int .i64 Kd, .int .i64 (M + addF Kd M), .slice A2 m c2] 25)).cell? ⟨w.heap.size + 1, 0, none⟩ = some (.int .i64 0) ∧ (w4.alloc (.cells #[.int .i64 p, .int .i64 ((S : Int) + 1), .slice A1 n1 c1, .int .i64 Kd, .int .i64 (M + addF Kd M), .slice A2 m c2] 25)).cell? ⟨w.heap.size + 1, 1, none⟩ = some (.int .i64 0) ∧ (w4.alloc (.cells #[.int .i64 p, .int .i64 ((S : Int) + 1), .slice A1 n1 c1, .int .i64 Kd, .int .i64 (M + addF Kd M), .slice A2 m c2] 25)).cell? ⟨w.heap.size + 1, 2, none⟩ = some (.slice none 0 0) ∧ (w4.alloc (.cells #[.int .i64 p, .int .i64 ((S : Int) + 1), .slice A1 n1 c1, .int .i64 Kd, .int .i64 (M + addF Kd M), .slice A2 m c2] 25)).cell? ⟨w.heap.size + 1, 3, none⟩ = some (.int .i64 0) ∧ (w4.alloc (.cells #[.int .i64 p, .int .i64 ((S : Int) + 1), .slice A1 n1 c1, .int .i64 Kd, .int .i64 (M + addF Kd M), .slice A2 m c2] 25)).cell? ⟨w.heap.size + 1, 4, none⟩ = some (.int .i64 0) ∧ (w4.alloc (.cells #[.int .i64 p, .int .i64 ((S : Int) + 1), .slice A1 n1 c1, .int .i64 Kd, .int .i64 (M + addF Kd M), .slice A2 m c2] 25)).cell? ⟨w.heap.size + 1, 5, none⟩ = some (.slice none 0 0) := by
      have k := fun i => (HB5.out.cell (p := ⟨w.heap.size + 1, i, none⟩) hzw).trans (HRC.out i)
      exact ⟨k 0, k 1, k 2, k 3, k 4, k 5⟩
    have y0 : w4.cell? ⟨w.heap.size + 1, 0, none⟩ = some (.int .i64 0) := (HB4.out.cell (p := ⟨w.heap.size + 1, 0, none⟩) hzw).trans (HRC.out 0)
    have y1 : w4.cell? ⟨w.heap.size + 1, 1, none⟩ = some (.int .i64 0) := (HB4.out.cell (p := ⟨w.heap.size + 1, 1, none⟩) hzw).trans (HRC.out 1)
    have y2 : w4.cell? ⟨w.heap.size + 1, 2, none⟩ = some (.slice none 0 0) := (HB4.out.cell (p := ⟨w.heap.size + 1, 2, none⟩) hzw).trans (HRC.out 2)
    have y3 : w4.cell? ⟨w.heap.size + 1, 3, none⟩ = some (.int .i64 0) := (HB4.out.cell (p := ⟨w.heap.size + 1, 3, none⟩) hzw).trans (HRC.out 3)
    have y4 : w4.cell? ⟨w.heap.size + 1, 4, none⟩ = some (.int .i64 0) := (HB4.out.cell (p := ⟨w.heap.size + 1, 4, none⟩) hzw).trans (HRC.out 4)
    have y5 : w4.cell? ⟨w.heap.size + 1, 5, none⟩ = some (.slice none 0 0) := (HB4.out.cell (p := ⟨w.heap.size + 1, 5, none⟩) hzw).trans (HRC.out 5)
    have f0 : w4.frozen? ⟨w.heap.size + 1, 0, none⟩ = false := (HB4.out.frozen (p := ⟨w.heap.size + 1, 0, none⟩) hzw).trans (HRF.out 0)
    have f1 : w4.frozen? ⟨w.heap.size + 1, 1, none⟩ = false := (HB4.out.frozen (p := ⟨w.heap.size + 1, 1, none⟩) hzw).trans (HRF.out 1)
    have f2 : w4.frozen? ⟨w.heap.size + 1, 2, none⟩ = false := (HB4.out.frozen (p := ⟨w.heap.size + 1, 2, none⟩) hzw).trans (HRF.out 2)
    have f3 : w4.frozen? ⟨w.heap.size + 1, 3, none⟩ = false := (HB4.out.frozen (p := ⟨w.heap.size + 1, 3, none⟩) hzw).trans (HRF.out 3)
    have f4 : w4.frozen? ⟨w.heap.size + 1, 4, none⟩ = false := (HB4.out.frozen (p := ⟨w.heap.size + 1, 4, none⟩) hzw).trans (HRF.out 4)
    have f5 : w4.frozen? ⟨w.heap.size + 1, 5, none⟩ = false := (HB4.out.frozen (p := ⟨w.heap.size + 1, 5, none⟩) hzw).trans (HRF.out 5)
    have hz4 : w.heap.size + 1 < w4.heap.size := by have := HB4.out.size; omega
    have hz40 : w.heap.size < w4.heap.size := by omega
    have HZ := Lib.hid (⟨z0, z1, z2, z3, z4, z5⟩ : _ ∧ _ ∧ _ ∧ _ ∧ _ ∧ _)
    clear hI hE hlm hb4 z0 z1 z2 z3 z4 z5
    by_cases hm : 40000 < m
    · have hmi : (40000 : Int) < (m : Int) := by omega
      have HMM := Lib.hid hm
      clear hm
      go_wp2_with fail
      obtain ⟨x0, x1, x2, x3, x4, x5⟩ := cells6 y0 y1 y2 y3 y4 y5 (.int .i64 0) (.int .i64 0) (.slice none 0 0) (.int .i64 0) (.int .i64 0) (.slice none 0 0)
      have hlast := fun i => ((Below.refl _ ((((((w4.setCell ⟨w.heap.size + 1, 0, none⟩ (.int .i64 0)).setCell ⟨w.heap.size + 1, 1, none⟩ (.int .i64 0)).setCell ⟨w.heap.size + 1, 2, none⟩ (.slice none 0 0)).setCell ⟨w.heap.size + 1, 3, none⟩ (.int .i64 0)).setCell ⟨w.heap.size + 1, 4, none⟩ (.int .i64 0)).setCell ⟨w.heap.size + 1, 5, none⟩ (.slice none 0 0))).alloc (Nat.le_refl _) (.cells #[.int .i64 p, .int .i64 ((S : Int) + 1), .slice A1 n1 c1, .int .i64 Kd, .int .i64 (M + addF Kd M), .slice A2 m c2] 25)).cell (p := ⟨w.heap.size + 1, i, none⟩) (by simp; omega)
      have u0 := (hlast 0).trans x0
      have u1 := (hlast 1).trans x1
      have u2 := (hlast 2).trans x2
      have u3 := (hlast 3).trans x3
      have u4 := (hlast 4).trans x4
      have u5 := (hlast 5).trans x5
      have HU := Lib.hid hlast
      clear hlast
      refine bodyPost_ret (v := .tuple #[zeroA, .int .i64 3]) (by simp [results, Try.results7, go_sem, zeroA, u0, u1, u2, u3, u4, u5, x0, x1, x2, x3, x4, x5, y0, y1, y2, y3, y4, y5]) rfl ?_
      exact .inl ⟨.inr (by rw [HLM.out]; exact HMM.out), rfl, (below6 (HBw.out.trans (HB4.out.mono HBw.out.size)) (by omega) _ _ _ _ _ _).alloc (by have := HBw.out.size; simp; omega) _⟩
    · have hmi : (m : Int) ≤ 40000 := by omega
      have HMM := Lib.hid hm
      clear hm
      go_wp2_with fail
      obtain ⟨x0, x1, x2, x3, x4, x5⟩ := cells6 y0 y1 y2 y3 y4 y5 (.int .i64 p) (.int .i64 ((S : Int) + 1)) (.slice A1 n1 c1) (.int .i64 Kd) (.int .i64 (M + addF Kd M)) (.slice A2 m c2)
      have hlast := fun i => ((Below.refl _ ((((((w4.setCell ⟨w.heap.size + 1, 0, none⟩ (.int .i64 p)).setCell ⟨w.heap.size + 1, 1, none⟩ (.int .i64 ((S : Int) + 1))).setCell ⟨w.heap.size + 1, 2, none⟩ (.slice A1 n1 c1)).setCell ⟨w.heap.size + 1, 3, none⟩ (.int .i64 Kd)).setCell ⟨w.heap.size + 1, 4, none⟩ (.int .i64 (M + addF Kd M))).setCell ⟨w.heap.size + 1, 5, none⟩ (.slice A2 m c2))).alloc (Nat.le_refl _) (.cells #[.int .i64 p, .int .i64 ((S : Int) + 1), .slice A1 n1 c1, .int .i64 Kd, .int .i64 (M + addF Kd M), .slice A2 m c2] 25)).cell (p := ⟨w.heap.size + 1, i, none⟩) (by simp; omega)
      have u0 := (hlast 0).trans x0
      have u1 := (hlast 1).trans x1
      have u2 := (hlast 2).trans x2
      have u3 := (hlast 3).trans x3
      have u4 := (hlast 4).trans x4
      have u5 := (hlast 5).trans x5
      have HU := Lib.hid hlast
      clear hlast
      refine bodyPost_ret (v := .tuple #[.agg #[.int .i64 p, .int .i64 ((S : Int) + 1), .slice A1 n1 c1, .int .i64 Kd, .int .i64 (M + addF Kd M), .slice A2 m c2], .int .i64 0]) (by simp [results, Try.results7, go_sem, zeroA, u0, u1, u2, u3, u4, u5, x0, x1, x2, x3, x4, x5, y0, y1, y2, y3, y4, y5]) rfl ?_
      have hq : w.heap.size + 1 < w3.heap.size := hz1
      exact .inr ⟨by omega, by rw [HLM.out]; exact Nat.not_lt.1 HMM.out, ⟨A1, n1, c1, A2, c2, by rw [HLM.out], Ints.of_own ((own6 HI.out hq _ _ _ _ _ _).alloc _), by rw [HLM.out]; exact EdgesAt.of_own ((own6 HE.out hq _ _ _ _ _ _).alloc _) HLM.out⟩, (below6 (HBw.out.trans (HB4.out.mono HBw.out.size)) (by omega) _ _ _ _ _ _).alloc (by have := HBw.out.size; simp; omega) _⟩

end Go.Proofs.Ytalgbcndifaaiaa.Wd

namespace Go.Proofs.Ytalgbcndifaaiaa.Wd
open Go.RowKit
set_option linter.unusedVariables false
set_option linter.unusedSimpArgs false

set_option maxRecDepth 100000 in
set_option maxHeartbeats 8000000 in
theorem fill_bad (P S : Int) (Kd M : Int) (A E : Option Addr) (n c ne ce : Nat) (st : List Int) (es : List Ed) (w : World) (ha : Ints w A n st) (hn : n ≤ 17592186044416) (he : EdgesAt w E ne es) (hne : ne ≤ 17592186044416) (hv : autB P S Kd M st es = false) :
    Calls Try.prog 7 #[.agg #[.int .i64 P, .int .i64 S, .slice A n c, .int .i64 Kd, .int .i64 M, .slice E ne ce]] w fun e w' => e = .returned (.tuple #[zeroA, .int .i64 1]) ∧ Below w.heap.size w w' := by
  obtain ⟨W0, hW0⟩ : ∃ W0, ((w.alloc (.cells #[.int .i64 P, .int .i64 S, .slice A n c, .int .i64 Kd, .int .i64 M, .slice E ne ce] 25)).alloc (.cells #[.int .i64 0, .int .i64 0, .slice none 0 0, .int .i64 0, .int .i64 0, .slice none 0 0] 25)) = W0 := ⟨_, rfl⟩
  have HXB := Lib.hid (Box6.new w P S A n c Kd M E ne ce 25)
  have HBw := Lib.hid (show Below w.heap.size w W0 by rw [← hW0]; exact ((Below.refl _ _).alloc (Nat.le_refl _) _).alloc (by simp) _)
  have HBX := Lib.hid (show Box6 W0 w.heap.size P S A n c Kd M E ne ce by rw [← hW0]; exact HXB.out.below ((Below.refl _ _).alloc (Nat.le_refl _) _))
  have HZZ := Lib.hid (show W0.heap.size = w.heap.size + 2 by rw [← hW0]; simp)
  have HRF := Lib.hid (show ∀ i, W0.frozen? ⟨w.heap.size + 1, i, none⟩ = false by intro i; rw [← hW0]; simp)
  have HRC := Lib.hid (show ∀ i, W0.cell? ⟨w.heap.size + 1, i, none⟩ = #[Value.int .i64 0, .int .i64 0, .slice none 0 0, .int .i64 0, .int .i64 0, .slice none 0 0][i]? by intro i; rw [← hW0]; have h := box_last (w.alloc (.cells #[.int .i64 P, .int .i64 S, .slice A n c, .int .i64 Kd, .int .i64 M, .slice E ne ce] 25)) #[.int .i64 0, .int .i64 0, .slice none 0 0, .int .i64 0, .int .i64 0, .slice none 0 0] 25 i; rw [World.size_alloc] at h; exact h)
  have HV := Lib.hid (fun W (hW : Below W0.heap.size W0 W) => by
    have h := autValid_any P S Kd M A E n c ne ce st es W ((ha.below HBw.out).below hW) hn ((he.below HBw.out).below hW) hne
    rw [hv] at h
    exact h)
  clear ha he hv
  go_enter Try.func7, Try.ntmps7
  obtain ⟨hz0, p0, p1, p2, p3, p4, p5⟩ := HBX.out
  go_wp2_with fail
  refine (HV.out _ (Below.refl _ _)).mono ?_
  rintro e w1 ⟨rfl, hb1⟩
  have HB1 := Lib.hid hb1
  clear hb1 p0 p1 p2 p3 p4 p5 hz0
  have hz1 : w.heap.size + 1 < w1.heap.size := by have := HB1.out.size; have := HZZ.out; omega
  have hzw : w.heap.size + 1 < W0.heap.size := by have := HZZ.out; omega
  have zc := fun i => (HB1.out.cell (p := ⟨w.heap.size + 1, i, none⟩) hzw).trans (HRC.out i)
  have zf := fun i => (HB1.out.frozen (p := ⟨w.heap.size + 1, i, none⟩) hzw).trans (HRF.out i)
  have ZC := Lib.hid zc
  have ZF := Lib.hid zf
  clear zc zf
  have z0 : w1.cell? ⟨w.heap.size + 1, 0, none⟩ = some (.int .i64 0) := ZC.out 0
  have z1 : w1.cell? ⟨w.heap.size + 1, 1, none⟩ = some (.int .i64 0) := ZC.out 1
  have z2 : w1.cell? ⟨w.heap.size + 1, 2, none⟩ = some (.slice none 0 0) := ZC.out 2
  have z3 : w1.cell? ⟨w.heap.size + 1, 3, none⟩ = some (.int .i64 0) := ZC.out 3
  have z4 : w1.cell? ⟨w.heap.size + 1, 4, none⟩ = some (.int .i64 0) := ZC.out 4
  have z5 : w1.cell? ⟨w.heap.size + 1, 5, none⟩ = some (.slice none 0 0) := ZC.out 5
  have f0 := ZF.out 0
  have f1 := ZF.out 1
  have f2 := ZF.out 2
  have f3 := ZF.out 3
  have f4 := ZF.out 4
  have f5 := ZF.out 5
  go_wp2_with fail
  obtain ⟨x0, x1, x2, x3, x4, x5⟩ := cells6 z0 z1 z2 z3 z4 z5 (.int .i64 0) (.int .i64 0) (.slice none 0 0) (.int .i64 0) (.int .i64 0) (.slice none 0 0)
  exact bodyPost_ret (v := .tuple #[zeroA, .int .i64 1]) (by simp [results, Try.results7, go_sem, zeroA, x0, x1, x2, x3, x4, x5, z0, z1, z2, z3, z4, z5]) rfl ⟨rfl, below6 (HBw.out.trans (HB1.out.mono HBw.out.size)) (by omega) _ _ _ _ _ _⟩

set_option maxRecDepth 100000 in
set_option maxHeartbeats 8000000 in
theorem fill_kind (p S : Nat) (Kd M : Int) (A E : Option Addr) (n c ne ce : Nat) (st : List Int) (es : List Ed) (w : World) (ha : Ints w A n st) (hn : n ≤ 17592186044416) (hp : p ≤ 6) (hS : S ≤ 3000) (he : EdgesAt w E ne es) (hne : ne ≤ 40000)
    (hv : autB p S Kd M st es = true) (hcl : clashB p es ne = true ∨ (clashB p es ne = false ∧ 1 < n)) (hfr : ∀ j, j < ne → ∃ f : Nat, (es.getD j ed0).f = (f : Int) ∧ f < S) :
    Calls Try.prog 7 #[.agg #[.int .i64 p, .int .i64 S, .slice A n c, .int .i64 Kd, .int .i64 M, .slice E ne ce]] w fun e w' => e = .returned (.tuple #[zeroA, .int .i64 7]) ∧ Below w.heap.size w w' := by
  obtain ⟨W0, hW0⟩ : ∃ W0, ((w.alloc (.cells #[.int .i64 p, .int .i64 S, .slice A n c, .int .i64 Kd, .int .i64 M, .slice E ne ce] 25)).alloc (.cells #[.int .i64 0, .int .i64 0, .slice none 0 0, .int .i64 0, .int .i64 0, .slice none 0 0] 25)) = W0 := ⟨_, rfl⟩
  have HXB := Lib.hid (Box6.new w p S A n c Kd M E ne ce 25)
  have HBw := Lib.hid (show Below w.heap.size w W0 by rw [← hW0]; exact ((Below.refl _ _).alloc (Nat.le_refl _) _).alloc (by simp) _)
  have HBX := Lib.hid (show Box6 W0 w.heap.size p S A n c Kd M E ne ce by rw [← hW0]; exact HXB.out.below ((Below.refl _ _).alloc (Nat.le_refl _) _))
  have HZZ := Lib.hid (show W0.heap.size = w.heap.size + 2 by rw [← hW0]; simp)
  have HRF := Lib.hid (show ∀ i, W0.frozen? ⟨w.heap.size + 1, i, none⟩ = false by intro i; rw [← hW0]; simp)
  have HRC := Lib.hid (show ∀ i, W0.cell? ⟨w.heap.size + 1, i, none⟩ = #[Value.int .i64 0, .int .i64 0, .slice none 0 0, .int .i64 0, .int .i64 0, .slice none 0 0][i]? by intro i; rw [← hW0]; have h := box_last (w.alloc (.cells #[.int .i64 p, .int .i64 S, .slice A n c, .int .i64 Kd, .int .i64 M, .slice E ne ce] 25)) #[.int .i64 0, .int .i64 0, .slice none 0 0, .int .i64 0, .int .i64 0, .slice none 0 0] 25 i; rw [World.size_alloc] at h; exact h)
  have HV := Lib.hid (fun W (hW : Below W0.heap.size W0 W) => by
    have h := autValid_any p S Kd M A E n c ne ce st es W ((ha.below HBw.out).below hW) hn ((he.below HBw.out).below hW) (by omega)
    rw [hv] at h
    exact h)
  have HL := Lib.hid (fun W (hW : Below W0.heap.size W0 W) => lettersOf_any p S Kd M A E n c ne ce es W ((he.below HBw.out).below hW) hp hS hne hfr)
  clear ha he hv hfr
  go_enter Try.func7, Try.ntmps7
  obtain ⟨hz0, p0, p1, p2, p3, p4, p5⟩ := HBX.out
  go_wp2_with fail
  refine (HV.out _ (Below.refl _ _)).mono ?_
  rintro e w1 ⟨rfl, hb1⟩
  have HB1 := Lib.hid hb1
  clear hb1 p0 p1 p2 p3 p4 p5 hz0
  obtain ⟨hz0, p0, p1, p2, p3, p4, p5⟩ := HBX.out.below HB1.out
  go_wp2_with fail
  refine (HL.out _ HB1.out).mono ?_
  rintro e w2 ⟨b, rfl, hr, hbb, hb2⟩
  have HB2 := Lib.hid (HB1.out.trans (hb2.mono HB1.out.size))
  clear hb2 hr hbb p0 p1 p2 p3 p4 p5 hz0
  obtain ⟨hz0, p0, p1, p2, p3, p4, p5⟩ := HBX.out.below HB2.out
  have hz1 : w.heap.size + 1 < w2.heap.size := by have := HB2.out.size; have := HZZ.out; omega
  have hzw : w.heap.size + 1 < W0.heap.size := by have := HZZ.out; omega
  have zc := fun i => (HB2.out.cell (p := ⟨w.heap.size + 1, i, none⟩) hzw).trans (HRC.out i)
  have zf := fun i => (HB2.out.frozen (p := ⟨w.heap.size + 1, i, none⟩) hzw).trans (HRF.out i)
  have ZC := Lib.hid zc
  have ZF := Lib.hid zf
  clear zc zf
  have z0 : w2.cell? ⟨w.heap.size + 1, 0, none⟩ = some (.int .i64 0) := ZC.out 0
  have z1 : w2.cell? ⟨w.heap.size + 1, 1, none⟩ = some (.int .i64 0) := ZC.out 1
  have z2 : w2.cell? ⟨w.heap.size + 1, 2, none⟩ = some (.slice none 0 0) := ZC.out 2
  have z3 : w2.cell? ⟨w.heap.size + 1, 3, none⟩ = some (.int .i64 0) := ZC.out 3
  have z4 : w2.cell? ⟨w.heap.size + 1, 4, none⟩ = some (.int .i64 0) := ZC.out 4
  have z5 : w2.cell? ⟨w.heap.size + 1, 5, none⟩ = some (.slice none 0 0) := ZC.out 5
  have f0 := ZF.out 0
  have f1 := ZF.out 1
  have f2 := ZF.out 2
  have f3 := ZF.out 3
  have f4 := ZF.out 4
  have f5 := ZF.out 5
  rcases hcl with hcl | ⟨hcl, hn1⟩
  · rw [hcl]
    go_wp2_with fail
    obtain ⟨x0, x1, x2, x3, x4, x5⟩ := cells6 z0 z1 z2 z3 z4 z5 (.int .i64 0) (.int .i64 0) (.slice none 0 0) (.int .i64 0) (.int .i64 0) (.slice none 0 0)
    exact bodyPost_ret (v := .tuple #[zeroA, .int .i64 7]) (by simp [results, Try.results7, go_sem, zeroA, x0, x1, x2, x3, x4, x5, z0, z1, z2, z3, z4, z5]) rfl ⟨rfl, below6 (HBw.out.trans (HB2.out.mono HBw.out.size)) (by omega) _ _ _ _ _ _⟩
  · have hn2 : (1 : Int) < (n : Int) := by omega
    rw [hcl]
    clear hn1
    go_wp2_with fail
    obtain ⟨x0, x1, x2, x3, x4, x5⟩ := cells6 z0 z1 z2 z3 z4 z5 (.int .i64 0) (.int .i64 0) (.slice none 0 0) (.int .i64 0) (.int .i64 0) (.slice none 0 0)
    exact bodyPost_ret (v := .tuple #[zeroA, .int .i64 7]) (by simp [results, Try.results7, go_sem, zeroA, x0, x1, x2, x3, x4, x5, z0, z1, z2, z3, z4, z5]) rfl ⟨rfl, below6 (HBw.out.trans (HB2.out.mono HBw.out.size)) (by omega) _ _ _ _ _ _⟩

end Go.Proofs.Ytalgbcndifaaiaa.Wd

namespace Go.Proofs.Ytalgbcndifaaiaa.Wd
open Go.RowKit
set_option linter.unusedVariables false
set_option linter.unusedSimpArgs false

set_option maxRecDepth 100000 in
set_option maxHeartbeats 8000000 in
theorem fill_none (p S : Nat) (Kd M : Int) (A E : Option Addr) (c ne ce : Nat) (st : List Int) (es : List Ed) (w : World) (hp : p ≤ 6) (hS : S ≤ 3000) (h0 : 0 ≤ Kd) (h5 : Kd ≤ 5) (hM0 : 0 ≤ M) (hM4 : M ≤ 40) (ha : Ints w A 0 st) (he : EdgesAt w E ne es) (hne : ne ≤ 40000)
    (hv : autB p S Kd M st es = true) (hcl : clashB p es ne = false) (hfr : ∀ j, j < ne → ∃ f : Nat, (es.getD j ed0).f = (f : Int) ∧ f < S) :
    Calls Try.prog 7 #[.agg #[.int .i64 p, .int .i64 S, .slice A 0 c, .int .i64 Kd, .int .i64 M, .slice E ne ce]] w fun e w' =>
      ((S = 3000 ∨ 40000 < (fillL p S Kd M es).length) ∧ e = .returned (.tuple #[zeroA, .int .i64 3]) ∧ Below w.heap.size w w') ∨
      (S < 3000 ∧ (fillL p S Kd M es).length ≤ 40000 ∧ (∃ A1 n1 c1 A2 c2, e = .returned (.tuple #[.agg #[.int .i64 p, .int .i64 ((S : Int) + 1), .slice A1 n1 c1, .int .i64 Kd, .int .i64 (M + addF Kd M), .slice A2 (fillL p S Kd M es).length c2], .int .i64 0]) ∧
        Ints w' A1 n1 [(S : Int)] ∧ EdgesAt w' A2 (fillL p S Kd M es).length (fillL p S Kd M es)) ∧ Below w.heap.size w w') := by
  obtain ⟨W0, hW0⟩ : ∃ W0, ((w.alloc (.cells #[.int .i64 p, .int .i64 S, .slice A 0 c, .int .i64 Kd, .int .i64 M, .slice E ne ce] 25)).alloc (.cells #[.int .i64 0, .int .i64 0, .slice none 0 0, .int .i64 0, .int .i64 0, .slice none 0 0] 25)) = W0 := ⟨_, rfl⟩
  have HXB := Lib.hid (Box6.new w p S A 0 c Kd M E ne ce 25)
  have HBw := Lib.hid (show Below w.heap.size w W0 by rw [← hW0]; exact ((Below.refl _ _).alloc (Nat.le_refl _) _).alloc (by simp) _)
  have HBX := Lib.hid (show Box6 W0 w.heap.size p S A 0 c Kd M E ne ce by rw [← hW0]; exact HXB.out.below ((Below.refl _ _).alloc (Nat.le_refl _) _))
  have HZZ := Lib.hid (show W0.heap.size = w.heap.size + 2 by rw [← hW0]; simp)
  have HRF := Lib.hid (show ∀ i, W0.frozen? ⟨w.heap.size + 1, i, none⟩ = false by intro i; rw [← hW0]; simp)
  have HRC := Lib.hid (show ∀ i, W0.cell? ⟨w.heap.size + 1, i, none⟩ = #[Value.int .i64 0, .int .i64 0, .slice none 0 0, .int .i64 0, .int .i64 0, .slice none 0 0][i]? by intro i; rw [← hW0]; have h := box_last (w.alloc (.cells #[.int .i64 p, .int .i64 S, .slice A 0 c, .int .i64 Kd, .int .i64 M, .slice E ne ce] 25)) #[.int .i64 0, .int .i64 0, .slice none 0 0, .int .i64 0, .int .i64 0, .slice none 0 0] 25 i; rw [World.size_alloc] at h; exact h)
  have HV := Lib.hid (fun W (hW : Below W0.heap.size W0 W) => by
    have h := autValid_any p S Kd M A E 0 c ne ce st es W ((ha.below HBw.out).below hW) (by omega) ((he.below HBw.out).below hW) (by omega)
    rw [hv] at h
    exact h)
  have HL := Lib.hid (fun W (hW : Below W0.heap.size W0 W) => by
    have h := lettersOf_any p S Kd M A E 0 c ne ce es W ((he.below HBw.out).below hW) hp hS hne hfr
    rw [hcl] at h
    exact h)
  have HSK := Lib.hid (show ∀ (b : Nat) (W : World), S ≤ 2999 → Below W0.heap.size W0 W → W.rowIs b 78 S (fun s => .int .u64 (setsN p es ne s)) → W0.heap.size ≤ b →
      Calls Try.prog 23 #[.agg #[.int .i64 p, .int .i64 S, .slice A 0 c, .int .i64 Kd, .int .i64 M, .slice E ne ce], .slice (some ⟨b, 0, none⟩) S S] W fun e w' => ∃ A1 n1 c1 A2 c2 m, e = .returned (.agg #[.int .i64 p, .int .i64 ((S : Int) + 1), .slice A1 n1 c1, .int .i64 Kd, .int .i64 (M + addF Kd M), .slice A2 m c2]) ∧
        w'.ownsRow W.heap.size 3 1 (.slice A1 n1 c1) n1 ([(S : Int)].map (Value.int .i64)) ∧ w'.ownsRow W.heap.size 37 5 (.slice A2 m c2) m (edsV (fillL p S Kd M es)) ∧ (fillL p S Kd M es).length = m ∧ Below W0.heap.size W w' from fun b W hS2 hW hr hb => by
    have h := sink_any p S b W0.heap.size Kd M A E 0 c ne ce st es (setsN p es ne) W hp hS2 h0 h5 hM0 hM4 ((ha.below HBw.out).below hW) (by omega) ((he.below HBw.out).below hW) hne hr hb (fun s => setsN_lt hp es ne s)
    unfold fillL
    rw [he.1]
    exact h)
  have HEL := Lib.hid he.1
  clear ha he hv hcl hfr
  have hS0 : (0 : Int) ≤ (S : Int) := by omega
  have hS1 : (S : Int) ≤ 3000 := by omega
  go_enter Try.func7, Try.ntmps7
  obtain ⟨hz0, p0, p1, p2, p3, p4, p5⟩ := HBX.out
  go_wp2_with fail
  refine (HV.out _ (Below.refl _ _)).mono ?_
  rintro e w1 ⟨rfl, hb1⟩
  have HB1 := Lib.hid hb1
  clear hb1 p0 p1 p2 p3 p4 p5 hz0
  obtain ⟨hz0, p0, p1, p2, p3, p4, p5⟩ := HBX.out.below HB1.out
  go_wp2_with fail
  refine (HL.out _ HB1.out).mono ?_
  rintro e w2 ⟨b, rfl, hr, hbb, hb2⟩
  have HB2 := Lib.hid (HB1.out.trans (hb2.mono HB1.out.size))
  have HR2 := Lib.hid hr
  have HBB := Lib.hid (Nat.le_trans HB1.out.size hbb)
  clear hb2 hr hbb p0 p1 p2 p3 p4 p5 hz0
  obtain ⟨hz0, p0, p1, p2, p3, p4, p5⟩ := HBX.out.below HB2.out
  obtain ⟨w3, rfl⟩ : ∃ w3, w3 = w2 := ⟨_, rfl⟩
  have HB3 := HB2
  have HR3 := HR2
  have hz1 : w.heap.size + 1 < w3.heap.size := by have := HB3.out.size; have := HZZ.out; omega
  have hzw : w.heap.size + 1 < W0.heap.size := by have := HZZ.out; omega
  have zc := fun i => (HB3.out.cell (p := ⟨w.heap.size + 1, i, none⟩) hzw).trans (HRC.out i)
  have zf := fun i => (HB3.out.frozen (p := ⟨w.heap.size + 1, i, none⟩) hzw).trans (HRF.out i)
  have ZC := Lib.hid zc
  have ZF := Lib.hid zf
  clear zc zf
  by_cases hS3 : S = 3000
  · have hSI : (S : Int) = 3000 := by omega
    obtain ⟨z0, z1, z2, z3, z4, z5⟩ : w3.cell? ⟨w.heap.size + 1, 0, none⟩ = some (.int .i64 0) ∧ w3.cell? ⟨w.heap.size + 1, 1, none⟩ = some (.int .i64 0) ∧ w3.cell? ⟨w.heap.size + 1, 2, none⟩ = some (.slice none 0 0) ∧ w3.cell? ⟨w.heap.size + 1, 3, none⟩ = some (.int .i64 0) ∧ w3.cell? ⟨w.heap.size + 1, 4, none⟩ = some (.int .i64 0) ∧ w3.cell? ⟨w.heap.size + 1, 5, none⟩ = some (.slice none 0 0) := ⟨ZC.out 0, ZC.out 1, ZC.out 2, ZC.out 3, ZC.out 4, ZC.out 5⟩
    have f0 := ZF.out 0
    have f1 := ZF.out 1
    have f2 := ZF.out 2
    have f3 := ZF.out 3
    have f4 := ZF.out 4
    have f5 := ZF.out 5
    have HX := Lib.hid (show S = 3000 from hS3)
    subst hS3
    clear hSI
    go_wp2_with fail
    obtain ⟨x0, x1, x2, x3, x4, x5⟩ := cells6 z0 z1 z2 z3 z4 z5 (.int .i64 0) (.int .i64 0) (.slice none 0 0) (.int .i64 0) (.int .i64 0) (.slice none 0 0)
    exact bodyPost_ret (v := .tuple #[zeroA, .int .i64 3]) (by simp [results, Try.results7, go_sem, zeroA, x0, x1, x2, x3, x4, x5, z0, z1, z2, z3, z4, z5]) rfl ⟨rfl, below6 (HBw.out.trans (HB3.out.mono HBw.out.size)) (by omega) _ _ _ _ _ _⟩
  · have hSI : (S : Int) < 3000 := by omega
    have hSE : ((S : Int) == 3000) = false := by simp; omega
    go_wp2_with fail
    refine (HSK.out b _ (by omega) HB3.out HR3.out HBB.out).mono ?_
    rintro e w4 ⟨A1, n1, c1, A2, c2, m, rfl, hI, hE, hlm, hb4⟩
    have HI := Lib.hid hI
    have HE := Lib.hid hE
    have HLM := Lib.hid hlm
    have HB4 := Lib.hid (show Below W0.heap.size W0 w4 from HB3.out.trans hb4)
    have HB5 := Lib.hid (HB4.out.alloc HB4.out.size (.cells #[.int .i64 p, .int .i64 ((S : Int) + 1), .slice A1 n1 c1, .int .i64 Kd, .int .i64 (M + addF Kd M), .slice A2 m c2] 25))
    have HBN := Lib.hid ((Below.refl w4.heap.size w4).alloc (Nat.le_refl _) (.cells #[.int .i64 p, .int .i64 ((S : Int) + 1), .slice A1 n1 c1, .int .i64 Kd, .int .i64 (M + addF Kd M), .slice A2 m c2] 25))
    obtain ⟨z0, z1, z2, z3, z4, z5⟩ : (w4.alloc (.cells #[.int .i64 p, .int .i64 ((S : Int) + 1), .slice A1 n1 c1, .int .i64 Kd, .int .i64 (M + addF Kd M), .slice A2 m c2] 25)).cell? ⟨w.heap.size + 1, 0, none⟩ = some (.int .i64 0) ∧ (w4.alloc (.cells #[.int .i64 p, .int .i64 ((S : Int) + 1), .slice A1 n1 c1, .int .i64 Kd, .int .i64 (M + addF Kd M), .slice A2 m c2] 25)).cell? ⟨w.heap.size + 1, 1, none⟩ = some (.int .i64 0) ∧ (w4.alloc (.cells #[.int .i64 p, .int .i64 ((S : Int) + 1), .slice A1 n1 c1, .int .i64 Kd, .int .i64 (M + addF Kd M), .slice A2 m c2] 25)).cell? ⟨w.heap.size + 1, 2, none⟩ = some (.slice none 0 0) ∧ (w4.alloc (.cells #[.int .i64 p, .int .i64 ((S : Int) + 1), .slice A1 n1 c1, .int .i64 Kd, .int .i64 (M + addF Kd M), .slice A2 m c2] 25)).cell? ⟨w.heap.size + 1, 3, none⟩ = some (.int .i64 0) ∧ (w4.alloc (.cells #[.int .i64 p, .int .i64 ((S : Int) + 1), .slice A1 n1 c1, .int .i64 Kd, .int .i64 (M + addF Kd M), .slice A2 m c2] 25)).cell? ⟨w.heap.size + 1, 4, none⟩ = some (.int .i64 0) ∧ (w4.alloc (.cells #[.int .i64 p, .int .i64 ((S : Int) + 1), .slice A1 n1 c1, .int .i64 Kd, .int .i64 (M + addF Kd M), .slice A2 m c2] 25)).cell? ⟨w.heap.size + 1, 5, none⟩ = some (.slice none 0 0) := by
      have k := fun i => (HB5.out.cell (p := ⟨w.heap.size + 1, i, none⟩) hzw).trans (HRC.out i)
      exact ⟨k 0, k 1, k 2, k 3, k 4, k 5⟩
    have y0 : w4.cell? ⟨w.heap.size + 1, 0, none⟩ = some (.int .i64 0) := (HB4.out.cell (p := ⟨w.heap.size + 1, 0, none⟩) hzw).trans (HRC.out 0)
    have y1 : w4.cell? ⟨w.heap.size + 1, 1, none⟩ = some (.int .i64 0) := (HB4.out.cell (p := ⟨w.heap.size + 1, 1, none⟩) hzw).trans (HRC.out 1)
    have y2 : w4.cell? ⟨w.heap.size + 1, 2, none⟩ = some (.slice none 0 0) := (HB4.out.cell (p := ⟨w.heap.size + 1, 2, none⟩) hzw).trans (HRC.out 2)
    have y3 : w4.cell? ⟨w.heap.size + 1, 3, none⟩ = some (.int .i64 0) := (HB4.out.cell (p := ⟨w.heap.size + 1, 3, none⟩) hzw).trans (HRC.out 3)
    have y4 : w4.cell? ⟨w.heap.size + 1, 4, none⟩ = some (.int .i64 0) := (HB4.out.cell (p := ⟨w.heap.size + 1, 4, none⟩) hzw).trans (HRC.out 4)
    have y5 : w4.cell? ⟨w.heap.size + 1, 5, none⟩ = some (.slice none 0 0) := (HB4.out.cell (p := ⟨w.heap.size + 1, 5, none⟩) hzw).trans (HRC.out 5)
    have f0 : w4.frozen? ⟨w.heap.size + 1, 0, none⟩ = false := (HB4.out.frozen (p := ⟨w.heap.size + 1, 0, none⟩) hzw).trans (HRF.out 0)
    have f1 : w4.frozen? ⟨w.heap.size + 1, 1, none⟩ = false := (HB4.out.frozen (p := ⟨w.heap.size + 1, 1, none⟩) hzw).trans (HRF.out 1)
    have f2 : w4.frozen? ⟨w.heap.size + 1, 2, none⟩ = false := (HB4.out.frozen (p := ⟨w.heap.size + 1, 2, none⟩) hzw).trans (HRF.out 2)
    have f3 : w4.frozen? ⟨w.heap.size + 1, 3, none⟩ = false := (HB4.out.frozen (p := ⟨w.heap.size + 1, 3, none⟩) hzw).trans (HRF.out 3)
    have f4 : w4.frozen? ⟨w.heap.size + 1, 4, none⟩ = false := (HB4.out.frozen (p := ⟨w.heap.size + 1, 4, none⟩) hzw).trans (HRF.out 4)
    have f5 : w4.frozen? ⟨w.heap.size + 1, 5, none⟩ = false := (HB4.out.frozen (p := ⟨w.heap.size + 1, 5, none⟩) hzw).trans (HRF.out 5)
    have hz4 : w.heap.size + 1 < w4.heap.size := by have := HB4.out.size; omega
    have hz40 : w.heap.size < w4.heap.size := by omega
    have HZ := Lib.hid (⟨z0, z1, z2, z3, z4, z5⟩ : _ ∧ _ ∧ _ ∧ _ ∧ _ ∧ _)
    clear hI hE hlm hb4 z0 z1 z2 z3 z4 z5
    by_cases hm : 40000 < m
    · have hmi : (40000 : Int) < (m : Int) := by omega
      have HMM := Lib.hid hm
      clear hm
      go_wp2_with fail
      obtain ⟨x0, x1, x2, x3, x4, x5⟩ := cells6 y0 y1 y2 y3 y4 y5 (.int .i64 0) (.int .i64 0) (.slice none 0 0) (.int .i64 0) (.int .i64 0) (.slice none 0 0)
      have hlast := fun i => ((Below.refl _ ((((((w4.setCell ⟨w.heap.size + 1, 0, none⟩ (.int .i64 0)).setCell ⟨w.heap.size + 1, 1, none⟩ (.int .i64 0)).setCell ⟨w.heap.size + 1, 2, none⟩ (.slice none 0 0)).setCell ⟨w.heap.size + 1, 3, none⟩ (.int .i64 0)).setCell ⟨w.heap.size + 1, 4, none⟩ (.int .i64 0)).setCell ⟨w.heap.size + 1, 5, none⟩ (.slice none 0 0))).alloc (Nat.le_refl _) (.cells #[.int .i64 p, .int .i64 ((S : Int) + 1), .slice A1 n1 c1, .int .i64 Kd, .int .i64 (M + addF Kd M), .slice A2 m c2] 25)).cell (p := ⟨w.heap.size + 1, i, none⟩) (by simp; omega)
      have u0 := (hlast 0).trans x0
      have u1 := (hlast 1).trans x1
      have u2 := (hlast 2).trans x2
      have u3 := (hlast 3).trans x3
      have u4 := (hlast 4).trans x4
      have u5 := (hlast 5).trans x5
      have HU := Lib.hid hlast
      clear hlast
      refine bodyPost_ret (v := .tuple #[zeroA, .int .i64 3]) (by simp [results, Try.results7, go_sem, zeroA, u0, u1, u2, u3, u4, u5, x0, x1, x2, x3, x4, x5, y0, y1, y2, y3, y4, y5]) rfl ?_
      exact .inl ⟨.inr (by rw [HLM.out]; exact HMM.out), rfl, (below6 (HBw.out.trans (HB4.out.mono HBw.out.size)) (by omega) _ _ _ _ _ _).alloc (by have := HBw.out.size; simp; omega) _⟩
    · have hmi : (m : Int) ≤ 40000 := by omega
      have HMM := Lib.hid hm
      clear hm
      go_wp2_with fail
      obtain ⟨x0, x1, x2, x3, x4, x5⟩ := cells6 y0 y1 y2 y3 y4 y5 (.int .i64 p) (.int .i64 ((S : Int) + 1)) (.slice A1 n1 c1) (.int .i64 Kd) (.int .i64 (M + addF Kd M)) (.slice A2 m c2)
      have hlast := fun i => ((Below.refl _ ((((((w4.setCell ⟨w.heap.size + 1, 0, none⟩ (.int .i64 p)).setCell ⟨w.heap.size + 1, 1, none⟩ (.int .i64 ((S : Int) + 1))).setCell ⟨w.heap.size + 1, 2, none⟩ (.slice A1 n1 c1)).setCell ⟨w.heap.size + 1, 3, none⟩ (.int .i64 Kd)).setCell ⟨w.heap.size + 1, 4, none⟩ (.int .i64 (M + addF Kd M))).setCell ⟨w.heap.size + 1, 5, none⟩ (.slice A2 m c2))).alloc (Nat.le_refl _) (.cells #[.int .i64 p, .int .i64 ((S : Int) + 1), .slice A1 n1 c1, .int .i64 Kd, .int .i64 (M + addF Kd M), .slice A2 m c2] 25)).cell (p := ⟨w.heap.size + 1, i, none⟩) (by simp; omega)
      have u0 := (hlast 0).trans x0
      have u1 := (hlast 1).trans x1
      have u2 := (hlast 2).trans x2
      have u3 := (hlast 3).trans x3
      have u4 := (hlast 4).trans x4
      have u5 := (hlast 5).trans x5
      have HU := Lib.hid hlast
      clear hlast
      refine bodyPost_ret (v := .tuple #[.agg #[.int .i64 p, .int .i64 ((S : Int) + 1), .slice A1 n1 c1, .int .i64 Kd, .int .i64 (M + addF Kd M), .slice A2 m c2], .int .i64 0]) (by simp [results, Try.results7, go_sem, zeroA, u0, u1, u2, u3, u4, u5, x0, x1, x2, x3, x4, x5, y0, y1, y2, y3, y4, y5]) rfl ?_
      have hq : w.heap.size + 1 < w3.heap.size := hz1
      exact .inr ⟨by omega, by rw [HLM.out]; exact Nat.not_lt.1 HMM.out, ⟨A1, n1, c1, A2, c2, by rw [HLM.out], Ints.of_own ((own6 HI.out hq _ _ _ _ _ _).alloc _), by rw [HLM.out]; exact EdgesAt.of_own ((own6 HE.out hq _ _ _ _ _ _).alloc _) HLM.out⟩, (below6 (HBw.out.trans (HB4.out.mono HBw.out.size)) (by omega) _ _ _ _ _ _).alloc (by have := HBw.out.size; simp; omega) _⟩

set_option maxRecDepth 100000 in
set_option maxHeartbeats 8000000 in
theorem fill_full (p S : Nat) (Kd M : Int) (A E : Option Addr) (c ne ce : Nat) (st : List Int) (es : List Ed) (w : World) (hp : p ≤ 6) (hS : S ≤ 3000) (ha : Ints w A 1 st) (he : EdgesAt w E ne es) (hne : ne ≤ 40000)
    (hv : autB p S Kd M st es = true) (hcl : clashB p es ne = false) (hfu : fullB p es S = true) (hfr : ∀ j, j < ne → ∃ f : Nat, (es.getD j ed0).f = (f : Int) ∧ f < S) :
    Calls Try.prog 7 #[.agg #[.int .i64 p, .int .i64 S, .slice A 1 c, .int .i64 Kd, .int .i64 M, .slice E ne ce]] w fun e w' =>
      ∃ A1 c1 A2 c2, e = .returned (.tuple #[.agg #[.int .i64 p, .int .i64 S, .slice A1 1 c1, .int .i64 Kd, .int .i64 M, .slice A2 ne c2], .int .i64 0]) ∧ Ints w' A1 1 st ∧ EdgesAt w' A2 ne es ∧ Below w.heap.size w w' := by
  obtain ⟨W0, hW0⟩ : ∃ W0, ((w.alloc (.cells #[.int .i64 p, .int .i64 S, .slice A 1 c, .int .i64 Kd, .int .i64 M, .slice E ne ce] 25)).alloc (.cells #[.int .i64 0, .int .i64 0, .slice none 0 0, .int .i64 0, .int .i64 0, .slice none 0 0] 25)) = W0 := ⟨_, rfl⟩
  have HXB := Lib.hid (Box6.new w p S A 1 c Kd M E ne ce 25)
  have HBw := Lib.hid (show Below w.heap.size w W0 by rw [← hW0]; exact ((Below.refl _ _).alloc (Nat.le_refl _) _).alloc (by simp) _)
  have HBX := Lib.hid (show Box6 W0 w.heap.size p S A 1 c Kd M E ne ce by rw [← hW0]; exact HXB.out.below ((Below.refl _ _).alloc (Nat.le_refl _) _))
  have HZZ := Lib.hid (show W0.heap.size = w.heap.size + 2 by rw [← hW0]; simp)
  have HRF := Lib.hid (show ∀ i, W0.frozen? ⟨w.heap.size + 1, i, none⟩ = false by intro i; rw [← hW0]; simp)
  have HRC := Lib.hid (show ∀ i, W0.cell? ⟨w.heap.size + 1, i, none⟩ = #[Value.int .i64 0, .int .i64 0, .slice none 0 0, .int .i64 0, .int .i64 0, .slice none 0 0][i]? by intro i; rw [← hW0]; have h := box_last (w.alloc (.cells #[.int .i64 p, .int .i64 S, .slice A 1 c, .int .i64 Kd, .int .i64 M, .slice E ne ce] 25)) #[.int .i64 0, .int .i64 0, .slice none 0 0, .int .i64 0, .int .i64 0, .slice none 0 0] 25 i; rw [World.size_alloc] at h; exact h)
  have HV := Lib.hid (fun W (hW : Below W0.heap.size W0 W) => by
    have h := autValid_any p S Kd M A E 1 c ne ce st es W ((ha.below HBw.out).below hW) (by omega) ((he.below HBw.out).below hW) (by omega)
    rw [hv] at h
    exact h)
  have HL := Lib.hid (fun W (hW : Below W0.heap.size W0 W) => by
    have h := lettersOf_any p S Kd M A E 1 c ne ce es W ((he.below HBw.out).below hW) hp hS hne hfr
    rw [hcl] at h
    exact h)
  have HF := Lib.hid (show ∀ (b : Nat) (W : World), W.rowIs b 78 S (fun s => .int .u64 (setsN p es ne s)) → Calls Try.prog 21 #[.slice (some ⟨b, 0, none⟩) S S, .int .i64 p] W fun r w' => r = .returned (.bool true) ∧ Below W.heap.size W w' from fun b W hr => by
    have h := allFull_any p S b es W hp hS (by rw [he.1]; exact hr)
    rw [hfu] at h
    exact h)
  have HCP := Lib.hid (fun W (hW : Below W0.heap.size W0 W) => copied_any p S Kd M A E 1 c ne ce st es W ((ha.below HBw.out).below hW) (by omega) ((he.below HBw.out).below hW) (by omega))
  have HEL := Lib.hid he.1
  clear ha he hv hcl hfu hfr
  have hS0 : (0 : Int) ≤ (S : Int) := by omega
  have hS1 : (S : Int) ≤ 3000 := by omega
  go_enter Try.func7, Try.ntmps7
  obtain ⟨hz0, p0, p1, p2, p3, p4, p5⟩ := HBX.out
  go_wp2_with fail
  refine (HV.out _ (Below.refl _ _)).mono ?_
  rintro e w1 ⟨rfl, hb1⟩
  have HB1 := Lib.hid hb1
  clear hb1 p0 p1 p2 p3 p4 p5 hz0
  obtain ⟨hz0, p0, p1, p2, p3, p4, p5⟩ := HBX.out.below HB1.out
  go_wp2_with fail
  refine (HL.out _ HB1.out).mono ?_
  rintro e w2 ⟨b, rfl, hr, hbb, hb2⟩
  have HB2 := Lib.hid (HB1.out.trans (hb2.mono HB1.out.size))
  have HR2 := Lib.hid hr
  have HBB := Lib.hid (Nat.le_trans HB1.out.size hbb)
  clear hb2 hr hbb p0 p1 p2 p3 p4 p5 hz0
  obtain ⟨hz0, p0, p1, p2, p3, p4, p5⟩ := HBX.out.below HB2.out
  go_wp2_with fail
  refine (HF.out _ _ HR2.out).mono ?_
  rintro e w3 ⟨rfl, hb3⟩
  have HB3 := Lib.hid (HB2.out.trans (hb3.mono HB2.out.size))
  have HR3 := Lib.hid (HR2.out.of_block (hb3.block b HR2.out.lt))
  clear hb3 p0 p1 p2 p3 p4 p5 hz0
  obtain ⟨hz0, p0, p1, p2, p3, p4, p5⟩ := HBX.out.below HB3.out
  have hz1 : w.heap.size + 1 < w3.heap.size := by have := HB3.out.size; have := HZZ.out; omega
  have hzw : w.heap.size + 1 < W0.heap.size := by have := HZZ.out; omega
  have zc := fun i => (HB3.out.cell (p := ⟨w.heap.size + 1, i, none⟩) hzw).trans (HRC.out i)
  have zf := fun i => (HB3.out.frozen (p := ⟨w.heap.size + 1, i, none⟩) hzw).trans (HRF.out i)
  have ZC := Lib.hid zc
  have ZF := Lib.hid zf
  clear zc zf
  go_wp2_with fail
  refine (HCP.out _ HB3.out).mono ?_
  rintro e w4 ⟨A1, c1, A2, c2, rfl, o1, o2, hap, hb4⟩
  have HI := Lib.hid o1
  have HE := Lib.hid o2
  have HB4 := Lib.hid (HB3.out.trans (hb4.mono HB3.out.size))
  clear o1 o2 hap
  have y0 : w4.cell? ⟨w.heap.size + 1, 0, none⟩ = some (.int .i64 0) := (HB4.out.cell (p := ⟨w.heap.size + 1, 0, none⟩) hzw).trans (HRC.out 0)
  have y1 : w4.cell? ⟨w.heap.size + 1, 1, none⟩ = some (.int .i64 0) := (HB4.out.cell (p := ⟨w.heap.size + 1, 1, none⟩) hzw).trans (HRC.out 1)
  have y2 : w4.cell? ⟨w.heap.size + 1, 2, none⟩ = some (.slice none 0 0) := (HB4.out.cell (p := ⟨w.heap.size + 1, 2, none⟩) hzw).trans (HRC.out 2)
  have y3 : w4.cell? ⟨w.heap.size + 1, 3, none⟩ = some (.int .i64 0) := (HB4.out.cell (p := ⟨w.heap.size + 1, 3, none⟩) hzw).trans (HRC.out 3)
  have y4 : w4.cell? ⟨w.heap.size + 1, 4, none⟩ = some (.int .i64 0) := (HB4.out.cell (p := ⟨w.heap.size + 1, 4, none⟩) hzw).trans (HRC.out 4)
  have y5 : w4.cell? ⟨w.heap.size + 1, 5, none⟩ = some (.slice none 0 0) := (HB4.out.cell (p := ⟨w.heap.size + 1, 5, none⟩) hzw).trans (HRC.out 5)
  have f0 : w4.frozen? ⟨w.heap.size + 1, 0, none⟩ = false := (HB4.out.frozen (p := ⟨w.heap.size + 1, 0, none⟩) hzw).trans (HRF.out 0)
  have f1 : w4.frozen? ⟨w.heap.size + 1, 1, none⟩ = false := (HB4.out.frozen (p := ⟨w.heap.size + 1, 1, none⟩) hzw).trans (HRF.out 1)
  have f2 : w4.frozen? ⟨w.heap.size + 1, 2, none⟩ = false := (HB4.out.frozen (p := ⟨w.heap.size + 1, 2, none⟩) hzw).trans (HRF.out 2)
  have f3 : w4.frozen? ⟨w.heap.size + 1, 3, none⟩ = false := (HB4.out.frozen (p := ⟨w.heap.size + 1, 3, none⟩) hzw).trans (HRF.out 3)
  have f4 : w4.frozen? ⟨w.heap.size + 1, 4, none⟩ = false := (HB4.out.frozen (p := ⟨w.heap.size + 1, 4, none⟩) hzw).trans (HRF.out 4)
  have f5 : w4.frozen? ⟨w.heap.size + 1, 5, none⟩ = false := (HB4.out.frozen (p := ⟨w.heap.size + 1, 5, none⟩) hzw).trans (HRF.out 5)
  have hz4 : w.heap.size + 1 < w4.heap.size := by have := HB4.out.size; omega
  have hq : w.heap.size + 1 < w3.heap.size := hz1
  clear hb4
  go_wp2_with fail
  obtain ⟨x0, x1, x2, x3, x4, x5⟩ := cells6 y0 y1 y2 y3 y4 y5 (.int .i64 p) (.int .i64 S) (.slice A1 1 c1) (.int .i64 Kd) (.int .i64 M) (.slice A2 ne c2)
  exact bodyPost_ret (v := .tuple #[.agg #[.int .i64 p, .int .i64 S, .slice A1 1 c1, .int .i64 Kd, .int .i64 M, .slice A2 ne c2], .int .i64 0]) (by simp [results, Try.results7, go_sem, x0, x1, x2, x3, x4, x5, y0, y1, y2, y3, y4, y5]) rfl
    ⟨A1, c1, A2, c2, rfl, Ints.of_own (own6 HI.out hq _ _ _ _ _ _), EdgesAt.of_own (own6 HE.out hq _ _ _ _ _ _) HEL.out, below6 (HBw.out.trans (HB4.out.mono HBw.out.size)) (by omega) _ _ _ _ _ _⟩

end Go.Proofs.Ytalgbcndifaaiaa.Wd

namespace Go.Proofs.Ytalgbcndifaaiaa.Wd
open Go.RowKit
set_option linter.unusedVariables false
set_option linter.unusedSimpArgs false

/-- The edges of state s with the first k letters; those of the first s states. -/
def rowW (c : Int) (G s : Nat) : Nat → List Ed
  | 0 => []
  | k + 1 => rowW c G s k ++ (if 0 < k ∨ s % G ≠ 0 then [⟨s, s, c, k, 0⟩] else [])
def wideL (c : Int) (N G : Nat) : Nat → List Ed
  | 0 => []
  | s + 1 => wideL c N G s ++ rowW c G s N
theorem rowW_len (c : Int) (G s k : Nat) : (rowW c G s k).length ≤ k := by
  induction k with
  | zero => simp [rowW]
  | succ k ih =>
    rw [rowW, List.length_append]
    split <;> simp <;> omega
theorem wideL_len (c : Int) (N G s : Nat) : (wideL c N G s).length ≤ s * N := by
  induction s with
  | zero => simp [wideL]
  | succ s ih =>
    rw [wideL, List.length_append, Nat.succ_mul]
    have := rowW_len c G s N
    omega
theorem rowW_yes {c : Int} {G s k : Nat} (h : 0 < k ∨ s % G ≠ 0) : rowW c G s (k + 1) = rowW c G s k ++ [⟨s, s, c, k, 0⟩] := by rw [rowW, if_pos h]
theorem rowW_no {c : Int} {G s k : Nat} (h : ¬ (0 < k ∨ s % G ≠ 0)) : rowW c G s (k + 1) = rowW c G s k := by rw [rowW, if_neg h, List.append_nil]

structure WwS (h p : Nat) (S K M : Int) (vE : Value) (L : List Ed) (W1 W : World) : Prop where
  b2 : Below (h + 2) W1 W
  hs : h + 3 ≤ W.heap.size
  qc : W.cell? ⟨h + 2, 0, none⟩ = some (.int .i64 p) ∧ W.cell? ⟨h + 2, 1, none⟩ = some (.int .i64 S) ∧ W.cell? ⟨h + 2, 2, none⟩ = some (.slice (some ⟨h + 1, 0, none⟩) 1 1) ∧ W.cell? ⟨h + 2, 3, none⟩ = some (.int .i64 K) ∧ W.cell? ⟨h + 2, 4, none⟩ = some (.int .i64 M) ∧ W.cell? ⟨h + 2, 5, none⟩ = some vE
  qf : ∀ i, W.frozen? ⟨h + 2, i, none⟩ = false
  oE : W.ownsRow (h + 3) 37 5 vE L.length (edsV L)
theorem WwS.below {h p : Nat} {S K M : Int} {vE : Value} {L : List Ed} {W1 W W' : World} (s : WwS h p S K M vE L W1 W) (hb : Below W.heap.size W W') : WwS h p S K M vE L W1 W' := by
  have hs := s.hs
  have hc := fun i => hb.cell (p := ⟨h + 2, i, none⟩) (show h + 2 < W.heap.size by omega)
  obtain ⟨q0, q1, q2, q3, q4, q5⟩ := s.qc
  exact ⟨s.b2.trans (hb.mono (by omega)), Nat.le_trans hs hb.size, ⟨(hc 0).trans q0, (hc 1).trans q1, (hc 2).trans q2, (hc 3).trans q3, (hc 4).trans q4, (hc 5).trans q5⟩, fun i => (hb.frozen (p := ⟨h + 2, i, none⟩) (show h + 2 < W.heap.size by omega)).trans (s.qf i), own_keep s.oE hb⟩
theorem WwS.grow {h p : Nat} {S K M : Int} {vE v' : Value} {L : List Ed} {W1 W W2 : World} {x : Ed} (s : WwS h p S K M vE L W1 W) (ho : W2.ownsRow (h + 3) 37 5 v' (L.length + 1) (edsV L ++ edV x)) (hg : W.grownBy W2 vE.ownBlock) : WwS h p S K M v' (L ++ [x]) W1 (W2.setCell ⟨h + 2, 5, none⟩ v') := by
  have hs := s.hs
  have hb : Below (h + 3) W W2 := below_own s.oE hg hs
  have hc := fun i => hb.cell (p := ⟨h + 2, i, none⟩) (show h + 2 < h + 3 by omega)
  obtain ⟨q0, q1, q2, q3, q4, q5⟩ := s.qc
  have hl : (L ++ [x]).length = L.length + 1 := by simp
  exact ⟨(s.b2.trans (hb.mono (by omega))).setCell (p := ⟨h + 2, 5, none⟩) (Nat.le_refl _) _, by have := hb.size; simp; omega,
    ⟨(set_oth (by decide) _).trans ((hc 0).trans q0), (set_oth (by decide) _).trans ((hc 1).trans q1), (set_oth (by decide) _).trans ((hc 2).trans q2), (set_oth (by decide) _).trans ((hc 3).trans q3), (set_oth (by decide) _).trans ((hc 4).trans q4), World.cell?_setCell_same _ _ _ ((hc 5).trans q5)⟩,
    fun i => by rw [World.frozen?_setCell]; exact (hb.frozen (p := ⟨h + 2, i, none⟩) (show h + 2 < h + 3 by omega)).trans (s.qf i),
    ownsRow_setCell_below (by rw [hl, edsV_snoc]; exact ho) (a := ⟨h + 2, 5, none⟩) (show h + 2 < h + 3 by omega) _⟩
theorem edge_new1 (w : World) (t' : TypeId) (e : Ed) : ∀ j u, (edV e)[j]? = some u → (w.alloc (.cells #[.int .i64 e.f, .int .i64 e.t, .int .i64 e.c, .int .i64 e.b, .int .i64 e.m] t')).cell? ((⟨w.heap.size, 0, none⟩ : Addr).add j) = some u := by
  intro j u hu
  rw [Addr.add_lit, Nat.zero_add, box_last, List.getElem?_toArray]
  exact hu

end Go.Proofs.Ytalgbcndifaaiaa.Wd
