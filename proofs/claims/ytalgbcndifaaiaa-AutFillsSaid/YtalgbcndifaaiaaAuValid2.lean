/-
  Valid of package aut, for all automata.
-/
import Derived.Test.YtalgbcndifaaiaaAuValid
namespace Go.Proofs.Ytalgbcndifaaiaa.Wd
open Go.RowKit
set_option linter.unusedVariables false

set_option maxRecDepth 100000 in
set_option maxHeartbeats 4000000 in
theorem valid_2 (p : Nat) (S M : Int) (A E : Option Addr) (n c ne ce : Nat) (st : List Int) (es : List Ed) (w : World) (hp : p ≤ 6) (hS : 0 ≤ S) (hS2 : S ≤ 3000) (ha : Ints w A n st) (hn : n ≤ 17592186044416) (he : EdgesAt w E ne es) (hne : ne ≤ 17592186044416) :
    Calls Try.prog 19 #[.agg #[.int .i64 p, .int .i64 S, .slice A n c, .int .i64 2, .int .i64 M, .slice E ne ce]] w fun e w' => e = .returned (.bool (autB p S 2 M st es)) ∧ Below w.heap.size w w' := by
  have HM := Lib.hid (show marksB 2 M = decide (M = 1) by unfold marksB; simp)
  have HH := Lib.hid (show headP p S 2 by unfold headP; omega)
  have HX := Lib.hid (Box6.new w p S A n c 2 M E ne ce 25)
  have hp0 : (0 : Int) ≤ (p : Int) := by omega
  have hp6 : (p : Int) ≤ 6 := by omega
  cases hq : marksB 2 M
  · have HF := Lib.hid (autB_marks (P := (p : Int)) (S := S) (st := st) (es := es) hq)
    rw [hq] at HM
    clear hq ha he
    go_enter Try.func19, Try.ntmps19
    go_wp2_with fail
    refine (of_kind2 _).mono ?_
    rintro r w1 ⟨rfl, hb1⟩
    have HX1 := Lib.hid (HX.out.below hb1)
    obtain ⟨hz, p0, p1, p2, p3, p4, p5⟩ := HX1.out
    have HB1 := Lib.hid (show Below w.heap.size w w1 from ((Below.refl _ _).alloc (Nat.le_refl _) _).trans (hb1.mono (by simp)))
    clear hb1
    go_wp2_with fail
    refine (isOne_any M _).mono ?_
    rintro r w2 ⟨rfl, rfl⟩
    rw [← HM.out]
    go_wp2_with fail
    go_ret
    exact ⟨ret_bool HF.out.symm, HB1.out.alloc HB1.out.size _⟩
  · have hm := marksB_few hq
    obtain ⟨m, rfl⟩ := Int.eq_ofNat_of_zero_le hm.1
    have hm40 : m ≤ 40 := by omega
    have HS := Lib.hid (fun W (hW : Below w.heap.size w W) => validStart_any p S 2 m A E n c ne ce st W (ha.below hW) hn)
    have HE := Lib.hid (fun W (hW : Below w.heap.size w W) => validEdges_any p m S 2 A E n c ne ce es W (he.below hW) hp hm40 hne)
    have HT := Lib.hid (fun hs => autB_start (P := (p : Int)) (S := S) (st := st) (es := es) HH.out hq hs)
    have HG := Lib.hid (fun hs => autB_edges (P := (p : Int)) (S := S) (st := st) (es := es) HH.out hq hs)
    rw [hq] at HM
    clear hq ha he hm
    obtain ⟨sb, hsb, HSB⟩ : ∃ sb, startB S st = sb ∧ Hid (startB S st = sb) := ⟨_, rfl, rfl⟩
    rw [hsb] at HS
    clear hsb
    obtain ⟨eb, heb, HEB⟩ : ∃ eb, (decide (es.length ≤ 40000) && edgesB p S m es) = eb ∧ Hid ((decide (es.length ≤ 40000) && edgesB p S m es) = eb) := ⟨_, rfl, rfl⟩
    rw [heb] at HE
    clear heb
    go_enter Try.func19, Try.ntmps19
    go_wp2_with fail
    refine (of_kind2 _).mono ?_
    rintro r w1 ⟨rfl, hb1⟩
    have HX1 := Lib.hid (HX.out.below hb1)
    obtain ⟨hz, p0, p1, p2, p3, p4, p5⟩ := HX1.out
    have HB1 := Lib.hid (show Below w.heap.size w w1 from ((Below.refl _ _).alloc (Nat.le_refl _) _).trans (hb1.mono (by simp)))
    clear hb1
    go_wp2_with fail
    refine (isOne_any (m : Int) _).mono ?_
    rintro r w2 ⟨rfl, rfl⟩
    rw [← HM.out]
    go_wp2_with fail
    refine (HS.out _ (HB1.out.alloc HB1.out.size _)).mono ?_
    rintro r w3 ⟨rfl, hb3⟩
    have HX3 := Lib.hid ((HX1.out.below ((Below.refl _ _).alloc (Nat.le_refl _) _)).below hb3)
    have HB3 := Lib.hid ((HB1.out.alloc HB1.out.size _).trans (hb3.mono (HB1.out.alloc HB1.out.size _).size))
    clear hz p0 p1 p2 p3 p4 p5 hb3
    obtain ⟨hz, p0, p1, p2, p3, p4, p5⟩ := HX3.out
    cases sb
    · have HF := Lib.hid (HT.out HSB.out)
      go_wp2_with fail
      go_ret
      exact ⟨ret_bool HF.out.symm, HB3.out⟩
    · have HF := Lib.hid ((HG.out HSB.out).trans HEB.out)
      go_wp2_with fail
      refine (HE.out _ HB3.out).mono ?_
      rintro r w4 ⟨rfl, hb4⟩
      go_wp2_with fail
      go_ret
      exact ⟨ret_bool HF.out.symm, HB3.out.trans (hb4.mono HB3.out.size)⟩

set_option maxRecDepth 100000 in
set_option maxHeartbeats 4000000 in
theorem valid_3 (p : Nat) (S M : Int) (A E : Option Addr) (n c ne ce : Nat) (st : List Int) (es : List Ed) (w : World) (hp : p ≤ 6) (hS : 0 ≤ S) (hS2 : S ≤ 3000) (ha : Ints w A n st) (hn : n ≤ 17592186044416) (he : EdgesAt w E ne es) (hne : ne ≤ 17592186044416) :
    Calls Try.prog 19 #[.agg #[.int .i64 p, .int .i64 S, .slice A n c, .int .i64 3, .int .i64 M, .slice E ne ce]] w fun e w' => e = .returned (.bool (autB p S 3 M st es)) ∧ Below w.heap.size w w' := by
  have HM := Lib.hid (show marksB 3 M = evenMB M by unfold marksB; simp)
  have HH := Lib.hid (show headP p S 3 by unfold headP; omega)
  have HX := Lib.hid (Box6.new w p S A n c 3 M E ne ce 25)
  have hp0 : (0 : Int) ≤ (p : Int) := by omega
  have hp6 : (p : Int) ≤ 6 := by omega
  cases hq : marksB 3 M
  · have HF := Lib.hid (autB_marks (P := (p : Int)) (S := S) (st := st) (es := es) hq)
    rw [hq] at HM
    clear hq ha he
    go_enter Try.func19, Try.ntmps19
    go_wp2_with fail
    refine (of_kind3 _).mono ?_
    rintro r w1 ⟨rfl, hb1⟩
    have HX1 := Lib.hid (HX.out.below hb1)
    obtain ⟨hz, p0, p1, p2, p3, p4, p5⟩ := HX1.out
    have HB1 := Lib.hid (show Below w.heap.size w w1 from ((Below.refl _ _).alloc (Nat.le_refl _) _).trans (hb1.mono (by simp)))
    clear hb1
    go_wp2_with fail
    refine (isFewPairs_any M _).mono ?_
    rintro r w2 ⟨rfl, rfl⟩
    rw [← HM.out]
    go_wp2_with fail
    go_ret
    exact ⟨ret_bool HF.out.symm, HB1.out.alloc HB1.out.size _⟩
  · have hm := marksB_few hq
    obtain ⟨m, rfl⟩ := Int.eq_ofNat_of_zero_le hm.1
    have hm40 : m ≤ 40 := by omega
    have HS := Lib.hid (fun W (hW : Below w.heap.size w W) => validStart_any p S 3 m A E n c ne ce st W (ha.below hW) hn)
    have HE := Lib.hid (fun W (hW : Below w.heap.size w W) => validEdges_any p m S 3 A E n c ne ce es W (he.below hW) hp hm40 hne)
    have HT := Lib.hid (fun hs => autB_start (P := (p : Int)) (S := S) (st := st) (es := es) HH.out hq hs)
    have HG := Lib.hid (fun hs => autB_edges (P := (p : Int)) (S := S) (st := st) (es := es) HH.out hq hs)
    rw [hq] at HM
    clear hq ha he hm
    obtain ⟨sb, hsb, HSB⟩ : ∃ sb, startB S st = sb ∧ Hid (startB S st = sb) := ⟨_, rfl, rfl⟩
    rw [hsb] at HS
    clear hsb
    obtain ⟨eb, heb, HEB⟩ : ∃ eb, (decide (es.length ≤ 40000) && edgesB p S m es) = eb ∧ Hid ((decide (es.length ≤ 40000) && edgesB p S m es) = eb) := ⟨_, rfl, rfl⟩
    rw [heb] at HE
    clear heb
    go_enter Try.func19, Try.ntmps19
    go_wp2_with fail
    refine (of_kind3 _).mono ?_
    rintro r w1 ⟨rfl, hb1⟩
    have HX1 := Lib.hid (HX.out.below hb1)
    obtain ⟨hz, p0, p1, p2, p3, p4, p5⟩ := HX1.out
    have HB1 := Lib.hid (show Below w.heap.size w w1 from ((Below.refl _ _).alloc (Nat.le_refl _) _).trans (hb1.mono (by simp)))
    clear hb1
    go_wp2_with fail
    refine (isFewPairs_any (m : Int) _).mono ?_
    rintro r w2 ⟨rfl, rfl⟩
    rw [← HM.out]
    go_wp2_with fail
    refine (HS.out _ (HB1.out.alloc HB1.out.size _)).mono ?_
    rintro r w3 ⟨rfl, hb3⟩
    have HX3 := Lib.hid ((HX1.out.below ((Below.refl _ _).alloc (Nat.le_refl _) _)).below hb3)
    have HB3 := Lib.hid ((HB1.out.alloc HB1.out.size _).trans (hb3.mono (HB1.out.alloc HB1.out.size _).size))
    clear hz p0 p1 p2 p3 p4 p5 hb3
    obtain ⟨hz, p0, p1, p2, p3, p4, p5⟩ := HX3.out
    cases sb
    · have HF := Lib.hid (HT.out HSB.out)
      go_wp2_with fail
      go_ret
      exact ⟨ret_bool HF.out.symm, HB3.out⟩
    · have HF := Lib.hid ((HG.out HSB.out).trans HEB.out)
      go_wp2_with fail
      refine (HE.out _ HB3.out).mono ?_
      rintro r w4 ⟨rfl, hb4⟩
      go_wp2_with fail
      go_ret
      exact ⟨ret_bool HF.out.symm, HB3.out.trans (hb4.mono HB3.out.size)⟩

end Go.Proofs.Ytalgbcndifaaiaa.Wd
