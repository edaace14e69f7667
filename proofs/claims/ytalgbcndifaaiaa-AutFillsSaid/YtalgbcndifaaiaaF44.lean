/-
  Valid of the reference of layer 5, for all automata.
  Letter, Valid, Is and At of the reference.
  Walk of the reference, for all automata and words.
  Few of the law, for one automaton, given the reference's Valid.
  Walk of the example automaton, and awake of lodesmanlaw05: the chapter's examples hold.
  Few of lodesmanlaw01.
  AutWalks of layer 5: the law's walk.
  What Fill makes is valid, deterministic and complete; its transitions; its words. No program is looked at here.
  Fill's automaton has the same words. No program is looked at here.
-/
import Derived.Test.YtalgbcndifaaiaaAuRef2a
import Derived.Test.YtalgbcndifaaiaaAuRef2b
import Derived.Test.YtalgbcndifaaiaaAuRef2c
import Derived.Test.YtalgbcndifaaiaaAuRef2d
import Derived.Test.YtalgbcndifaaiaaAuRef2e
import Derived.Test.YtalgbcndifaaiaaF36
import Derived.Test.YtalgbcndifaaiaaF33
import Derived.BigRegion
import Derived.Deep.RegionLaw
import Derived.Deep.RegionHeld3
import Derived.Test.YtalgbcndifaaiaaF37
import Derived.BigQuiet
import Derived.Deep.QuietTactic
import Derived.Test.YtalgbcndifaaiaaF22
import Derived.Test.YtalgbcndifaaiaaAtRefAcc2
import Derived.Test.YtalgbcndifaaiaaWdLeaf
import Derived.Test.YtalgbcndifaaiaaF34
namespace Go.Proofs.Ytalgbcndifaaiaa.Wd
open Go.RowKit
set_option linter.unusedVariables false

theorem refValid_ok : RefValidOK := by
  intro P S K M A E n c ne ce st es w ha hn hE hne
  by_cases h : headP P S K
  · cases hq : marksB K M
    · exact refValid_marks P S K M A E n c ne ce st es w h hq
    · by_cases hm : 40000 < ne
      · exact refValid_many P S K M A E n c ne ce st es w h hq hE.1 hne hm
      · have hfew := autB_few (P := P) (S := S) (st := st) (es := es) h hq (by have := hE.1; omega)
        rw [hfew]
        obtain ⟨h1, h2, h3, h4, h5, h6⟩ := h
        obtain ⟨p, rfl⟩ := Int.eq_ofNat_of_zero_le h1
        obtain ⟨hm0, hm4⟩ := marksB_few hq
        obtain ⟨m, rfl⟩ := Int.eq_ofNat_of_zero_le hm0
        rw [Int.toNat_natCast, Int.toNat_natCast]
        rcases wrong_ways p m S es ne hE.1 with hw | hw | hw | hw | hw
        · exact refValid_a p m S K A E n c ne ce st es w (by omega) (by omega) h3 h4 h5 h6 hq ha hn hE (by omega) hw
        · exact refValid_b p m S K A E n c ne ce st es w (by omega) (by omega) h3 h4 h5 h6 hq ha hn hE (by omega) hw
        · exact refValid_c p m S K A E n c ne ce st es w (by omega) (by omega) h3 h4 h5 h6 hq ha hn hE (by omega) hw
        · exact refValid_d p m S K A E n c ne ce st es w (by omega) (by omega) h3 h4 h5 h6 hq ha hn hE (by omega) hw
        · exact refValid_e p m S K A E n c ne ce st es w (by omega) (by omega) h3 h4 h5 h6 hq ha hn hE (by omega) hw
  · exact refValid_head P S K M A E n c ne ce st es w h

end Go.Proofs.Ytalgbcndifaaiaa.Wd

namespace Go.Proofs.Ytalgbcndifaaiaa.Wd
open Go.RowKit
set_option linter.unusedVariables false

set_option maxHeartbeats 400000 in
theorem letter_any (x : Int) (k : Nat) (w : World) (hk : k ≤ 6) :
    Calls Try.prog 28 #[.int .i64 x, .int .i64 k] w fun e w' => e = .returned (.bool (decide (0 ≤ x) && decide (x < (2 : Int) ^ k))) ∧ w = w' := by
  have hp := wrap_pow hk
  by_cases h0 : 0 ≤ x
  · have hd : decide (0 ≤ x) = true := by simpa using h0
    go_enter Try.func28, Try.ntmps28
    go_wp2_with fail
    go_ret
    exact ⟨ret_bool (by rw [hd]; rfl), rfl⟩
  · have hd : decide (0 ≤ x) = false := by simpa using h0
    go_enter Try.func28, Try.ntmps28
    go_wp2_with fail
    go_ret
    exact ⟨ret_bool (by simp), rfl⟩

theorem lettersB_append (b : Int) (xs ys : List Int) : lettersB b (xs ++ ys) = (lettersB b xs && lettersB b ys) := by simp [lettersB]

set_option maxRecDepth 100000 in
set_option maxHeartbeats 1000000 in
theorem refValid_else (A B : Option Addr) (n c m d : Nat) (j : Nat) (s l : List Int) (w : World) (ha : Ints w A n s) (hb : Ints w B m l) (hj : j ≤ 6) (hm0 : 0 < m) (hl : n + m ≤ 200) :
    Calls Try.prog 14 #[.agg #[.slice A n c, .slice B m d], .int .i64 j] w fun e w' => e = .returned (.bool (lettersB ((2 : Int) ^ j) (s ++ l))) ∧ Below w.heap.size w w' := by
  obtain ⟨i0, hi, hz0, hz1, hz2⟩ := info_parts int_info
  obtain ⟨t, ht⟩ : ∃ t, s ++ l = t := ⟨_, rfl⟩
  rw [ht]
  have HT0 := Lib.hid ht
  clear ht
  have HX := Lib.hid ha.1
  have HY := Lib.hid hb.1
  have hb0 : ((m : Int) == 0) = false := by simp; omega
  have hb2 : decide (200 < (n : Int) + m) = false := by simp; omega
  go_enter Try.func14, Try.ntmps14
  go_wp2_with fail
  have q0 : (w.alloc (.cells #[.slice A n c, .slice B m d] 27)).cell? ⟨w.heap.size, 0, none⟩ = some (.slice A n c) := by rw [box_last]; rfl
  have q1 : (w.alloc (.cells #[.slice A n c, .slice B m d] 27)).cell? ⟨w.heap.size, 1, none⟩ = some (.slice B m d) := by rw [box_last]; rfl
  have HA := Lib.hid (ha.alloc (.cells #[.slice A n c, .slice B m d] 27))
  have HB := Lib.hid (hb.alloc (.cells #[.slice A n c, .slice B m d] 27))
  generalize hW : w.alloc (.cells #[.slice A n c, .slice B m d] 27) = W at *
  have hbw : Below w.heap.size w W := by rw [← hW]; exact (Below.refl _ _).alloc (Nat.le_refl _) _
  have hlt : w.heap.size < W.heap.size := by rw [← hW]; simp
  clear hW
  have hown0 : (W.alloc (.cells #[] 3)).drew.ownsRow W.heap.size 3 1 (.slice (some ⟨W.heap.size, 0, none⟩) 0 0) 0 [] := World.ownsRow_made W #[] 0 (Nat.le_refl _) (Nat.zero_le _) rfl
  have hbd : Below W.heap.size W (W.alloc (.cells #[] 3)).drew := ((Below.refl W.heap.size W).alloc (Nat.le_refl _) (.cells #[] 3)).drew
  go_region_held3 (fun X => X.cell? ⟨w.heap.size, 0, none⟩ = some (.slice A n c) ∧ X.cell? ⟨w.heap.size, 1, none⟩ = some (.slice B m d))
    (first
      | go_keep
      | (refine ⟨?_, ?_⟩
         · rw [hba.cell (by simp; omega)]; exact q0
         · rw [hba.cell (by simp; omega)]; exact q1)
      | (refine ⟨?_, ?_⟩
         · rw [hbb.cell (by simp; omega)]; exact q0
         · rw [hbb.cell (by simp; omega)]; exact q1))
    (first
      | ((refine step_append_ints _ (by rfl) _ _ _ (by rfl) W.heap.size 3 i0 _ Try.underlying22 hi hz0 hz1 hz2 rfl (.slice (some ⟨W.heap.size, 0, none⟩) 0 0) 0 [] (by rfl) hown0 _ n c s (by rfl) (by exact HA.out.below hbd) (by omega) hbd.size ?_; intro va wa howna hgrowa hata; have hba : Below W.heap.size W wa := hbd.trans (below_own (base := W.heap.size) hown0 hgrowa hbd.size)))
      | ((refine step_append_ints _ (by rfl) _ _ _ (by rfl) W.heap.size 3 i0 _ Try.underlying22 hi hz0 hz1 hz2 rfl va (0 + n) ([] ++ s.map (Value.int .i64)) (by rfl) (by exact howna) _ m d l (by rfl) (by exact HB.out.below hba) (by omega) hba.size ?_; intro vb wb hownb hgrowb hatb; have hbb : Below W.heap.size W wb := hba.trans (below_own howna hgrowb hba.size); have hvb := own_slice hownb; obtain ⟨A2, k2, hvb, hk2⟩ := hvb; rw [hvb]))
      | fail)
  rw [hvb] at hownb
  rw [List.nil_append, ← List.map_append] at hownb
  generalize hnm : 0 + n + m = nm at *
  have HI := Lib.hid (Ints.of_own hownb)
  have HS := Lib.hid (show (s ++ l).length = nm by rw [List.length_append, HX.out, HY.out]; omega)
  have HW := Lib.hid (hbw.trans (hbb.mono hbw.size))
  rw [HT0.out] at HI HS
  clear HT0
  have hp := wrap_pow hj
  clear ha hb hvb hownb hgrowb hatb hba hbb howna hgrowa hata hown0 hbd q0 q1 HA HB HX HY hbw
  go_wp2_with fail
  go_loop [6, 37] (fun _ i => ∃ k : Nat, k ≤ nm ∧ i = .int .i64 k ∧ lettersB ((2 : Int) ^ j) (t.take k) = true) (fun _ i => nm - (intOf i).toNat)
  case atStart => exact ⟨0, Nat.zero_le _, rfl, by simp [lettersB]⟩
  case round =>
    obtain ⟨k, hk, rfl, hall⟩ := hrel
    by_cases hlt : k < nm
    · have h := HI.out
      obtain ⟨b, off, rfl, hb, hc⟩ := h.at_ hlt
      have hcj := hc k hlt
      have hlen := HS.out
      clear h hc
      generalize hx : t.getD k 0 = x at hcj
      cases he : (decide (0 ≤ x) && decide (x < (2 : Int) ^ j))
      · have HR := Lib.hid (show lettersB ((2 : Int) ^ j) t = false from lettersB_bad (k := k) (by omega) (by rw [hx]; intro h; simp [h.1, h.2] at he))
        have HE := Lib.hid he
        clear he hall hx hp
        go_wp2_with fail
        refine (letter_any x j _ hj).mono ?_
        rintro e w2 ⟨rfl, rfl⟩
        rw [HE.out]
        go_wp2_with fail
        go_ret
        exact ⟨ret_bool HR.out.symm, HW.out⟩
      · have HT := Lib.hid (show lettersB ((2 : Int) ^ j) (t.take (k + 1)) = true by rw [lettersB_take (by omega) hall, hx]; exact he)
        have HE := Lib.hid he
        clear he hall hx hp
        go_wp2_with fail
        refine (letter_any x j _ hj).mono ?_
        rintro e w2 ⟨rfl, rfl⟩
        rw [HE.out]
        go_wp2_with fail
        go_round
        case rel => exact ⟨k + 1, by omega, by go_num, HT.out⟩
        case measure => simp [intOf]; omega
    · have HA := Lib.hid hall
      clear hall
      go_wp2
      go_ret
      exact ⟨ret_bool (by rw [← HA.out, List.take_of_length_le (by rw [HS.out]; omega)]), HW.out⟩


set_option maxRecDepth 100000 in
set_option maxHeartbeats 1000000 in
theorem refValid_any (A B : Option Addr) (n c m d : Nat) (k : Int) (s l : List Int) (w : World) (ha : Ints w A n s) (hb : Ints w B m l) (hn : n ≤ 100000) (hm : m ≤ 100000) :
    Calls Try.prog 14 #[.agg #[.slice A n c, .slice B m d], .int .i64 k] w fun e w' => e = .returned (.bool (validB k s l)) ∧ Below w.heap.size w w' := by
  have hx := ha.1
  have hy := hb.1
  by_cases h0 : k < 0
  · have HV := Lib.hid (valid_lo (xs := s) (ys := l) h0)
    go_enter Try.func14, Try.ntmps14
    go_wp2_with fail
    go_ret
    exact ⟨ret_bool HV.out.symm, (Below.refl _ _).alloc (Nat.le_refl _) _⟩
  by_cases h6 : 6 < k
  · have HV := Lib.hid (valid_hi (xs := s) (ys := l) h6)
    go_enter Try.func14, Try.ntmps14
    go_wp2_with fail
    go_ret
    exact ⟨ret_bool HV.out.symm, (Below.refl _ _).alloc (Nat.le_refl _) _⟩
  by_cases hm0 : m = 0
  · have HV := Lib.hid (valid_none (k := k) (xs := s) (ys := l) (by omega))
    have hb0 : ((m : Int) == 0) = true := by simp; omega
    go_enter Try.func14, Try.ntmps14
    go_wp2_with fail
    go_ret
    exact ⟨ret_bool HV.out.symm, (Below.refl _ _).alloc (Nat.le_refl _) _⟩
  obtain ⟨j, rfl⟩ := Int.eq_ofNat_of_zero_le (show 0 ≤ k by omega)
  have hj : j ≤ 6 := by omega
  by_cases hz : 200 < n + m
  · have HV := Lib.hid (valid_long (k := j) (xs := s) (ys := l) (by omega))
    have hb0 : ((m : Int) == 0) = false := by simp; omega
    have hb2 : decide (200 < (n : Int) + m) = true := by simp; omega
    go_enter Try.func14, Try.ntmps14
    go_wp2_with fail
    go_ret
    exact ⟨ret_bool HV.out.symm, (Below.refl _ _).alloc (Nat.le_refl _) _⟩
  refine (refValid_else A B n c m d j s l w ha hb hj (by omega) (by omega)).mono ?_
  rintro e w1 ⟨rfl, hb1⟩
  refine ⟨ret_bool ?_, hb1⟩
  rw [valid_else hj (by omega) (by omega), lettersB_append]

end Go.Proofs.Ytalgbcndifaaiaa.Wd

namespace Go.Proofs.Ytalgbcndifaaiaa.Wd
open Go.RowKit Go.Maps
set_option linter.unusedVariables false
set_option linter.unusedSimpArgs false

theorem out_none {es : List Ed} {s : Nat} {l : Int} (h : nextS es s l = none) : outL es s l es.length = [] := by
  have h1 := nextS_out es s l
  rw [h] at h1
  exact List.head?_eq_none_iff.1 h1
theorem out_some {es : List Ed} {s j : Nat} {l : Int} (h : nextS es s l = some j) : ∃ r, outL es s l es.length = (j : Int) :: r := by
  have h1 := nextS_out es s l
  rw [h] at h1
  exact List.head?_eq_some_iff.1 h1

theorem refOut_none (P S K M : Int) (s : Nat) (l : Int) (A E : Option Addr) (n c ne ce : Nat) (es : List Ed) (w : World) (hE : EdgesAt w E ne es) (hne : ne ≤ 40000) (h : nextS es s l = none) :
    Calls Try.prog 13 #[.agg #[.int .i64 P, .int .i64 S, .slice A n c, .int .i64 K, .int .i64 M, .slice E ne ce], .int .i64 s, .int .i64 l] w fun e w' => ∃ A4 c4, e = .returned (.slice A4 0 c4) ∧ Below w.heap.size w w' := by
  refine (refOut_any P S K M s l A E n c ne ce es w hE hne).mono fun e w' ⟨v, he, ho, hb⟩ => ?_
  rw [← hE.1, out_none h] at ho
  obtain ⟨A4, c4, rfl, _⟩ := own_slice ho
  exact ⟨A4, c4, he, hb⟩
theorem refOut_some (P S K M : Int) (s j : Nat) (l : Int) (A E : Option Addr) (n c ne ce : Nat) (es : List Ed) (w : World) (hE : EdgesAt w E ne es) (hne : ne ≤ 40000) (h : nextS es s l = some j) :
    Calls Try.prog 13 #[.agg #[.int .i64 P, .int .i64 S, .slice A n c, .int .i64 K, .int .i64 M, .slice E ne ce], .int .i64 s, .int .i64 l] w fun e w' => ∃ b k4 c4 : Nat, e = .returned (.slice (some ⟨b, 0, none⟩) (k4 + 1) c4) ∧ w'.cell? ⟨b, 0, none⟩ = some (.int .i64 (j : Int)) ∧ b < w'.heap.size ∧ k4 ≤ 40000 ∧ Below w.heap.size w w' := by
  refine (refOut_any P S K M s l A E n c ne ce es w hE hne).mono fun e w' ⟨v, he, ho, hb⟩ => ?_
  have hlen := outL_len es s l ne
  obtain ⟨r, hr⟩ := out_some h
  rw [hE.1] at hr
  rw [hr] at ho hlen
  obtain ⟨g, cap, rfl, _, hlt⟩ := ho.form (by simp)
  obtain ⟨b, off, hb2, _, hc⟩ := (Ints.of_own ho).2 (by simp)
  injection hb2 with hb2
  injection hb2 with e1 e2
  subst e1 e2
  have h0 := hc 0 (by simp)
  simp at hlen
  exact ⟨g, r.length, cap, he, by simpa using h0, hlt, by omega, hb⟩

theorem mul_small {S m : Nat} (hS : S ≤ 3000) (hm : m ≤ 100000) : S * m ≤ 300000000 := Nat.le_trans (Nat.mul_le_mul hS hm) (by decide)

end Go.Proofs.Ytalgbcndifaaiaa.Wd

namespace Go.Proofs.Ytalgbcndifaaiaa.Wd
open Go.RowKit
set_option linter.unusedVariables false

/-- Is the automaton small? -/
def few5B (X Y Z P S K M : Int) (st : List Int) (es : List Ed) (n ne : Nat) : Bool := (decide ((ne : Int) ≤ Y) && decide ((n : Int) ≤ X + 1000)) && (!autB P S K M st es || (decide (S ≤ X) && decide (M ≤ Z)))

set_option maxRecDepth 100000 in
set_option maxHeartbeats 4000000 in
theorem few5_any (hV : RefValidOK) (X Y Z P S K M : Int) (A E : Option Addr) (n c ne ce g : Nat) (st : List Int) (es : List Ed) (w : World) (hX : 0 ≤ X) (hX2 : X ≤ 100000) (ha : Ints w A n st) (hn : n ≤ 17592186044416) (he : EdgesAt w E ne es) (hne : ne ≤ 17592186044416) (hbox : Box6 w g P S A n c K M E ne ce) :
    Calls Try.prog 4 #[.int .i64 X, .int .i64 Y, .int .i64 Z, .slice (some ⟨g, 0, none⟩) 1 1] w fun e w' => e = .returned (.bool (few5B X Y Z P S K M st es n ne)) ∧ Below w.heap.size w w' := by
  have HV := Lib.hid (fun W (hW : Below w.heap.size w W) => hV P S K M A E n c ne ce st es W (ha.below hW) hn (he.below hW) hne)
  have HX := Lib.hid (Box6.new w P S A n c K M E ne ce 25)
  obtain ⟨hz, p0, p1, p2, p3, p4, p5⟩ := hbox
  obtain ⟨vb, hvb, HVB⟩ : ∃ vb, autB P S K M st es = vb ∧ Hid (autB P S K M st es = vb) := ⟨_, rfl, rfl⟩
  rw [hvb] at HV
  have HF := Lib.hid (show few5B X Y Z P S K M st es n ne = ((decide ((ne : Int) ≤ Y) && decide ((n : Int) ≤ X + 1000)) && (!vb || (decide (S ≤ X) && decide (M ≤ Z)))) by unfold few5B; rw [hvb])
  clear hvb ha he hV
  generalize few5B X Y Z P S K M st es n ne = R at *
  have hn0 : (0 : Int) ≤ (n : Int) := by omega
  have hne0 : (0 : Int) ≤ (ne : Int) := by omega
  rcases Int.lt_or_le Y (ne : Int) with h1 | h1
  · have HR := Lib.hid (show R = false by rw [HF.out, decide_eq_false (show ¬ (ne : Int) ≤ Y by omega)]; rfl)
    go_enter Try.func4, Try.ntmps4
    go_wp2_with fail
    refine wp_loop_rounds 2 ?_
    rw [rounds_succ]
    go_wp2_with fail
    go_ret
    exact ⟨ret_bool HR.out.symm, (Below.refl _ _).alloc (Nat.le_refl _) _⟩
  rcases Int.lt_or_le (X + 1000) (n : Int) with h2 | h2
  · have HR := Lib.hid (show R = false by rw [HF.out, decide_eq_false (show ¬ (n : Int) ≤ X + 1000 by omega)]; simp)
    have h1' : ¬ Y < (ne : Int) := by omega
    go_enter Try.func4, Try.ntmps4
    go_wp2_with fail
    refine wp_loop_rounds 2 ?_
    rw [rounds_succ]
    go_wp2_with fail
    go_ret
    exact ⟨ret_bool HR.out.symm, (Below.refl _ _).alloc (Nat.le_refl _) _⟩
  rw [decide_eq_true h1, decide_eq_true h2, Bool.true_and, Bool.true_and] at HF
  have h1' : ¬ Y < (ne : Int) := by omega
  have h2' : ¬ X + 1000 < (n : Int) := by omega
  cases vb
  · have HR := Lib.hid (show R = true by rw [HF.out]; rfl)
    go_enter Try.func4, Try.ntmps4
    go_wp2_with fail
    refine wp_loop_rounds 2 ?_
    rw [rounds_succ]
    go_wp2_with fail
    refine (HV.out _ ((Below.refl _ _).alloc (Nat.le_refl _) _)).mono ?_
    rintro r w1 ⟨rfl, hb1⟩
    have HB1 := Lib.hid (boxB hb1)
    clear hb1
    go_wp2_with fail
    rw [rounds_succ]
    go_wp2_with fail
    go_ret
    exact ⟨ret_bool HR.out.symm, HB1.out⟩
  rw [show (!true) = false from rfl, Bool.false_or] at HF
  rcases Int.lt_or_le X S with h3 | h3
  · have HR := Lib.hid (show R = false by rw [HF.out, decide_eq_false (show ¬ S ≤ X by omega)]; rfl)
    go_enter Try.func4, Try.ntmps4
    go_wp2_with fail
    refine wp_loop_rounds 2 ?_
    rw [rounds_succ]
    go_wp2_with fail
    refine (HV.out _ ((Below.refl _ _).alloc (Nat.le_refl _) _)).mono ?_
    rintro r w1 ⟨rfl, hb1⟩
    obtain ⟨hz1, q0, q1, q2, q3, q4, q5⟩ := HX.out.below hb1
    have HB1 := Lib.hid (boxB hb1)
    clear hb1
    go_wp2_with fail
    go_ret
    exact ⟨ret_bool HR.out.symm, HB1.out⟩
  rw [decide_eq_true h3, Bool.true_and] at HF
  have h3' : ¬ X < S := by omega
  rcases Int.lt_or_le Z M with h4 | h4
  · have HR := Lib.hid (show R = false by rw [HF.out, decide_eq_false (show ¬ M ≤ Z by omega)])
    go_enter Try.func4, Try.ntmps4
    go_wp2_with fail
    refine wp_loop_rounds 2 ?_
    rw [rounds_succ]
    go_wp2_with fail
    refine (HV.out _ ((Below.refl _ _).alloc (Nat.le_refl _) _)).mono ?_
    rintro r w1 ⟨rfl, hb1⟩
    obtain ⟨hz1, q0, q1, q2, q3, q4, q5⟩ := HX.out.below hb1
    have HB1 := Lib.hid (boxB hb1)
    clear hb1
    go_wp2_with fail
    go_ret
    exact ⟨ret_bool HR.out.symm, HB1.out⟩
  · have HR := Lib.hid (show R = true by rw [HF.out, decide_eq_true h4])
    have h4' : ¬ Z < M := by omega
    go_enter Try.func4, Try.ntmps4
    go_wp2_with fail
    refine wp_loop_rounds 2 ?_
    rw [rounds_succ]
    go_wp2_with fail
    refine (HV.out _ ((Below.refl _ _).alloc (Nat.le_refl _) _)).mono ?_
    rintro r w1 ⟨rfl, hb1⟩
    obtain ⟨hz1, q0, q1, q2, q3, q4, q5⟩ := HX.out.below hb1
    have HB1 := Lib.hid (boxB hb1)
    clear hb1
    go_wp2_with fail
    rw [rounds_succ]
    go_wp2_with fail
    go_ret
    exact ⟨ret_bool HR.out.symm, HB1.out⟩

end Go.Proofs.Ytalgbcndifaaiaa.Wd

namespace Go.Proofs.Ytalgbcndifaaiaa.Wd
open Go.RowKit
set_option linter.unusedVariables false

theorem letters_01 {xs : List Int} (h : lettersB 2 xs = true) : ∀ x ∈ xs, x = 0 ∨ x = 1 := by
  intro x hx
  unfold lettersB at h
  have := List.all_eq_true.1 h x hx
  simp at this
  omega
theorem IntsN.of {r n : Nat} {w : World} {A : Option Addr} {xs : List Int} (h : Ints w A n xs) (hr : w.heap.size ≤ r) : IntsN r w A n xs := ⟨h.1, fun hn => by
  obtain ⟨b, off, e, hb, hc⟩ := h.2 hn
  exact ⟨b, off, e, ⟨hb, by omega⟩, hc⟩⟩
theorem IntsN.of_below {r n : Nat} {w w' : World} {A : Option Addr} {xs : List Int} (h : Ints w A n xs) (hr : w.heap.size ≤ r) (hb : Below w.heap.size w w') : IntsN r w' A n xs := (IntsN.of h hr).below hb

theorem CellsAt.two {w : World} {L : List (Addr × Value)} (h : CellsAt w L) (x0 x1 : Value) (t : TypeId) : CellsAt (w.alloc (.cells #[x0, x1] t)) ((⟨w.heap.size, 0, none⟩, x0) :: (⟨w.heap.size, 1, none⟩, x1) :: L) := by
  intro p hp
  rcases List.mem_cons.1 hp with rfl | hp
  · exact ⟨by simp, by rw [box_last]; rfl⟩
  rcases List.mem_cons.1 hp with rfl | hp
  · exact ⟨by simp, by rw [box_last]; rfl⟩
  · exact h.alloc _ p hp

set_option maxRecDepth 100000 in
set_option maxHeartbeats 4000000 in
theorem Walk_ag (s e : Nat) (A B : Option Addr) (n c m d : Nat) (st lp : List Int) (w : World) (h : CellsAt w (agL s e)) (ha : Ints w A n st) (hb : Ints w B m lp) (hv : validB 1 st lp = true) :
    Calls Try.prog 16 #[agV s e, .agg #[.slice A n c, .slice B m d]] w fun x w' => x = .returned (.tuple #[.int .i64 (oneL lp), .bool false, .int .i64 0]) ∧ Below w.heap.size w w' := by
  have hx := ha.1
  have hy := hb.1
  have hlen : n ≤ 200 ∧ m ≤ 200 := by
    simp only [validB, Bool.and_eq_true, decide_eq_true_eq] at hv
    omega
  have hl : lettersB 2 st = true ∧ lettersB 2 lp = true := by
    simp only [validB, Bool.and_eq_true] at hv
    exact ⟨hv.1.2, hv.2⟩
  have hn : n ≤ 100000 := by omega
  have hm : m ≤ 100000 := by omega
  have HD := Lib.hid (fun W (hW : Below w.heap.size w W) => det_ag s e W (h.below hW))
  have HVl := Lib.hid (fun W (hW : Below w.heap.size w W) => valid_any A B n c m d 1 st lp W (ha.below hW) (hb.below hW) hn hm)
  rw [hv] at HVl
  have HN := Lib.hid (fun W (hW : Below w.heap.size w W) => newWalker_ag s e W (h.below hW))
  have HWk := Lib.hid (fun W r o g k (hW : Below w.heap.size w W) (hr : w.heap.size ≤ r) (hk : Wk W r s e o g k) => walk_ag r s e o g k A B n c m d st lp W hk (IntsN.of_below ha hr hW) (IntsN.of_below hb hr hW) (letters_01 hl.1) (letters_01 hl.2) hn hm)
  have HX := Lib.hid ((bxL_new w s e 25).two (.slice A n c) (.slice B m d) 27)
  clear h ha hb hv hx hy hlen hl hn hm
  unfold agV at *
  go_enter Try.func16, Try.ntmps16
  go_wp2_with fail
  have HB0 := Lib.hid (show Below w.heap.size w ((w.alloc (.cells #[.int .i64 1, .int .i64 1, .slice (some ⟨s, 0, none⟩) 1 1, .int .i64 0, .int .i64 1, .slice (some ⟨e, 0, none⟩) 2 2] 25)).alloc (.cells #[.slice A n c, .slice B m d] 27)) from ((Below.refl _ _).alloc (Nat.le_refl _) _).alloc (by simp) _)
  refine (HD.out _ HB0.out).mono ?_
  rintro x w1 ⟨rfl, hb1⟩
  have HX1 := Lib.hid (HX.out.below hb1)
  have HB1 := Lib.hid (HB0.out.trans (hb1.mono HB0.out.size))
  have x0 : w1.cell? ⟨w.heap.size + 1, 0, none⟩ = some (.slice A n c) := by simpa using HX1.out.head
  have x1 : w1.cell? ⟨w.heap.size + 1, 1, none⟩ = some (.slice B m d) := by simpa using HX1.out.tail.head
  have hzz : w.heap.size + 1 < w1.heap.size := by simpa using HX1.out.lt
  obtain ⟨hz, p0, p1, p2, p3, p4, p5⟩ := bxL_out HX1.out.tail.tail
  clear hb1
  go_wp2_with fail
  refine (HVl.out _ HB1.out).mono ?_
  rintro x w2 ⟨rfl, hb2⟩
  have HX2 := Lib.hid (HX1.out.below hb2)
  have HB2 := Lib.hid (HB1.out.trans (hb2.mono HB1.out.size))
  clear x0 x1 hz hzz p0 p1 p2 p3 p4 p5 hb2 HX1 HB1
  have HS := Lib.hid (show ∀ V, Below w2.heap.size w2 V → (V.cell? ⟨w.heap.size + 1, 0, none⟩ = some (.slice A n c) ∧ V.cell? ⟨w.heap.size + 1, 1, none⟩ = some (.slice B m d)) ∧
      (V.cell? ⟨w.heap.size, 0, none⟩ = some (.int .i64 1) ∧ V.cell? ⟨w.heap.size, 1, none⟩ = some (.int .i64 1) ∧ V.cell? ⟨w.heap.size, 2, none⟩ = some (.slice (some ⟨s, 0, none⟩) 1 1) ∧ V.cell? ⟨w.heap.size, 3, none⟩ = some (.int .i64 0) ∧ V.cell? ⟨w.heap.size, 4, none⟩ = some (.int .i64 1) ∧ V.cell? ⟨w.heap.size, 5, none⟩ = some (.slice (some ⟨e, 0, none⟩) 2 2)) from
    fun V hV => ⟨⟨by simpa using (HX2.out.below hV).head, by simpa using (HX2.out.below hV).tail.head⟩, (bxL_out (HX2.out.below hV).tail.tail).2⟩)
  go_wp2_with fail
  go_region_held3 (fun V => (V.cell? ⟨w.heap.size + 1, 0, none⟩ = some (.slice A n c) ∧ V.cell? ⟨w.heap.size + 1, 1, none⟩ = some (.slice B m d)) ∧
      (V.cell? ⟨w.heap.size, 0, none⟩ = some (.int .i64 1) ∧ V.cell? ⟨w.heap.size, 1, none⟩ = some (.int .i64 1) ∧ V.cell? ⟨w.heap.size, 2, none⟩ = some (.slice (some ⟨s, 0, none⟩) 1 1) ∧ V.cell? ⟨w.heap.size, 3, none⟩ = some (.int .i64 0) ∧ V.cell? ⟨w.heap.size, 4, none⟩ = some (.int .i64 1) ∧ V.cell? ⟨w.heap.size, 5, none⟩ = some (.slice (some ⟨e, 0, none⟩) 2 2)))
    (first
      | exact HS.out _ k2
      | exact HS.out _ k1
      | exact HS.out _ ((Below.refl w2.heap.size w2).drew))
    (first
      | (go_at_call 36; refine (HWk.out _ r o g k (HB2.out.trans (k1.mono HB2.out.size)) (Nat.le_trans HB2.out.size hr) hk).mono ?_; rintro x z2 ⟨rfl, g2⟩; have k2 : Below w2.heap.size w2 z2 := k1.trans (grown_below g2 hr k1.size))
      | (go_at_call 35; refine (HN.out _ HB2.out.drew).mono ?_; rintro x z1 ⟨r, o, g, k, rfl, hr, hk1, hk2, b1⟩; have k1 : Below w2.heap.size w2 z1 := ((Below.refl _ _).drew).trans b1; have hk : Wk z1 r s e o g k := ⟨hk1, hk2⟩)
      | fail)
  go_wp2_with fail
  refine bodyPost_ret (v := .tuple #[.int .i64 (oneL lp), .bool false, .int .i64 0]) (by simp [results, Try.results16, go_sem]) rfl ?_
  exact ⟨rfl, HB2.out.trans (k2.mono HB2.out.size)⟩

theorem agL_of (w : World) (t1 t2 : TypeId) : CellsAt ((w.alloc (.cells #[.int .i64 0] t1)).alloc (.cells #[.int .i64 0, .int .i64 0, .int .i64 1, .int .i64 1, .int .i64 1, .int .i64 0, .int .i64 0, .int .i64 1, .int .i64 0, .int .i64 0] t2)) (agL w.heap.size (w.heap.size + 1)) := by
  have h2 : (w.alloc (.cells #[.int .i64 0] t1)).heap.size = w.heap.size + 1 := by simp
  have hl : ∀ j, ((w.alloc (.cells #[.int .i64 0] t1)).alloc (.cells #[.int .i64 0, .int .i64 0, .int .i64 1, .int .i64 1, .int .i64 1, .int .i64 0, .int .i64 0, .int .i64 1, .int .i64 0, .int .i64 0] t2)).cell? ⟨w.heap.size + 1, j, none⟩ = (#[.int .i64 0, .int .i64 0, .int .i64 1, .int .i64 1, .int .i64 1, .int .i64 0, .int .i64 0, .int .i64 1, .int .i64 0, .int .i64 0] : Array Value)[j]? := fun j => by
    rw [← h2]
    exact box_last _ _ _ _
  intro p hp
  simp only [agL, List.mem_cons, List.not_mem_nil, or_false] at hp
  rcases hp with rfl | rfl | rfl | rfl | rfl | rfl | rfl | rfl | rfl | rfl | rfl
  · exact ⟨by simp; omega, box_first _ _ _ _ 0⟩
  all_goals exact ⟨by simp, hl _⟩

set_option maxRecDepth 100000 in
set_option maxHeartbeats 4000000 in
theorem again_any (w : World) : Calls Try.prog 17 #[] w fun x w' => ∃ s e, x = .returned (agV s e) ∧ CellsAt w' (agL s e) ∧ Below w.heap.size w w' := by
  go_enter Try.func17, Try.ntmps17
  go_wp2_with fail
  refine bodyPost_ret (v := agV (w.heap.size + 1) (w.heap.size + 1 + 1)) (by simp [results, Try.results17, go_sem, agV]) rfl ?_
  refine ⟨w.heap.size + 1, w.heap.size + 1 + 1, rfl, ?_, (((Below.refl _ _).alloc (Nat.le_refl _) _).alloc (by simp) _).alloc (by simp; omega) _⟩
  have := agL_of (w.alloc (.cells #[.int .i64 1, .int .i64 1, .slice (some ⟨w.heap.size + 1, 0, none⟩) 1 1, .int .i64 0, .int .i64 1, .slice (some ⟨w.heap.size + 1 + 1, 0, none⟩) 2 2] 25)) 3 37
  rw [show (w.alloc (.cells #[.int .i64 1, .int .i64 1, .slice (some ⟨w.heap.size + 1, 0, none⟩) 1 1, .int .i64 0, .int .i64 1, .slice (some ⟨w.heap.size + 1 + 1, 0, none⟩) 2 2] 25)).heap.size = w.heap.size + 1 by simp] at this
  exact this

theorem oneL_a : oneL [0, 1] = 1 := by decide
theorem oneL_b : oneL [0] = 0 := by decide
theorem acc_a : AccR 3 4 10 true 0 := .inr (.inr (.inr ⟨by decide, by decide, by decide, by decide, rfl⟩))
theorem acc_b : AccR 4 2 2 false 0 := .inr (.inr (.inr ⟨by decide, by decide, by decide, by decide, rfl⟩))
theorem ints_of (w : World) (xs : List Int) (t : TypeId) : Ints (w.alloc (.cells (xs.map (Value.int .i64)).toArray t)) (some ⟨w.heap.size, 0, none⟩) xs.length xs :=
  ⟨rfl, fun _ => ⟨w.heap.size, 0, rfl, by simp, fun j hj => by
    rw [box_last]
    simp [List.getD_eq_getElem?_getD, List.getElem?_eq_getElem hj]⟩⟩
theorem ints_a (w : World) (t : TypeId) : Ints (w.alloc (.cells #[.int .i64 0, .int .i64 1] t)) (some ⟨w.heap.size, 0, none⟩) 2 [0, 1] := ints_of w [0, 1] t
theorem ints_b (w : World) (t : TypeId) : Ints ((w.alloc (.cells #[.int .i64 1] t)).alloc (.cells #[.int .i64 0] t)) (some ⟨w.heap.size, 0, none⟩) 1 [1] := (ints_of w [1] t).alloc _
theorem ints_c (w : World) (t : TypeId) : Ints ((w.alloc (.cells #[.int .i64 1] t)).alloc (.cells #[.int .i64 0] t)) (some ⟨w.heap.size + 1, 0, none⟩) 1 [0] := by
  have := ints_of (w.alloc (.cells #[.int .i64 1] t)) [0] t
  simpa using this

set_option maxRecDepth 100000 in
set_option maxHeartbeats 4000000 in
theorem awake5_any (w : World) : Calls Try.prog 6 #[] w fun x w' => x = .returned (.bool true) ∧ Below w.heap.size w w' := by
  go_enter Try.func6, Try.ntmps6
  go_wp2_with fail
  refine (again_any _).mono ?_
  rintro x w1 ⟨s, e, rfl, hc, hb⟩
  have HB1 := Lib.hid hb
  have HC := Lib.hid hc
  clear hb hc
  go_wp2_with fail
  refine (Walk_ag s e none (some ⟨w1.heap.size, 0, none⟩) 0 0 2 2 [] [0, 1] _ (HC.out.alloc _) Ints.none_ (ints_a w1 3) (by decide)).mono ?_
  rintro x w2 ⟨rfl, hb2⟩
  rw [oneL_a]
  have HB2 := Lib.hid ((HB1.out.alloc HB1.out.size _).trans (hb2.mono (HB1.out.alloc HB1.out.size _).size))
  clear hb2
  go_wp2_with fail
  refine (again_any _).mono ?_
  rintro x w3 ⟨s', e', rfl, hc, hb⟩
  have HB3 := Lib.hid (HB2.out.trans (hb.mono HB2.out.size))
  have HC3 := Lib.hid hc
  clear hb hc
  go_wp2_with fail
  refine (Walk_ag s' e' (some ⟨w3.heap.size, 0, none⟩) (some ⟨w3.heap.size + 1, 0, none⟩) 1 1 1 1 [1] [0] _ ((HC3.out.alloc _).alloc _) (ints_b w3 3) (ints_c w3 3) (by decide)).mono ?_
  rintro x w4 ⟨rfl, hb4⟩
  rw [oneL_b]
  have HB4 := Lib.hid (((HB3.out.alloc HB3.out.size _).alloc (Nat.le_trans HB3.out.size (by simp)) _).trans (hb4.mono ((HB3.out.alloc HB3.out.size _).alloc (Nat.le_trans HB3.out.size (by simp)) _).size))
  clear hb4
  go_wp2_with fail
  refine (accepts_any 3 4 10 _).mono ?_
  rintro x w5 ⟨r5, c5, rfl, h5, hb5⟩
  obtain ⟨rfl, rfl⟩ := h5.out.unique acc_a
  have HB5 := Lib.hid (HB4.out.trans (hb5.mono HB4.out.size))
  clear hb5 h5
  go_wp2_with fail
  refine (accepts_any 4 2 2 _).mono ?_
  rintro x w6 ⟨r6, c6, rfl, h6, hb6⟩
  obtain ⟨rfl, rfl⟩ := h6.out.unique acc_b
  have HB6 := Lib.hid (HB5.out.trans (hb6.mono HB5.out.size))
  clear hb6 h6
  go_wp2_with fail
  go_ret
  exact ⟨rfl, HB6.out⟩

end Go.Proofs.Ytalgbcndifaaiaa.Wd

namespace Go.Proofs.Ytalgbcndifaaiaa.Wd
open Go.RowKit
set_option linter.unusedVariables false

/-- Has each of the first k words at most most letters? -/
def fewB (most : Nat) (N M : Nat → Nat) (k : Nat) : Bool := (List.range k).all fun i => decide (N i + M i ≤ most)
theorem fewB_succ {most : Nat} {N M : Nat → Nat} {k : Nat} (h : fewB most N M k = true) (hk : N k + M k ≤ most) : fewB most N M (k + 1) = true := by
  simp only [fewB, List.all_eq_true, List.mem_range, decide_eq_true_eq] at h ⊢
  intro i hi
  rcases Nat.lt_or_ge i k with hl | hg
  · exact h i hl
  · obtain rfl : i = k := by omega
    exact hk
theorem fewB_bad {most : Nat} {N M : Nat → Nat} {k len : Nat} (hl : k < len) (hk : ¬ N k + M k ≤ most) : fewB most N M len = false := by
  rw [Bool.eq_false_iff]
  simp only [fewB, ne_eq, List.all_eq_true, List.mem_range, decide_eq_true_eq]
  intro h
  exact hk (h k hl)

set_option maxRecDepth 100000 in
set_option maxHeartbeats 1000000 in
theorem Few_any (g len cap most : Nat) (A B : Nat → Option Addr) (N C M D : Nat → Nat) (w : World) (hg : g < w.heap.size) (hl : len ≤ 10) (hm : most ≤ 1000)
    (hN : Hid (∀ i, i < len → N i ≤ 17592186044416 ∧ M i ≤ 17592186044416))
    (hc : Hid (∀ i, i < len → w.cell? ⟨g, i * 2, none⟩ = some (.slice (A i) (N i) (C i)) ∧ w.cell? ⟨g, i * 2 + 1, none⟩ = some (.slice (B i) (M i) (D i)))) :
    Calls Try.prog 5 #[.int .i64 most, .slice (some ⟨g, 0, none⟩) len cap] w fun e w' => e = .returned (.bool (fewB most N M len)) ∧ Below w.heap.size w w' := by
  go_enter Try.func5, Try.ntmps5
  go_wp2_with fail
  go_loopg [6, 9] len (fun q _ i wx => ∃ k : Nat, k + q = len ∧ k ≤ len ∧ i = .int .i64 k ∧ Below w.heap.size w wx ∧ Hid (fewB most N M k = true))
  case atStart => exact ⟨0, by omega, by omega, rfl, Below.refl _ _, by simp [Hid, fewB]⟩
  case round =>
    obtain ⟨k, hkq, hkl, rfl, hbx, HI⟩ := hrel
    by_cases hlt : k < len
    · have c1 := (hbx.cell (p := ⟨g, k * 2, none⟩) hg).trans (hc.out k hlt).1
      have c2 := (hbx.cell (p := ⟨g, k * 2 + 1, none⟩) hg).trans (hc.out k hlt).2
      obtain ⟨hN1, hN2⟩ := hN.out k hlt
      have HB := Lib.hid (fun h => fewB_bad (most := most) (N := N) (M := M) hlt h)
      have HS := Lib.hid (fun h => fewB_succ (most := most) (N := N) (M := M) HI.out h)
      generalize hn1 : N k = n1 at c1 hN1
      generalize hm1 : M k = m1 at c2 hN2
      rw [hn1, hm1] at HB HS
      clear hn1 hm1
      cases gk with
      | zero => exfalso; omega
      | succ q =>
      by_cases hs : n1 + m1 ≤ most
      · go_wp2_with fail
        go_roundg q
        case measure => omega
        case rel => exact ⟨k + 1, by omega, by omega, by go_num, hbx.alloc hbx.size _, HS.out hs⟩
      · go_wp2_with fail
        go_ret
        exact ⟨ret_bool (HB.out hs).symm, hbx.alloc hbx.size _⟩
    · go_wp2_with fail
      go_ret
      obtain rfl : k = len := by omega
      exact ⟨ret_bool HI.out.symm, hbx⟩

end Go.Proofs.Ytalgbcndifaaiaa.Wd

namespace Go.Proofs.Ytalgbcndifaaiaa.Wd
open Go.RowKit Go.Maps
set_option linter.unusedVariables false
set_option linter.unusedSimpArgs false

theorem walk_any (P S K M : Int) (A E : Option Addr) (n c ne ce : Nat) (st : List Int) (es : List Ed) (A' B' : Option Addr) (n' c' m' d' : Nat) (sl lp : List Int) (w : World) (ha : Ints w A n st) (hn : n ≤ 17592186044416) (he : EdgesAt w E ne es) (hne : ne ≤ 17592186044416) (hx : Ints w A' n' sl) (hy : Ints w B' m' lp) (hn' : n' ≤ 100000) (hm' : m' ≤ 100000) :
    Calls Try.prog 16 #[.agg #[.int .i64 P, .int .i64 S, .slice A n c, .int .i64 K, .int .i64 M, .slice E ne ce], .agg #[.slice A' n' c', .slice B' m' d']] w fun e w' => ResW (WalR P S K M st es sl lp (WalkA es (at_ sl lp) (st.getD 0 0).toNat n' m' S.toNat)) w w' e := by
  cases hv : autB P S K M st es
  · exact walk_bad P S K M A E n c ne ce st es A' B' n' c' m' d' sl lp _ w ha hn he hne (.inl hv)
  · cases hd : detB P st es
    · exact walk_bad P S K M A E n c ne ce st es A' B' n' c' m' d' sl lp _ w ha hn he hne (.inr ⟨hv, hd⟩)
    · obtain ⟨⟨h1, h2, h5, h6, _⟩, _⟩ := autB_true hv
      obtain ⟨p, rfl⟩ := Int.eq_ofNat_of_zero_le h1
      obtain ⟨s, rfl⟩ := Int.eq_ofNat_of_zero_le h5
      exact walk_good p s K M A E n c ne ce st es A' B' n' c' m' d' sl lp w ha hn he hne hx hy hn' hm' hv hd
theorem walks_agree {P S K M : Int} {st : List Int} {es : List Ed} {sl lp : List Int} {n' m' : Nat} (hs : sl.length = n') (hl : lp.length = m') {x x' : Int} {d d' : Bool} {c c' : Int}
    (h : WalR P S K M st es sl lp (WalkA es (at_ sl lp) (st.getD 0 0).toNat n' m' S.toNat) x d c) (h' : WalR P S K M st es sl lp (WalkB es (at_ sl lp) (st.getD 0 0).toNat n' m' S.toNat) x' d' c') : x = x' ∧ d = d' ∧ c = c' := by
  refine h.unique (fun hv x x' d d' h1 h2 => ?_) h'
  have hlp0 : 0 < lp.length := by
    unfold validB at hv
    simp only [Bool.and_eq_true] at hv
    exact of_decide_eq_true hv.1.1.1.2
  refine walk_same (by omega) (fun t ht => ?_) h1 h2
  rw [at_ge (by omega), at_ge (by omega), hl, hs, show t + m' - n' = (t - n') + m' by omega, Nat.add_mod_right]

/-- Few of law 01 at one word. -/
theorem few_one (g most : Nat) (A B : Option Addr) (n c m d : Nat) (w : World) (h : Box2 w g A n c B m d) (hm : most ≤ 1000) (h1 : n ≤ 17592186044416) (h2 : m ≤ 17592186044416) :
    Calls Try.prog 5 #[.int .i64 most, .slice (some ⟨g, 0, none⟩) 1 1] w fun e w' => e = .returned (.bool (decide (n + m ≤ most))) ∧ Below w.heap.size w w' := by
  have hk := Few_any g 1 1 most (fun _ => A) (fun _ => B) (fun _ => n) (fun _ => c) (fun _ => m) (fun _ => d) w h.1 (by omega) hm (fun i _ => ⟨h1, h2⟩) (fun i hi => by
    obtain rfl : i = 0 := by omega
    exact ⟨h.2.1, h.2.2⟩)
  have e : fewB most (fun _ => n) (fun _ => m) 1 = decide (n + m ≤ most) := by simp [fewB]
  rw [e] at hk
  exact hk

theorem box_two' {w w1 : World} {a b : Obj} (hb : Below ((w.alloc a).alloc b).heap.size ((w.alloc a).alloc b) w1) : Below w.heap.size w w1 :=
  (((Below.refl _ _).alloc (Nat.le_refl _) _).alloc (by simp) _).trans (hb.mono (by simp; omega))

end Go.Proofs.Ytalgbcndifaaiaa.Wd

namespace Go.Proofs.Ytalgbcndifaaiaa.Wd
open Go Go.RowKit
set_option linter.unusedVariables false

theorem pt_same {p : Nat} {L : List Ed} (h : L.Pairwise (Pt p)) {e e' : Ed} (he : e ∈ L) (he' : e' ∈ L) (hf : e.f = e'.f) {l : Nat} (hl : l < 2 ^ p) (h1 : letB (l : Int) e = true) (h2 : letB (l : Int) e' = true) : e = e' := by
  obtain ⟨i, hi, rfl⟩ := List.mem_iff_getElem.1 he
  obtain ⟨j, hj, rfl⟩ := List.mem_iff_getElem.1 he'
  rw [List.pairwise_iff_getElem] at h
  rcases Nat.lt_trichotomy i j with hij | hij | hij
  · exact absurd ⟨l, hl, h1, h2⟩ (h i j hi hj hij hf)
  · subst hij; rfl
  · exact absurd ⟨l, hl, h2, h1⟩ (h j i hj hi hij hf.symm)
theorem nextS_ex {es : List Ed} {s : Nat} {l : Int} {e : Ed} (he : e ∈ es) (hf : e.f = (s : Int)) (hl : letB l e = true) : ∃ j, nextS es s l = some j := by
  cases hn : nextS es s l with
  | some j => exact ⟨j, rfl⟩
  | none =>
    exfalso
    unfold nextS at hn
    rw [List.find?_eq_none] at hn
    obtain ⟨i, hi, rfl⟩ := getD_of_mem he
    exact hn i (List.mem_range.2 hi) (by rw [decide_eq_true hf, hl]; rfl)

section
variable {p S : Nat} {K M : Int} {st : List Int} {es : List Ed}
/-- What the states have. -/
def hasX (p S : Nat) (es : List Ed) : Nat → Nat := setX S (setsN p es es.length)
theorem hasX_bit {s l : Nat} (hl : l < 2 ^ p) : (hasX p S es s).testBit l = true ↔ s < S ∧ ∃ e ∈ es, e.f = (s : Int) ∧ letB (l : Int) e = true := by
  unfold hasX setX
  split
  · rename_i h
    rw [setsN_bit]
    constructor
    · rintro ⟨i, h1, h2, h3⟩
      rw [fitN_bit, decide_eq_true hl, Bool.true_and] at h3
      exact ⟨h, _, mem_of_getD h1, h2, h3⟩
    · rintro ⟨_, e, he, h2, h3⟩
      obtain ⟨i, hi, rfl⟩ := getD_of_mem he
      exact ⟨i, hi, h2, by rw [fitN_bit, decide_eq_true hl, Bool.true_and]; exact h3⟩
  · rename_i h
    rw [Nat.zero_testBit]
    exact ⟨fun h => (by cases h), fun h' => absurd h'.1 h⟩
theorem fill_mem {e : Ed} : e ∈ fillL p S K M es ↔ (∃ e0 ∈ es, e = orE (othF K M) e0) ∨ ∃ s, s < S + 1 ∧ ∃ x ∈ lackN p (hasX p S es) s, e = toE s S (infF K M) x := by
  show e ∈ es.map (orE (othF K M)) ++ sinkL p S (infF K M) (hasX p S es) (S + 1) ↔ _
  rw [List.mem_append, List.mem_map, sinkL_mem]
  constructor
  · rintro (⟨e0, h1, rfl⟩ | h)
    · exact .inl ⟨e0, h1, rfl⟩
    · exact .inr h
  · rintro (⟨e0, h1, rfl⟩ | h)
    · exact .inl ⟨e0, h1, rfl⟩
    · exact .inr h
/-- A new edge from s with the letter l: just where there is none. -/
theorem sink_iff (hp : p ≤ 6) {s l : Nat} (hl : l < 2 ^ p) : (∃ x ∈ lackN p (hasX p S es) s, letB (l : Int) (toE s S (infF K M) x) = true) ↔ ¬ (s < S ∧ ∃ e ∈ es, e.f = (s : Int) ∧ letB (l : Int) e = true) := by
  obtain ⟨h1, _, h3⟩ := lack_spec hp (hasX p S es) s
  rw [← hasX_bit hl, Bool.not_eq_true, ← h1 l hl]
  constructor
  · rintro ⟨x, hx, hb⟩
    refine ⟨x, hx, ?_⟩
    obtain ⟨c, b, _, _, _, rfl⟩ := h3 x hx
    show (cubeN p c b).testBit l = true
    rw [cube_bit hp hl (infF K M) s S]
    exact hb
  · rintro ⟨x, hx, hb⟩
    refine ⟨x, hx, ?_⟩
    obtain ⟨c, b, _, _, _, rfl⟩ := h3 x hx
    have hb' : (cubeN p c b).testBit l = true := hb
    rw [cube_bit hp hl (infF K M) s S] at hb'
    exact hb'

theorem fill_pairs (hp : p ≤ 6) (hS : ∀ e ∈ es, ∃ f : Nat, e.f = (f : Int) ∧ f < S) (h : es.Pairwise (Pt p)) : (fillL p S K M es).Pairwise (Pt p) := by
  show (es.map (orE (othF K M)) ++ sinkL p S (infF K M) (hasX p S es) (S + 1)).Pairwise (Pt p)
  rw [List.pairwise_append]
  refine ⟨?_, sinkL_apart hp, fun e he e' he' hf hm => ?_⟩
  · rw [List.pairwise_map]
    exact h.imp fun {x y} hxy hf hm => hxy hf hm
  · obtain ⟨e0, he0, rfl⟩ := List.mem_map.1 he
    obtain ⟨s, hs, x, hx, rfl⟩ := sinkL_mem.1 he'
    obtain ⟨l, hl, h1, h2⟩ := hm
    obtain ⟨f, hf0, hfS⟩ := hS e0 he0
    have hfs : e0.f = (s : Int) := hf
    have : s = f := by omega
    subst this
    exact (sink_iff (K := K) (M := M) hp hl).1 ⟨x, hx, h2⟩ ⟨hfS, e0, he0, hf0, h1⟩
theorem fill_whole (hp : p ≤ 6) : fullB p (fillL p S K M es) (S + 1) = true := by
  refine (fullB_iff hp _).2 fun s hs l hl => ?_
  have key : ∃ e ∈ fillL p S K M es, e.f = (s : Int) ∧ letB (l : Int) e = true := by
    by_cases h : s < S ∧ ∃ e ∈ es, e.f = (s : Int) ∧ letB (l : Int) e = true
    · obtain ⟨_, e, he, h1, h2⟩ := h
      exact ⟨orE (othF K M) e, fill_mem.2 (.inl ⟨e, he, rfl⟩), h1, h2⟩
    · obtain ⟨x, hx, h1⟩ := (sink_iff (K := K) (M := M) hp hl).2 h
      exact ⟨_, fill_mem.2 (.inr ⟨s, hs, x, hx, rfl⟩), rfl, h1⟩
  obtain ⟨e, he, h1, h2⟩ := key
  obtain ⟨i, hi, rfl⟩ := getD_of_mem he
  exact ⟨i, hi, h1, h2⟩
/-- Where Fill's automaton goes. -/
theorem fill_next (hp : p ≤ 6) (hS : ∀ e ∈ es, ∃ f : Nat, e.f = (f : Int) ∧ f < S) (h : es.Pairwise (Pt p)) {s l : Nat} (hs : s < S + 1) (hl : l < 2 ^ p) :
    ∃ j, nextS (fillL p S K M es) s (l : Int) = some j ∧ ((fillL p S K M es).getD j ed0).t = if s < S then (match nextS es s (l : Int) with | some i => (es.getD i ed0).t | none => (S : Int)) else (S : Int) := by
  have hfp := fill_pairs (K := K) (M := M) hp hS h
  by_cases hh : s < S ∧ ∃ e ∈ es, e.f = (s : Int) ∧ letB (l : Int) e = true
  · obtain ⟨hs1, e, he, h1, h2⟩ := hh
    obtain ⟨i, hi⟩ := nextS_ex he h1 h2
    obtain ⟨j, hj⟩ := nextS_ex (es := fillL p S K M es) (fill_mem.2 (.inl ⟨e, he, rfl⟩)) (show (orE (othF K M) e).f = (s : Int) from h1) h2
    refine ⟨j, hj, ?_⟩
    rw [if_pos hs1, hi]
    obtain ⟨a1, a2, a3⟩ := nextS_some hi
    obtain ⟨b1, b2, b3⟩ := nextS_some hj
    have e1 := pt_same hfp (mem_of_getD b1) (fill_mem.2 (.inl ⟨_, mem_of_getD a1, rfl⟩)) (b2.trans a2.symm) hl b3 a3
    rw [e1]; rfl
  · obtain ⟨x, hx, h1⟩ := (sink_iff (K := K) (M := M) hp hl).2 hh
    have hm := fill_mem (p := p) (S := S) (K := K) (M := M) (es := es).2 (.inr ⟨s, hs, x, hx, rfl⟩)
    obtain ⟨j, hj⟩ := nextS_ex hm rfl h1
    refine ⟨j, hj, ?_⟩
    obtain ⟨b1, b2, b3⟩ := nextS_some hj
    have e1 := pt_same hfp (mem_of_getD b1) hm b2 hl b3 h1
    rw [e1]
    split
    · rename_i hs1
      cases hn : nextS es s (l : Int) with
      | none => rfl
      | some i =>
        obtain ⟨a1, a2, a3⟩ := nextS_some hn
        exact absurd ⟨hs1, _, mem_of_getD a1, a2, a3⟩ hh
    · rfl

theorem or_zero {m : Int} (h0 : 0 ≤ m) (h : m < 2 ^ 40) : bits .or .i64 m 0 = m := by
  obtain ⟨k, rfl⟩ := Int.eq_ofNat_of_zero_le h0
  have hk : k < 2 ^ 40 := by
    have e : ((2 : Int) ^ 40) = ((2 ^ 40 : Nat) : Int) := by simp
    rw [e] at h; omega
  have := or_small k 0 (by omega) (by decide)
  rw [Nat.or_zero] at this
  exact this
theorem fill_valid (hp : p ≤ 6) (hS : S < 3000) (hn : st.length ≤ 1) (hv : autB p S K M st es = true) (hl : (fillL p S K M es).length ≤ 40000) : autB p ((S : Int) + 1) K (M + addF K M) (stF st.length S st) (fillL p S K M es) = true := by
  obtain ⟨⟨_, _, _, _, h0, h5⟩, hM, hst, _, hes⟩ := autB_true hv
  have hr := marksB_few hM
  obtain ⟨m1, m2, m3⟩ := marks_fit h0 h5 hM
  have e1 : ((S + 1 : Nat) : Int) = (S : Int) + 1 := by omega
  rw [← e1]
  refine aut_of hp (by omega) h0 h5 m1 ?_ hl fun e he => ?_
  · unfold stF
    split
    · unfold startB startP
      have e : (List.range [(S : Int)].length) = [0] := rfl
      rw [e]
      simp [prv]
      omega
    · unfold startB startP at hst ⊢
      rw [List.all_eq_true] at hst ⊢
      intro j hj
      have := of_decide_eq_true (hst j hj)
      exact decide_eq_true ⟨this.1, by omega⟩
  · rcases fill_mem.1 he with ⟨e0, he0, rfl⟩ | ⟨s, hs, x, hx, rfl⟩
    · obtain ⟨i, hi, rfl⟩ := getD_of_mem he0
      obtain ⟨q1, q2, q3, q4, q5, q6⟩ := of_decide_eq_true (edge_ok hes hi)
      refine decide_eq_true ⟨⟨q1.1, ?_⟩, ⟨q2.1, ?_⟩, ?_, q4, ?_⟩
      · show (es.getD i ed0).f < ((S + 1 : Nat) : Int); have := q1.2; omega
      · show (es.getD i ed0).t < ((S + 1 : Nat) : Int); have := q2.2; omega
      · have h3 := q3
        rw [show (p : Int).toNat = p by omega] at h3
        exact h3
      · show 0 ≤ bits .or .i64 (es.getD i ed0).m (othF K M) ∧ bits .or .i64 (es.getD i ed0).m (othF K M) < 2 ^ (M + addF K M).toNat
        by_cases hk : K = 1 ∧ M = 0
        · obtain ⟨rfl, rfl⟩ := hk
          have hm0 : (es.getD i ed0).m = 0 := by
            have h6 := q6
            rw [show (2 : Int) ^ (Int.toNat 0) = 1 from by decide] at h6
            omega
          rw [hm0]
          decide
        · have ho : othF K M = 0 := by unfold othF; rw [if_neg hk]
          have ha : M ≤ M + addF K M := by unfold addF; split <;> (try split) <;> omega
          have hM40 : M.toNat ≤ 40 := by omega
          have hp40 : (2 : Int) ^ M.toNat ≤ 2 ^ 40 := by
            have e2 : ∀ n : Nat, ((2 : Int) ^ n) = ((2 ^ n : Nat) : Int) := fun n => by simp
            rw [e2, e2]
            have := Nat.pow_le_pow_right (n := 2) (by decide) hM40
            omega
          rw [ho, or_zero q5 (by omega)]
          refine ⟨q5, ?_⟩
          have hmono : (2 : Int) ^ M.toNat ≤ 2 ^ (M + addF K M).toNat := by
            have e2 : ∀ n : Nat, ((2 : Int) ^ n) = ((2 ^ n : Nat) : Int) := fun n => by simp
            rw [e2, e2]
            have := Nat.pow_le_pow_right (n := 2) (by decide) (show M.toNat ≤ (M + addF K M).toNat by omega)
            omega
          omega
    · obtain ⟨c, b, hc, hb, hbc, rfl⟩ := (lack_spec hp (hasX p S es) s).2.2 x hx
      have h64 := (pow_six hp).2
      have h2p : ((c : Nat) : Int) < 2 ^ p := by
        have e2 : ((2 : Int) ^ p) = ((2 ^ p : Nat) : Int) := by simp
        rw [e2]; omega
      exact edB_of (f := s) (t := S) (c := c) (b := b) hs (by omega) h2p ((andNot_small (by omega) (by omega)).2 hbc) m3
theorem fill_len (hp : p ≤ 6) : (fillL p S K M es).length ≤ es.length + (S + 1) * 729 := by
  show (es.map (orE (othF K M)) ++ sinkL p S (infF K M) (hasX p S es) (S + 1)).length ≤ _
  rw [List.length_append, List.length_map]
  have := sinkL_len hp S (infF K M) (hasX p S es) (S + 1)
  omega
end

end Go.Proofs.Ytalgbcndifaaiaa.Wd

namespace Go.Proofs.Ytalgbcndifaaiaa.Wd
open Go Go.RowKit
set_option linter.unusedVariables false

theorem inf_no {kd mm : Nat} (hk : kd ≤ 5) (hm : marksB kd mm = true) : accB kd ((mm : Int) + addF kd mm).toNat (infF kd mm) = false := by
  have hr := marksB_few hm
  have key : ∀ K : Fin 6, ∀ m : Fin 41, marksB (K.val : Int) (m.val : Int) = true → accB (K.val : Int) ((m.val : Int) + addF K.val m.val).toNat (infF K.val m.val) = false := by decide +kernel
  exact key ⟨kd, by omega⟩ ⟨mm, by omega⟩ hm
theorem inf_nat (K M : Int) : ((infF K M).toNat : Int) = infF K M := by
  unfold infF
  split
  · rfl
  · split <;> rfl

section
variable {p S kd mm : Nat} {st : List Int} {es : List Ed} {f : Nat → Int}
theorem edge_facts (hv : autB p S kd mm st es = true) : ∀ e ∈ es, (∃ a : Nat, e.f = (a : Int) ∧ a < S) ∧ 0 ≤ e.m ∧ e.m < 2 ^ mm := by
  intro e he
  obtain ⟨_, _, _, _, hes⟩ := autB_true hv
  obtain ⟨i, hi, rfl⟩ := getD_of_mem he
  obtain ⟨q1, q2, q3, q4, q5, q6⟩ := of_decide_eq_true (edge_ok hes hi)
  refine ⟨⟨(es.getD i ed0).f.toNat, by omega, by omega⟩, q5, ?_⟩
  rw [show (mm : Int).toNat = mm by omega] at q6
  exact q6

/-- A run that comes to the sink stays there. -/
theorem sink_stays {ε : Nat → Ed} {st' : List Int} (hv : autB p S kd mm st es = true) (hr : RunE st' (fillL p S kd mm es) f ε) {k0 : Nat} (h0 : (ε k0).f = (S : Int) ∨ ∃ s, s < S + 1 ∧ ∃ x ∈ lackN p (hasX p S es) s, ε k0 = toE s S (infF kd mm) x) :
    ∀ k, k0 ≤ k → (ε k).m = infF kd mm := by
  have key : ∀ k, k0 ≤ k → ∃ s, s < S + 1 ∧ ∃ x ∈ lackN p (hasX p S es) s, ε k = toE s S (infF kd mm) x := by
    have hS : ∀ k, (ε k).f = (S : Int) → ∃ s, s < S + 1 ∧ ∃ x ∈ lackN p (hasX p S es) s, ε k = toE s S (infF kd mm) x := fun k hf => by
      rcases fill_mem.1 (hr.mem k) with ⟨e0, he0, h⟩ | h
      · obtain ⟨⟨a, ha, haS⟩, _⟩ := edge_facts hv e0 he0
        have : (ε k).f = e0.f := by rw [h]; rfl
        omega
      · exact h
    intro k hk
    induction k with
    | zero =>
      obtain rfl : k0 = 0 := by omega
      rcases h0 with h | h
      · exact hS 0 h
      · exact h
    | succ k ih =>
      by_cases e : k0 = k + 1
      · subst e
        rcases h0 with h | h
        · exact hS _ h
        · exact h
      · obtain ⟨s, _, x, _, hx⟩ := ih (by omega)
        refine hS (k + 1) ?_
        rw [← hr.next k, hx]
        rfl
  intro k hk
  obtain ⟨s, _, x, _, hx⟩ := key k hk
  rw [hx]; rfl
theorem sink_refused {ε : Nat → Ed} {st' : List Int} {x : Nat} (hv : autB p S kd mm st es = true) (hr : RunE st' (fillL p S kd mm es) f ε) (hx : ∀ b, x.testBit b = true ↔ InfE ε b) (ha : accB kd ((mm : Int) + addF kd mm).toNat (x : Int) = true) :
    (∀ k, ∃ e0 ∈ es, ε k = orE (othF kd mm) e0) ∧ (ε 0).f ≠ (S : Int) := by
  obtain ⟨⟨_, _, _, _, h0, h5⟩, hM, _⟩ := autB_true hv
  have no : ∀ k0, ¬ ((ε k0).f = (S : Int) ∨ ∃ s, s < S + 1 ∧ ∃ x ∈ lackN p (hasX p S es) s, ε k0 = toE s S (infF kd mm) x) := fun k0 h => by
    have hst := sink_stays hv hr h
    have e : x = (infF kd mm).toNat := by
      apply Nat.eq_of_testBit_eq
      intro b
      rw [Bool.eq_iff_iff, hx b]
      constructor
      · intro hb
        obtain ⟨k, hk, hkb⟩ := hb k0
        rw [hst k hk] at hkb
        exact hkb
      · intro hb n
        exact ⟨max n k0, by omega, by rw [hst _ (by omega)]; exact hb⟩
    have h1 := inf_no (kd := kd) (mm := mm) (by omega) hM
    rw [e, inf_nat, h1] at ha
    cases ha
  refine ⟨fun k => ?_, fun h => no 0 (.inl h)⟩
  rcases fill_mem.1 (hr.mem k) with h | h
  · exact h
  · exact absurd (.inr h) (no k)

theorem or_one : bits .or .i64 0 1 = 1 := by decide
theorem fill_acc (hp : p ≤ 6) (hn : st.length ≤ 1) (hv : autB p S kd mm st es = true) : AccW (stF st.length S st) (fillL p S kd mm es) kd ((mm : Int) + addF kd mm).toNat f ↔ AccW st es kd mm f := by
  obtain ⟨⟨_, _, _, _, h0, h5⟩, hM, _⟩ := autB_true hv
  have hr40 := marksB_few hM
  have hfacts := edge_facts hv
  have hp40 : (2 : Int) ^ mm ≤ 2 ^ 40 := by
    have e2 : ∀ n : Nat, ((2 : Int) ^ n) = ((2 ^ n : Nat) : Int) := fun n => by simp
    rw [e2, e2]
    have := Nat.pow_le_pow_right (n := 2) (by decide) (show mm ≤ 40 by omega)
    omega
  constructor
  · rintro ⟨ε', hr, x, hx, ha⟩
    obtain ⟨hall, hf0⟩ := sink_refused hv hr hx ha
    have hst : stF st.length S st = st := by
      unfold stF
      by_cases h : st.length = 0
      · exfalso
        have hs := hr.start
        unfold stF at hs
        rw [if_pos h] at hs
        exact hf0 (by simpa using hs)
      · rw [if_neg h]
    let ε : Nat → Ed := fun k => Classical.choose (hall k)
    have hε : ∀ k, ε k ∈ es ∧ ε' k = orE (othF kd mm) (ε k) := fun k => Classical.choose_spec (hall k)
    have hrun : RunE st es f ε := by
      refine ⟨?_, fun k => (hε k).1, fun k => ?_, fun k => ?_⟩
      · have h := hr.start
        rw [hst, (hε 0).2] at h
        exact h
      · have h := hr.reads k
        rw [(hε k).2] at h
        exact h
      · have h := hr.next k
        rw [(hε k).2, (hε (k + 1)).2] at h
        exact h
    by_cases hk : (kd : Int) = 1 ∧ (mm : Int) = 0
    · obtain ⟨hk1, hk2⟩ := hk
      have hk1' : kd = 1 := by omega
      have hk2' : mm = 0 := by omega
      subst hk1' hk2'
      have hm0 : ∀ k, (ε k).m = 0 := fun k => by
        obtain ⟨_, a, b⟩ := hfacts _ (hε k).1
        simp at b
        omega
      refine ⟨ε, hrun, 0, fun b => ?_, by decide⟩
      rw [Nat.zero_testBit]
      refine ⟨fun h => (by cases h), fun h => ?_⟩
      obtain ⟨k, _, hkb⟩ := h 0
      rw [hm0 k, show (0 : Int).toNat = 0 from rfl, Nat.zero_testBit] at hkb
      exact hkb
    · have ho : othF kd mm = 0 := by unfold othF; rw [if_neg hk]
      have hmk : ∀ k, (ε' k).m = (ε k).m := fun k => by
        obtain ⟨_, a, b⟩ := hfacts _ (hε k).1
        rw [(hε k).2, ho]
        exact or_zero a (by omega)
      have hxe : ∀ b, x.testBit b = true ↔ InfE ε b := fun b => by
        rw [hx b]
        refine forall_congr' fun n => exists_congr fun k => and_congr Iff.rfl ?_
        rw [hmk k]
      refine ⟨ε, hrun, x, hxe, ?_⟩
      by_cases h4 : (kd : Int) = 4 ∧ (mm : Int) = 0
      · obtain ⟨hk1, hk2⟩ := h4
        have hk1' : kd = 4 := by omega
        have hk2' : mm = 0 := by omega
        subst hk1' hk2'
        rfl
      · have had : addF kd mm = 0 := by unfold addF; rw [if_neg hk, if_neg h4]
        rw [had, Int.add_zero, Int.toNat_natCast] at ha
        exact ha
  · rintro ⟨ε, hr, x, hx, ha⟩
    have hst : stF st.length S st = st := by
      unfold stF
      by_cases h : st.length = 0
      · exfalso
        have hs := hr.start
        rw [List.eq_nil_of_length_eq_zero h] at hs
        cases hs
      · rw [if_neg h]
    let ε' : Nat → Ed := fun k => orE (othF kd mm) (ε k)
    have hrun : RunE (stF st.length S st) (fillL p S kd mm es) f ε' := ⟨by rw [hst]; exact hr.start, fun k => fill_mem.2 (.inl ⟨_, hr.mem k, rfl⟩), fun k => hr.reads k, fun k => hr.next k⟩
    by_cases hk : (kd : Int) = 1 ∧ (mm : Int) = 0
    · obtain ⟨hk1, hk2⟩ := hk
      have hk1' : kd = 1 := by omega
      have hk2' : mm = 0 := by omega
      subst hk1' hk2'
      have hm1 : ∀ k, (ε' k).m = 1 := fun k => by
        obtain ⟨_, a, b⟩ := hfacts _ (hr.mem k)
        simp at b
        have : (ε k).m = 0 := by omega
        show bits .or .i64 (ε k).m (othF (1 : Nat) (0 : Nat)) = 1
        rw [this]
        decide
      refine ⟨ε', hrun, 1, fun b => ?_, by decide⟩
      constructor
      · intro h n
        exact ⟨n, Nat.le_refl _, by rw [hm1]; exact h⟩
      · intro h
        obtain ⟨k, _, hkb⟩ := h 0
        rw [hm1 k] at hkb
        exact hkb
    · have ho : othF kd mm = 0 := by unfold othF; rw [if_neg hk]
      have hmk : ∀ k, (ε' k).m = (ε k).m := fun k => by
        obtain ⟨_, a, b⟩ := hfacts _ (hr.mem k)
        show bits .or .i64 (ε k).m (othF kd mm) = (ε k).m
        rw [ho]
        exact or_zero a (by omega)
      have hxe : ∀ b, x.testBit b = true ↔ InfE ε' b := fun b => by
        rw [hx b]
        refine forall_congr' fun n => exists_congr fun k => and_congr Iff.rfl ?_
        rw [hmk k]
      refine ⟨ε', hrun, x, hxe, ?_⟩
      by_cases h4 : (kd : Int) = 4 ∧ (mm : Int) = 0
      · obtain ⟨hk1, hk2⟩ := h4
        have hk1' : kd = 4 := by omega
        have hk2' : mm = 0 := by omega
        subst hk1' hk2'
        have hx0 : x = 0 := by
          apply Nat.eq_of_testBit_eq
          intro b
          rw [Nat.zero_testBit, Bool.eq_false_iff]
          intro hb
          obtain ⟨k, _, hkb⟩ := (hx b).1 hb 0
          obtain ⟨_, a, c⟩ := hfacts _ (hr.mem k)
          simp at c
          have : (ε k).m = 0 := by omega
          rw [this] at hkb
          rw [show (0 : Int).toNat = 0 from rfl, Nat.zero_testBit] at hkb
          cases hkb
        subst hx0
        decide
      · have had : addF kd mm = 0 := by unfold addF; rw [if_neg hk, if_neg h4]
        rw [had, Int.add_zero, Int.toNat_natCast]
        exact ha
end

end Go.Proofs.Ytalgbcndifaaiaa.Wd
