/-
  Valid of the reference of layer 5: its two loops, where the first wrong edge is wrong in way d.
-/
import Derived.Test.YtalgbcndifaaiaaAuRef2
namespace Go.Proofs.Ytalgbcndifaaiaa.Wd
open Go.RowKit
set_option linter.unusedVariables false

set_option maxRecDepth 100000 in
set_option maxHeartbeats 64000000 in
theorem refValid_d (P M : Nat) (S K : Int) (A E : Option Addr) (n c ne ce : Nat) (st : List Int) (es : List Ed) (w : World) (hP : P ≤ 6) (hM : M ≤ 40) (hS : 0 ≤ S) (hS2 : S ≤ 3000) (hK : 0 ≤ K) (hK2 : K ≤ 5) (hmk : marksB K M = true) (ha : Ints w A n st) (hn : n ≤ 17592186044416) (hE : EdgesAt w E ne es) (hne : ne ≤ 40000) (hw : Wrong P M S es ne wayD) :
    Calls Try.prog 8 #[.agg #[.int .i64 P, .int .i64 S, .slice A n c, .int .i64 K, .int .i64 M, .slice E ne ce]] w fun e w' => e = .returned (.bool (startB S st && edgesB P S M es)) ∧ Below w.heap.size w w' := by
  have HA := Lib.hid ha
  have HW := Lib.hid hw
  clear hw
  have HL := Lib.hid ha.1
  have HE := Lib.hid hE
  have HEL := Lib.hid hE.1
  have HMk := Lib.hid (fun w => refMarks_any K M w hK hK2)
  rw [hmk] at HMk
  obtain ⟨PP, hPP, HPP⟩ : ∃ X : Int, IntKind.i64.wrap ((2 : Int) ^ P) = X ∧ Hid ((2 : Int) ^ P = X) := ⟨_, pow_wrap6 hP, rfl⟩
  obtain ⟨MM, hMM, HMM⟩ : ∃ X : Int, IntKind.i64.wrap ((2 : Int) ^ M) = X ∧ Hid ((2 : Int) ^ M = X) := ⟨_, (pow_wrap40 hM).1, rfl⟩
  have hP0 : (0 : Int) ≤ (P : Int) := by omega
  have hM0 : (0 : Int) ≤ (M : Int) := by omega
  have hle : ¬ (40000 : Int) < (ne : Int) := by omega
  have hle2 : decide ((40000 : Int) < (ne : Int)) = false := decide_eq_false hle
  have hP6 : (P : Int) ≤ 6 := by omega
  have hM40 : (M : Int) ≤ 40 := by omega
  clear hE ha hmk
  go_enter Try.func8, Try.ntmps8
  go_wp2_with fail
  refine (HMk.out _).mono ?_
  rintro e w1 ⟨rfl, rfl⟩
  go_wp2_with fail
  obtain ⟨W0, hW0⟩ : ∃ W0, w.alloc (.cells #[.int .i64 P, .int .i64 S, .slice A n c, .int .i64 K, .int .i64 M, .slice E ne ce] 25) = W0 := ⟨_, rfl⟩
  have q0 : W0.cell? ⟨w.heap.size, 0, none⟩ = some (.int .i64 P) := by rw [← hW0, box_last]; rfl
  have q1 : W0.cell? ⟨w.heap.size, 1, none⟩ = some (.int .i64 S) := by rw [← hW0, box_last]; rfl
  have q2 : W0.cell? ⟨w.heap.size, 2, none⟩ = some (.slice A n c) := by rw [← hW0, box_last]; rfl
  have q4 : W0.cell? ⟨w.heap.size, 4, none⟩ = some (.int .i64 M) := by rw [← hW0, box_last]; rfl
  have q5 : W0.cell? ⟨w.heap.size, 5, none⟩ = some (.slice E ne ce) := by rw [← hW0, box_last]; rfl
  have hz : w.heap.size < W0.heap.size := by rw [← hW0]; simp
  have HB0 := Lib.hid (show Below w.heap.size w W0 by rw [← hW0]; exact (Below.refl _ _).alloc (Nat.le_refl _) _)
  rw [hW0]
  clear hW0
  go_loopg [52] n (fun g i wx => ∃ t : Nat, t + g = n ∧ i = .int .i64 t ∧ Hid (startP S st t = true) ∧ Hid (Below W0.heap.size W0 wx))
  case atStart => exact ⟨0, by omega, rfl, startP_zero S st, Below.refl _ _⟩
  case round =>
    obtain ⟨t, htg, rfl, HP, HBx⟩ := hrel
    have hti : (0 : Int) ≤ (t : Int) := by omega
    have HBw := Lib.hid (HB0.out.trans (HBx.out.mono HB0.out.size))
    have r1 := (HBx.out.cell (p := ⟨w.heap.size, 1, none⟩) hz).trans q1
    have r2 := (HBx.out.cell (p := ⟨w.heap.size, 2, none⟩) hz).trans q2
    have r5 := (HBx.out.cell (p := ⟨w.heap.size, 5, none⟩) hz).trans q5
    cases gk with
    | zero =>
      obtain rfl : n = t := by omega
      have HS := Lib.hid (show startB S st = true by unfold startB; rw [HL.out]; exact HP.out)
      clear HP
      go_wp2_with fail
      clear r1 r2 r5
      go_loopg [83] ne (fun g i wx => ∃ t : Nat, t + g = ne ∧ i = .int .i64 t ∧ Hid (edgesB P S M (es.take t) = true) ∧ Hid (Below W0.heap.size W0 wx))
      case atStart => exact ⟨0, by omega, rfl, by show edgesB _ _ _ _ = true; simp [edgesB], HBx.out⟩
      case round =>
        clear HBw HBx htg hti
        obtain ⟨t, htg, rfl, HP, HBx⟩ := hrel
        have hti : (0 : Int) ≤ (t : Int) := by omega
        have HBw := Lib.hid (HB0.out.trans (HBx.out.mono HB0.out.size))
        have r0 := (HBx.out.cell (p := ⟨w.heap.size, 0, none⟩) hz).trans q0
        have r1 := (HBx.out.cell (p := ⟨w.heap.size, 1, none⟩) hz).trans q1
        have r4 := (HBx.out.cell (p := ⟨w.heap.size, 4, none⟩) hz).trans q4
        have hzr := Nat.lt_of_lt_of_le hz HBx.out.size
        cases gk with
        | zero =>
          obtain rfl : ne = t := by omega
          have HF := Lib.hid (show (startB S st && edgesB P S M es) = true by have h := HP.out; rw [List.take_of_length_le (by rw [HEL.out]; omega)] at h; rw [HS.out, h]; rfl)
          go_wp2_with fail
          go_ret
          exact ⟨ret_bool HF.out.symm, HBw.out⟩
        | succ q =>
          have ht1 : t < ne := by omega
          have hti2 : (t : Int) < (ne : Int) := by omega
          obtain ⟨b, off, rfl, hlt, hcell⟩ := (HE.out.below HBw.out).2 (by omega)
          obtain ⟨c0, c1, c2, c3, c4⟩ := hcell t ht1
          have HBD := Lib.hid (fun h => show (startB S st && edgesB P S M es) = false by rw [edgesB_bad (P := P) (M := M) (S := S) (es := es) (k := t) (by rw [HEL.out]; exact ht1) h, Bool.and_false])
          have HST := Lib.hid (edgesB_step (P := P) (M := M) (S := S) (es := es) (k := t) (by rw [HEL.out]; exact ht1) HP.out)
          have HWT := Lib.hid (HW.out t ht1 HP.out)
          generalize es.getD t ed0 = x at *
          obtain ⟨ef, et, ec, eb, em⟩ := x
          simp only at c0 c1 c2 c3 c4
          obtain ⟨r, hr, HR⟩ : ∃ r : Int, bits .andNot .i64 eb ec = r ∧ Hid (bits .andNot .i64 eb ec = r) := ⟨_, rfl, rfl⟩
          have HED := Lib.hid (show edB P S M ⟨ef, et, ec, eb, em⟩ = decide ((0 ≤ ef ∧ ef < S) ∧ (0 ≤ et ∧ et < S) ∧ (0 ≤ ec ∧ ec < PP) ∧ r = 0 ∧ 0 ≤ em ∧ em < MM) by unfold edB; simp only; rw [HPP.out, HMM.out, HR.out])
          clear hcell
          rcases HWT.out with hg | hb
          · rw [HED.out] at hg
            obtain ⟨⟨h, h2⟩, ⟨h3, h4⟩, ⟨h5, h6⟩, h7, h8, h9⟩ := of_decide_eq_true hg
            clear hg
            have HN := Lib.hid (HST.out (by rw [HED.out]; exact decide_eq_true (by omega)))
            subst h7
            go_wp2_with fail
            go_quiet (fail)
            go_wp2_with fail
            go_roundg q
            case measure => omega
            case rel =>
              refine ⟨t + 1, by omega, by go_num, HN, ?_⟩
              show Below _ _ _
              (repeat first | apply below_drewN | refine Below.alloc ?_ (by first | exact HBx.out.size | (have := HBx.out.size; simp <;> omega)) _)
              exact HBx.out
          · unfold wayD at hb; simp only at hb; rw [HPP.out] at hb; rw [HR.out] at hb
            obtain ⟨h, h2, h3, h4, h5, h6, h7⟩ := hb
            have HF := Lib.hid (HBD.out (by rw [HED.out]; exact decide_eq_false (by intro hx; omega)))
            have h7' : (r == 0) = false := by simpa using h7
            have h7'' : (r != 0) = true := by simpa using h7
            clear h7
            go_wp2_with fail
            go_quiet (fail)
            go_wp2_with fail
            go_ret
            refine ⟨ret_bool HF.out.symm, ?_⟩
            (repeat first | apply below_drewN | refine Below.alloc ?_ (by first | exact HBw.out.size | (have := HBw.out.size; simp <;> omega)) _)
            exact HBw.out
    | succ q =>
      have ht1 : t < n := by omega
      have hti2 : (t : Int) < (n : Int) := by omega
      obtain ⟨b, off, rfl, hlt, hcell⟩ := (HA.out.below HBw.out).at_ ht1
      have hct := hcell t ht1
      have HBD := Lib.hid (fun h => show (startB S st && edgesB P S M es) = false by rw [startB_bad (S := S) (st := st) (k := t) (by rw [HL.out]; exact ht1) h]; rfl)
      have HST := Lib.hid (startP_step HP.out)
      have HLO := Lib.hid (prv_low HP.out)
      have hcase : st.getD t 0 < 0 ∨ (0 ≤ st.getD t 0 ∧ S ≤ st.getD t 0) ∨ (0 ≤ st.getD t 0 ∧ st.getD t 0 < S) := by omega
      cases t with
      | zero =>
        have HPV := Lib.hid (show prv st 0 = -1 from rfl)
        generalize st.getD 0 0 = x at *
        have hct0 : wr.cell? ⟨b, off, none⟩ = some (.int .i64 x) := hct
        clear hcell hct
        rcases hcase with h1 | ⟨h1, h2⟩ | ⟨h1, h2⟩
        · have HF := Lib.hid (HBD.out (by rw [HPV.out]; omega))
          go_wp2_with fail
          go_ret
          exact ⟨ret_bool HF.out.symm, HBw.out⟩
        · have HF := Lib.hid (HBD.out (by rw [HPV.out]; omega))
          go_wp2_with fail
          go_ret
          exact ⟨ret_bool HF.out.symm, HBw.out⟩
        · have HN := Lib.hid (HST.out (by rw [HPV.out]; omega))
          go_wp2_with fail
          go_roundg q
          case measure => omega
          case rel => exact ⟨1, by omega, by go_num, HN, HBx⟩
      | succ u =>
        have hcu := hcell u (by omega)
        have HPS := Lib.hid (prv_succ st u)
        generalize prv st (u + 1) = l at *
        have HPS2 := Lib.hid HPS.out.symm
        clear HPS
        generalize hv : st.getD u 0 = v at *
        clear hv
        obtain rfl := HPS2.out
        generalize st.getD (u + 1) 0 = x at *
        clear hcell
        have hu0 : (0 : Int) ≤ (u : Int) := by omega
        have hu2 : (u : Int) < (n : Int) := by omega
        have hlo := HLO.out
        rcases hcase with h1 | ⟨h1, h2⟩ | ⟨h1, h2⟩
        · have HF := Lib.hid (HBD.out (by omega))
          go_wp2_with fail
          go_ret
          exact ⟨ret_bool HF.out.symm, HBw.out⟩
        · have HF := Lib.hid (HBD.out (by omega))
          go_wp2_with fail
          go_ret
          exact ⟨ret_bool HF.out.symm, HBw.out⟩
        · rcases Int.lt_or_le v x with h3 | h3
          · have HN := Lib.hid (HST.out ⟨h3, h2⟩)
            go_wp2_with fail
            go_roundg q
            case measure => omega
            case rel => exact ⟨u + 2, by omega, by go_num, HN, HBx⟩
          · have HF := Lib.hid (HBD.out (by omega))
            go_wp2_with fail
            go_ret
            exact ⟨ret_bool HF.out.symm, HBw.out⟩

end Go.Proofs.Ytalgbcndifaaiaa.Wd
