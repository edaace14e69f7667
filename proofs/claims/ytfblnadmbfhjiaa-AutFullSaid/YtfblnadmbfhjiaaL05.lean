/-
  wide of lodesmanlaw05: an automaton whose states have edges of one letter to themselves.
-/
import Derived.Test.YtfblnadmbfhjiaaL02
import Derived.Test.YtfblnadmbfhjiaaL04
import Derived.IntWalk
namespace Go.Proofs.Ytfblnadmbfhjiaa.Wd
open Go.RowKit
set_option linter.unusedVariables false
set_option linter.unusedSimpArgs false

/-- The edges of state s with the first k letters; those of the first s states. -/
def rowW (c : Int) (G s : Nat) : Nat → List Ed
  | 0 => []
  | k + 1 => rowW c G s k ++ (if 0 < k ∨ s % G ≠ 0 then [⟨s, s, c, k, 0⟩] else [])
def wideL (c : Int) (N G : Nat) : Nat → List Ed
  | 0 => []
  | s + 1 => wideL c N G s ++ rowW c G s N
theorem rowW_len (c : Int) (G s k : Nat) : (rowW c G s k).length ≤ k := by
  induction k with
  | zero => simp [rowW]
  | succ k ih =>
    rw [rowW, List.length_append]
    split <;> simp <;> omega
theorem wideL_len (c : Int) (N G s : Nat) : (wideL c N G s).length ≤ s * N := by
  induction s with
  | zero => simp [wideL]
  | succ s ih =>
    rw [wideL, List.length_append, Nat.succ_mul]
    have := rowW_len c G s N
    omega
theorem rowW_yes {c : Int} {G s k : Nat} (h : 0 < k ∨ s % G ≠ 0) : rowW c G s (k + 1) = rowW c G s k ++ [⟨s, s, c, k, 0⟩] := by rw [rowW, if_pos h]
theorem rowW_no {c : Int} {G s k : Nat} (h : ¬ (0 < k ∨ s % G ≠ 0)) : rowW c G s (k + 1) = rowW c G s k := by rw [rowW, if_neg h, List.append_nil]

structure WwS (h p : Nat) (S K M : Int) (vE : Value) (L : List Ed) (W1 W : World) : Prop where
  b2 : Below (h + 2) W1 W
  hs : h + 3 ≤ W.heap.size
  qc : W.cell? ⟨h + 2, 0, none⟩ = some (.int .i64 p) ∧ W.cell? ⟨h + 2, 1, none⟩ = some (.int .i64 S) ∧ W.cell? ⟨h + 2, 2, none⟩ = some (.slice (some ⟨h + 1, 0, none⟩) 1 1) ∧ W.cell? ⟨h + 2, 3, none⟩ = some (.int .i64 K) ∧ W.cell? ⟨h + 2, 4, none⟩ = some (.int .i64 M) ∧ W.cell? ⟨h + 2, 5, none⟩ = some vE
  qf : ∀ i, W.frozen? ⟨h + 2, i, none⟩ = false
  oE : W.ownsRow (h + 3) 54 5 vE L.length (edsV L)
theorem WwS.below {h p : Nat} {S K M : Int} {vE : Value} {L : List Ed} {W1 W W' : World} (s : WwS h p S K M vE L W1 W) (hb : Below W.heap.size W W') : WwS h p S K M vE L W1 W' := by
  have hs := s.hs
  have hc := fun i => hb.cell (p := ⟨h + 2, i, none⟩) (show h + 2 < W.heap.size by omega)
  obtain ⟨q0, q1, q2, q3, q4, q5⟩ := s.qc
  exact ⟨s.b2.trans (hb.mono (by omega)), Nat.le_trans hs hb.size, ⟨(hc 0).trans q0, (hc 1).trans q1, (hc 2).trans q2, (hc 3).trans q3, (hc 4).trans q4, (hc 5).trans q5⟩, fun i => (hb.frozen (p := ⟨h + 2, i, none⟩) (show h + 2 < W.heap.size by omega)).trans (s.qf i), own_keep s.oE hb⟩
theorem WwS.grow {h p : Nat} {S K M : Int} {vE v' : Value} {L : List Ed} {W1 W W2 : World} {x : Ed} (s : WwS h p S K M vE L W1 W) (ho : W2.ownsRow (h + 3) 54 5 v' (L.length + 1) (edsV L ++ edV x)) (hg : W.grownBy W2 vE.ownBlock) : WwS h p S K M v' (L ++ [x]) W1 (W2.setCell ⟨h + 2, 5, none⟩ v') := by
  have hs := s.hs
  have hb : Below (h + 3) W W2 := below_own s.oE hg hs
  have hc := fun i => hb.cell (p := ⟨h + 2, i, none⟩) (show h + 2 < h + 3 by omega)
  obtain ⟨q0, q1, q2, q3, q4, q5⟩ := s.qc
  have hl : (L ++ [x]).length = L.length + 1 := by simp
  exact ⟨(s.b2.trans (hb.mono (by omega))).setCell (p := ⟨h + 2, 5, none⟩) (Nat.le_refl _) _, by have := hb.size; simp; omega,
    ⟨(set_oth (by decide) _).trans ((hc 0).trans q0), (set_oth (by decide) _).trans ((hc 1).trans q1), (set_oth (by decide) _).trans ((hc 2).trans q2), (set_oth (by decide) _).trans ((hc 3).trans q3), (set_oth (by decide) _).trans ((hc 4).trans q4), World.cell?_setCell_same _ _ _ ((hc 5).trans q5)⟩,
    fun i => by rw [World.frozen?_setCell]; exact (hb.frozen (p := ⟨h + 2, i, none⟩) (show h + 2 < h + 3 by omega)).trans (s.qf i),
    ownsRow_setCell_below (by rw [hl, edsV_snoc]; exact ho) (a := ⟨h + 2, 5, none⟩) (show h + 2 < h + 3 by omega) _⟩
theorem edge_new1 (w : World) (t' : TypeId) (e : Ed) : ∀ j u, (edV e)[j]? = some u → (w.alloc (.cells #[.int .i64 e.f, .int .i64 e.t, .int .i64 e.c, .int .i64 e.b, .int .i64 e.m] t')).cell? ((⟨w.heap.size, 0, none⟩ : Addr).add j) = some u := by
  intro j u hu
  rw [Addr.add_lit, Nat.zero_add, box_last, List.getElem?_toArray]
  exact hu

set_option maxRecDepth 100000 in
set_option maxHeartbeats 8000000 in
theorem wide_any (p S G : Nat) (Kd M : Int) (w : World) (hp : p ≤ 6) (hS : S ≤ 3000) (hG : 1 ≤ G) (hG2 : G < 9223372036854775808) :
    Calls Try.prog 36 #[.int .i64 Kd, .int .i64 M, .int .i64 p, .int .i64 S, .int .i64 G] w fun e w' => ∃ A2 m c2, e = .returned (.agg #[.int .i64 p, .int .i64 S, .slice (some ⟨w.heap.size + 1, 0, none⟩) 1 1, .int .i64 Kd, .int .i64 M, .slice A2 m c2]) ∧
      Ints w' (some ⟨w.heap.size + 1, 0, none⟩) 1 [0] ∧ EdgesAt w' A2 m (wideL ((2 : Int) ^ p - 1) (2 ^ p) G S) ∧ Below w.heap.size w w' := by
  obtain ⟨iE, hiE, hiE0, hiE1, hiE2⟩ := info_parts edge_info
  obtain ⟨N, hN, HN⟩ : ∃ N : Nat, IntKind.i64.wrap ((2 : Int) ^ p) = (N : Int) ∧ Hid (2 ^ p = N) := ⟨2 ^ p, (pow_six hp).1, rfl⟩
  have hN64 : N ≤ 64 := by rw [← HN.out]; exact (pow_six hp).2
  have hN0 : 1 ≤ N := by rw [← HN.out]; exact Nat.two_pow_pos p
  have HC := Lib.hid (show (2 : Int) ^ p - 1 = (N : Int) - 1 by rw [← HN.out]; simp)
  have hp0 : (0 : Int) ≤ (p : Int) := by omega
  have hp6 : (p : Int) ≤ 6 := by omega
  have hG0 : ((G : Int) == 0) = false := by simp; omega
  obtain ⟨W1, hW1⟩ : ∃ W1, (((w.alloc (.cells #[.int .i64 0, .int .i64 0, .slice none 0 0, .int .i64 0, .int .i64 0, .slice none 0 0] 25)).alloc (.cells #[.int .i64 0] 3)).alloc (.cells #[.int .i64 p, .int .i64 S, .slice (some ⟨w.heap.size + 1, 0, none⟩) 1 1, .int .i64 Kd, .int .i64 M, .slice none 0 0] 25)) = W1 := ⟨_, rfl⟩
  have HBw := Lib.hid (show Below w.heap.size w W1 by rw [← hW1]; exact (((Below.refl _ _).alloc (Nat.le_refl _) _).alloc (by simp) _).alloc (by simp; omega) _)
  have HZZ := Lib.hid (show W1.heap.size = w.heap.size + 3 by rw [← hW1]; simp)
  obtain ⟨Wb, hWb⟩ : ∃ Wb, w.alloc (.cells #[.int .i64 0, .int .i64 0, .slice none 0 0, .int .i64 0, .int .i64 0, .slice none 0 0] 25) = Wb := ⟨_, rfl⟩
  have hzb : Wb.heap.size = w.heap.size + 1 := by rw [← hWb]; simp
  obtain ⟨Wa, hWa⟩ : ∃ Wa, Wb.alloc (.cells #[.int .i64 0] 3) = Wa := ⟨_, rfl⟩
  have hza : Wa.heap.size = w.heap.size + 2 := by rw [← hWa]; simp [hzb]
  have hW2 : Wa.alloc (.cells #[.int .i64 p, .int .i64 S, .slice (some ⟨w.heap.size + 1, 0, none⟩) 1 1, .int .i64 Kd, .int .i64 M, .slice none 0 0] 25) = W1 := by rw [← hWa, ← hWb]; exact hW1
  have hba : Below Wa.heap.size Wa W1 := by rw [← hW2]; exact (Below.refl _ _).alloc (Nat.le_refl _) _
  have hbb : Below Wb.heap.size Wb Wa := by rw [← hWa]; exact (Below.refl _ _).alloc (Nat.le_refl _) _
  have HRC := Lib.hid (show ∀ i, W1.cell? ⟨w.heap.size, i, none⟩ = #[Value.int .i64 0, .int .i64 0, .slice none 0 0, .int .i64 0, .int .i64 0, .slice none 0 0][i]? by
    intro i
    rw [hba.cell (p := ⟨w.heap.size, i, none⟩) (by show w.heap.size < Wa.heap.size; omega), hbb.cell (p := ⟨w.heap.size, i, none⟩) (by show w.heap.size < Wb.heap.size; omega), ← hWb, box_last])
  have HFZ := Lib.hid (show ∀ i, W1.frozen? ⟨w.heap.size, i, none⟩ = false by
    intro i
    rw [hba.frozen (p := ⟨w.heap.size, i, none⟩) (by show w.heap.size < Wa.heap.size; omega), hbb.frozen (p := ⟨w.heap.size, i, none⟩) (by show w.heap.size < Wb.heap.size; omega), ← hWb]
    simp)
  have HST := Lib.hid (show W1.cell? ⟨w.heap.size + 1, 0, none⟩ = some (.int .i64 0) by
    rw [hba.cell (p := ⟨w.heap.size + 1, 0, none⟩) (by show w.heap.size + 1 < Wa.heap.size; omega), ← hWa, ← hzb, box_last]
    rfl)
  have HS0 := Lib.hid (show WwS w.heap.size p S Kd M (.slice none 0 0) [] W1 W1 from ⟨Below.refl _ _, by rw [HZZ.out]; exact Nat.le_refl _, by
    have h := fun i => box_last Wa #[.int .i64 p, .int .i64 S, .slice (some ⟨w.heap.size + 1, 0, none⟩) 1 1, .int .i64 Kd, .int .i64 M, .slice none 0 0] 25 i
    rw [hW2, hza] at h
    exact ⟨h 0, h 1, h 2, h 3, h 4, h 5⟩, by intro i; rw [← hW2, ← hza]; simp, World.ownsRow_nil _ _ _ _⟩)
  have HW1 := Lib.hid hW1
  clear hba hbb hWa hWb hW2 hza hzb hW1
  have HWL := Lib.hid (show ∀ s, (wideL ((N : Int) - 1) N G s).length ≤ s * N from fun s => wideL_len _ _ _ s)
  have HRL := Lib.hid (show ∀ s k, (rowW ((N : Int) - 1) G s k).length ≤ k from fun s k => rowW_len _ _ s k)
  rw [HC.out, HN.out]
  have hS0 : (0 : Int) ≤ (S : Int) := by omega
  have hS1 : (S : Int) ≤ 3000 := by omega
  have hNi : (1 : Int) ≤ (N : Int) := by omega
  have hNi2 : (N : Int) ≤ 64 := by omega
  have hw1 : IntKind.i64.wrap ((N : Int) - 1) = (N : Int) - 1 := IntWalk.i64_in _ (by omega)
  clear HC
  go_enter Try.func36, Try.ntmps36
  go_wp2_with fail
  rw [HW1.out]
  go_loopg [21] S (fun g i wx => ∃ s m : Nat, ∃ A3 c3, s + g = S ∧ Hid ((wideL ((N : Int) - 1) N G s).length = m) ∧ i = .int .i64 s ∧ Hid (WwS w.heap.size p S Kd M (.slice A3 m c3) (wideL ((N : Int) - 1) N G s) W1 wx))
  case atStart => exact ⟨0, 0, none, 0, by omega, rfl, rfl, HS0.out⟩
  case round =>
    clear HS0
    obtain ⟨s, m, A3, c3, hsg, HM, rfl, HK⟩ := hrel
    have hsi : (0 : Int) ≤ (s : Int) := by omega
    cases gk with
    | zero =>
      obtain rfl : S = s := by omega
      obtain ⟨q0, q1, q2, q3, q4, q5⟩ := HK.out.qc
      have hz0 : w.heap.size < wr.heap.size := by have := HK.out.hs; omega
      have hz2 : w.heap.size + 2 < wr.heap.size := by have := HK.out.hs; omega
      have hzc := fun i => (HK.out.b2.cell (p := ⟨w.heap.size, i, none⟩) (show w.heap.size < w.heap.size + 2 by omega)).trans (HRC.out i)
      have z0 := hzc 0
      have z1 := hzc 1
      have z2 := hzc 2
      have z3 := hzc 3
      have z4 := hzc 4
      have z5 := hzc 5
      have hzf := fun i => (HK.out.b2.frozen (p := ⟨w.heap.size, i, none⟩) (show w.heap.size < w.heap.size + 2 by omega)).trans (HFZ.out i)
      have f0 := hzf 0
      have f1 := hzf 1
      have f2 := hzf 2
      have f3 := hzf 3
      have f4 := hzf 4
      have f5 := hzf 5
      have HZF := Lib.hid hzf
      have HZC := Lib.hid hzc
      clear hzf hzc
      simp only [List.getElem?_toArray, List.getElem?_cons_zero, List.getElem?_cons_succ] at z0 z1 z2 z3 z4 z5
      go_wp2_with fail
      obtain ⟨x0, x1, x2, x3, x4, x5⟩ := cells6 z0 z1 z2 z3 z4 z5 (.int .i64 p) (.int .i64 S) (.slice (some ⟨w.heap.size + 1, 0, none⟩) 1 1) (.int .i64 Kd) (.int .i64 M) (.slice A3 m c3)
      refine bodyPost_ret (v := .agg #[.int .i64 p, .int .i64 S, .slice (some ⟨w.heap.size + 1, 0, none⟩) 1 1, .int .i64 Kd, .int .i64 M, .slice A3 m c3]) (by simp [results, Try.results36, go_sem, x0, x1, x2, x3, x4, x5, z0, z1, z2, z3, z4, z5]) rfl ?_
      have hoE := HK.out.oE
      rw [HM.out] at hoE
      refine ⟨A3, m, c3, rfl, ⟨rfl, fun _ => ⟨w.heap.size + 1, 0, rfl, by simp; omega, fun j hj => ?_⟩⟩, EdgesAt.of_own (own6 hoE (show w.heap.size < w.heap.size + 3 by omega) _ _ _ _ _ _) HM.out, below6 (HBw.out.trans (HK.out.b2.mono (by omega))) (Nat.le_refl _) _ _ _ _ _ _⟩
      obtain rfl : j = 0 := by omega
      have far := fun (V : World) (o : Nat) (x : Value) => set_far (W := V) (a := w.heap.size) (b := w.heap.size + 1) (by omega) o 0 x
      show World.cell? _ ⟨w.heap.size + 1, 0, none⟩ = _
      rw [far, far, far, far, far, far]
      exact (HK.out.b2.cell (p := ⟨w.heap.size + 1, 0, none⟩) (show w.heap.size + 1 < w.heap.size + 2 by omega)).trans HST.out
    | succ gs =>
      have hs1 : s < S := by omega
      have hsi2 : (s : Int) < (S : Int) := by omega
      have hsi3 : (s : Int) < 3000 := by omega
      have HK0 := Lib.hid (show WwS w.heap.size p S Kd M (.slice A3 m c3) (wideL ((N : Int) - 1) N G s ++ rowW ((N : Int) - 1) G s 0) W1 wr by simpa [rowW] using HK.out)
      have HM0 := Lib.hid (show (wideL ((N : Int) - 1) N G s ++ rowW ((N : Int) - 1) G s 0).length = m by simpa [rowW] using HM.out)
      have HNX := Lib.hid (show wideL ((N : Int) - 1) N G s ++ rowW ((N : Int) - 1) G s N = wideL ((N : Int) - 1) N G (s + 1) from rfl)
      obtain ⟨L0, hL0⟩ : ∃ x, wideL ((N : Int) - 1) N G s = x := ⟨_, rfl⟩
      have HL0 := Lib.hid (show L0.length ≤ 192000 by
        rw [← hL0]
        have := HWL.out s
        have h2 : s * N ≤ 3000 * 64 := Nat.mul_le_mul (by omega) hN64
        omega)
      rw [hL0] at HK0 HM0 HNX
      have hrm : (s : Int).tmod (G : Int) = ((s % G : Nat) : Int) := by rw [Int.ofNat_tmod]
      obtain ⟨r, hr⟩ : ∃ r, s % G = r := ⟨_, rfl⟩
      rw [hr] at hrm
      have HRM := Lib.hid hrm
      have HRR := Lib.hid hr
      clear hL0 HK HM hrm hr
      go_wp2_with fail
      go_loopg [26] N (fun g i wx => ∃ k m : Nat, ∃ A3 c3, k + g = N ∧ Hid ((L0 ++ rowW ((N : Int) - 1) G s k).length = m) ∧ i = .int .i64 k ∧ Hid (WwS w.heap.size p S Kd M (.slice A3 m c3) (L0 ++ rowW ((N : Int) - 1) G s k) W1 wx))
      case atStart => exact ⟨0, m, A3, c3, by omega, HM0.out, rfl, HK0.out⟩
      case round =>
        clear HK0 HM0
        obtain ⟨k, m, A3, c3, hkg, HM, rfl, HK⟩ := hrel
        have hki : (0 : Int) ≤ (k : Int) := by omega
        cases gk with
        | zero =>
          obtain rfl : N = k := by omega
          go_wp2_with fail
          go_roundg gs
          case measure => omega
          case rel => exact ⟨s + 1, m, A3, c3, by omega, by rw [← HNX.out]; exact HM.out, by go_num, by rw [← HNX.out]; exact HK.out⟩
        | succ gk2 =>
          have hk1 : k < N := by omega
          have hki2 : (k : Int) < (N : Int) := by omega
          have hki3 : (k : Int) < 64 := by omega
          obtain ⟨_, _, _, _, _, q5⟩ := HK.out.qc
          by_cases hk : 0 < k
          · have hkp : (0 : Int) < (k : Int) := by omega
            have HY := Lib.hid (rowW_yes (c := (N : Int) - 1) (G := G) (s := s) (k := k) (.inl hk))
            clear hk
            go_upto_region 9 with fail
            refine wp_region_until_drew (st := [12]) (S := fun V => V.cell? ⟨w.heap.size + 2, 5, none⟩ = some (.slice A3 m c3)) (by kernel_rfl) q5 (fun hHeld => ?_)
            refine wpAnyU_pure (i := 0) (v := ?vd0) rfl (by kernel_rfl) (by kernel_rfl) (by kernel_rfl) (by kernel_rfl) (fun _ _ _ h => h) (Or.inl ⟨by rfl, fun V _ => ?hd0⟩) (fun _ => hHeld) ?rd0
            case hd0 => go_simp; try with_reducible rfl
            try simp only [Act.put, List.getElem_toArray, List.getElem_cons_zero, List.getElem_cons_succ, List.setIfInBounds_toArray, List.set_cons_zero, List.set_cons_succ]
            refine wpAnyU_load (i := 1) (v := ?vd1) rfl (by kernel_rfl) (by kernel_rfl) (by kernel_rfl) (by kernel_rfl) (fun _ _ _ h => h) (Or.inl ⟨by rfl, fun V hSw => ?hd1⟩) hHeld ?rd1
            case hd1 => (have hs1 := hSw); go_simp; try with_reducible rfl
            try simp only [Act.put, List.getElem_toArray, List.getElem_cons_zero, List.getElem_cons_succ, List.setIfInBounds_toArray, List.set_cons_zero, List.set_cons_succ]
            refine wpAnyU_pure (i := 2) (v := ?vd2) rfl (by kernel_rfl) (by kernel_rfl) (by kernel_rfl) (by kernel_rfl) (fun _ _ _ h => h) (Or.inl ⟨by rfl, fun V _ => ?hd2⟩) (fun _ => hHeld) ?rd2
            case hd2 => go_simp; try with_reducible rfl
            try simp only [Act.put, List.getElem_toArray, List.getElem_cons_zero, List.getElem_cons_succ, List.setIfInBounds_toArray, List.set_cons_zero, List.set_cons_succ]
            refine wpAnyU_pure (i := 3) (v := ?vd3) rfl (by kernel_rfl) (by kernel_rfl) (by kernel_rfl) (by kernel_rfl) (fun _ _ _ h => h) (Or.inl ⟨by rfl, fun V _ => ?hd3⟩) (fun _ => hHeld) ?rd3
            case hd3 => go_simp; try with_reducible rfl
            try simp only [Act.put, List.getElem_toArray, List.getElem_cons_zero, List.getElem_cons_succ, List.setIfInBounds_toArray, List.set_cons_zero, List.set_cons_succ]
            refine wpAnyU_pure (i := 4) (v := ?vd4) rfl (by kernel_rfl) (by kernel_rfl) (by kernel_rfl) (by kernel_rfl) (fun _ _ _ h => h) (Or.inl ⟨by rfl, fun V _ => ?hd4⟩) (fun _ => hHeld) ?rd4
            case hd4 => go_simp; try with_reducible rfl
            try simp only [Act.put, List.getElem_toArray, List.getElem_cons_zero, List.getElem_cons_succ, List.setIfInBounds_toArray, List.set_cons_zero, List.set_cons_succ]
            refine wpAnyU_pure (i := 5) (v := ?vd5) rfl (by kernel_rfl) (by kernel_rfl) (by kernel_rfl) (by kernel_rfl) (fun _ _ _ h => h) (Or.inl ⟨by rfl, fun V _ => ?hd5⟩) (fun _ => hHeld) ?rd5
            case hd5 => go_simp; try with_reducible rfl
            try simp only [Act.put, List.getElem_toArray, List.getElem_cons_zero, List.getElem_cons_succ, List.setIfInBounds_toArray, List.set_cons_zero, List.set_cons_succ]
            refine wpAnyU_pure (i := 6) (v := ?vd6) rfl (by kernel_rfl) (by kernel_rfl) (by kernel_rfl) (by kernel_rfl) (fun _ _ _ h => h) (Or.inl ⟨by rfl, fun V _ => ?hd6⟩) (fun _ => hHeld) ?rd6
            case hd6 => go_simp; try with_reducible rfl
            try simp only [Act.put, List.getElem_toArray, List.getElem_cons_zero, List.getElem_cons_succ, List.setIfInBounds_toArray, List.set_cons_zero, List.set_cons_succ]
            refine wpAnyU_pure (i := 7) (v := ?vd7) rfl (by kernel_rfl) (by kernel_rfl) (by kernel_rfl) (by kernel_rfl) (fun _ _ _ h => h) (Or.inl ⟨by rfl, fun V _ => ?hd7⟩) (fun _ => hHeld) ?rd7
            case hd7 => go_simp; try with_reducible rfl
            try simp only [Act.put, List.getElem_toArray, List.getElem_cons_zero, List.getElem_cons_succ, List.setIfInBounds_toArray, List.set_cons_zero, List.set_cons_succ]
            refine wpAnyU_pure (i := 8) (v := ?vd8) rfl (by kernel_rfl) (by kernel_rfl) (by kernel_rfl) (by kernel_rfl) (fun _ _ _ h => h) (Or.inl ⟨by rfl, fun V _ => ?hd8⟩) (fun _ => hHeld) ?rd8
            case hd8 => go_simp; try with_reducible rfl
            try simp only [Act.put, List.getElem_toArray, List.getElem_cons_zero, List.getElem_cons_succ, List.setIfInBounds_toArray, List.set_cons_zero, List.set_cons_succ]
            refine wpAnyU_ready (rs := [9]) (by kernel_rfl) (by simp) (AllU.cons (i := 9) rfl (fun K hK => ?_) AllU.nil)
            simp only [List.getElem_toArray, List.getElem_cons_zero, List.getElem_cons_succ]
            go_simp
            have HKA := Lib.hid (HK.out.below (((Below.refl wr.heap.size wr).alloc (Nat.le_refl _) (.cells #[.int .i64 s, .int .i64 s, .int .i64 ((N : Int) - 1), .int .i64 (k : Int), .int .i64 0] 54)).drew))
            refine hK.out _ _ (fun _ => HKA.out.qc.2.2.2.2.2) ?_
            clear hK K
            try simp only [Act.put, List.getElem_toArray, List.getElem_cons_zero, List.getElem_cons_succ, List.setIfInBounds_toArray, List.set_cons_zero, List.set_cons_succ]
            refine wpAnyU_ready (rs := [10]) (by kernel_rfl) (by simp) (AllU.cons (i := 10) rfl (fun K hK => ?_) AllU.nil)
            have hown0 := HKA.out.oE
            rw [HM.out] at hown0
            have hbase := HKA.out.hs
            refine step_append_edge _ (by rfl) _ _ 23 (by rfl) (w.heap.size + 3) 54 iE _ Try.underlying23 hiE hiE0 hiE1 hiE2 rfl (.slice A3 m c3) m (edsV (L0 ++ rowW ((N : Int) - 1) G s k)) (by rfl) (by exact hown0) ⟨wr.heap.size, 0, none⟩ 1 ⟨s, s, (N : Int) - 1, (k : Int), 0⟩ (by rfl) (by exact edge_new1 wr _ ⟨s, s, (N : Int) - 1, (k : Int), 0⟩) (by
              have h1 := HL0.out
              have h2 := HRL.out s k
              have h3 := HM.out
              rw [List.length_append] at h3
              omega) (by exact hbase) ?_
            intro v' w2 hown hgrow hat
            obtain ⟨A4, c4, rfl, _⟩ := own_any hown
            have hb2 : Below (w.heap.size + 3) _ w2 := below_own hown0 hgrow hbase
            have HG := Lib.hid (HKA.out.grow (x := ⟨s, s, (N : Int) - 1, (k : Int), 0⟩) (by rw [HM.out]; exact hown) hgrow)
            have hc2 : w2.cell? ⟨w.heap.size + 2, 5, none⟩ = some (.slice A3 m c3) := (hb2.cell (p := ⟨w.heap.size + 2, 5, none⟩) (show w.heap.size + 2 < w.heap.size + 3 by omega)).trans HKA.out.qc.2.2.2.2.2
            have hf2 : w2.frozen? ⟨w.heap.size + 2, 5, none⟩ = false := (hb2.frozen (p := ⟨w.heap.size + 2, 5, none⟩) (show w.heap.size + 2 < w.heap.size + 3 by omega)).trans (HKA.out.qf 5)
            have hz2 : w.heap.size + 2 < w2.heap.size := by have := hb2.size; omega
            have HLE := Lib.hid (show L0 ++ rowW ((N : Int) - 1) G s k ++ [⟨s, s, (N : Int) - 1, (k : Int), 0⟩] = L0 ++ rowW ((N : Int) - 1) G s (k + 1) by (rw [HY.out, List.append_assoc]); try rfl)
            have HLN := Lib.hid (show (L0 ++ rowW ((N : Int) - 1) G s (k + 1)).length = m + 1 by rw [← HLE.out, List.length_append, HM.out]; rfl)
            rw [HLE.out] at HG
            clear hown0 hown hgrow hat hb2 hHeld
            refine hK.out _ _ (fun _ => hc2) ?_
            clear hK K
            try simp only [Act.put, List.getElem_toArray, List.getElem_cons_zero, List.getElem_cons_succ, List.setIfInBounds_toArray, List.set_cons_zero, List.set_cons_succ]
            have hHeld0 := hc2
            refine wpAnyU_pure (i := 11) (v := ?vd11) rfl (by kernel_rfl) (by kernel_rfl) (by kernel_rfl) (by kernel_rfl) (fun _ _ _ h => h) (Or.inl ⟨by rfl, fun V _ => ?hd11⟩) (fun _ => hHeld0) ?rd11
            case hd11 => go_simp; try with_reducible rfl
            try simp only [Act.put, List.getElem_toArray, List.getElem_cons_zero, List.getElem_cons_succ, List.setIfInBounds_toArray, List.set_cons_zero, List.set_cons_succ]
            refine wpAnyU_ready (rs := [12]) (by kernel_rfl) (by simp) (AllU.cons (i := 12) rfl (fun K hK => ?_) AllU.nil)
            simp only [List.getElem_toArray, List.getElem_cons_zero, List.getElem_cons_succ]
            go_simp
            refine hK.out _ _ (fun h => by have h2 : false = true := h; cases h2) ?_
            clear hK K
            try simp only [Act.put, List.getElem_toArray, List.getElem_cons_zero, List.getElem_cons_succ, List.setIfInBounds_toArray, List.set_cons_zero, List.set_cons_succ]
            refine wpAnyU_done (by kernel_rfl) ?_ _
            clear hHeld0
            go_wp2_with fail
            go_roundg gk2
            case measure => omega
            case rel => exact ⟨k + 1, m + 1, A4, c4, by omega, HLN.out, by go_num, HG.out⟩
          · obtain rfl : k = 0 := by omega
            by_cases hr0 : r = 0
            · have HY := Lib.hid (rowW_no (c := (N : Int) - 1) (G := G) (s := s) (k := 0) (by rw [HRR.out]; omega))
              subst hr0
              have hrm : (s : Int).tmod (G : Int) = 0 := HRM.out
              go_wp2_with fail
              go_roundg gk2
              case measure => omega
              case rel => exact ⟨1, m, A3, c3, by omega, by rw [HY.out]; exact HM.out, by go_num, by rw [HY.out]; exact HK.out⟩
            · have HY := Lib.hid (rowW_yes (c := (N : Int) - 1) (G := G) (s := s) (k := 0) (.inr (by rw [HRR.out]; exact hr0)))
              have hrm := HRM.out
              have hr1 : ((r : Int) == 0) = false := by simpa using hr0
              clear hr0
              go_upto_region 9 with fail
              refine wp_region_until_drew (st := [12]) (S := fun V => V.cell? ⟨w.heap.size + 2, 5, none⟩ = some (.slice A3 m c3)) (by kernel_rfl) q5 (fun hHeld => ?_)
              refine wpAnyU_pure (i := 0) (v := ?ve0) rfl (by kernel_rfl) (by kernel_rfl) (by kernel_rfl) (by kernel_rfl) (fun _ _ _ h => h) (Or.inl ⟨by rfl, fun V _ => ?he0⟩) (fun _ => hHeld) ?re0
              case he0 => go_simp; try with_reducible rfl
              try simp only [Act.put, List.getElem_toArray, List.getElem_cons_zero, List.getElem_cons_succ, List.setIfInBounds_toArray, List.set_cons_zero, List.set_cons_succ]
              refine wpAnyU_load (i := 1) (v := ?ve1) rfl (by kernel_rfl) (by kernel_rfl) (by kernel_rfl) (by kernel_rfl) (fun _ _ _ h => h) (Or.inl ⟨by rfl, fun V hSw => ?he1⟩) hHeld ?re1
              case he1 => (have hs1 := hSw); go_simp; try with_reducible rfl
              try simp only [Act.put, List.getElem_toArray, List.getElem_cons_zero, List.getElem_cons_succ, List.setIfInBounds_toArray, List.set_cons_zero, List.set_cons_succ]
              refine wpAnyU_pure (i := 2) (v := ?ve2) rfl (by kernel_rfl) (by kernel_rfl) (by kernel_rfl) (by kernel_rfl) (fun _ _ _ h => h) (Or.inl ⟨by rfl, fun V _ => ?he2⟩) (fun _ => hHeld) ?re2
              case he2 => go_simp; try with_reducible rfl
              try simp only [Act.put, List.getElem_toArray, List.getElem_cons_zero, List.getElem_cons_succ, List.setIfInBounds_toArray, List.set_cons_zero, List.set_cons_succ]
              refine wpAnyU_pure (i := 3) (v := ?ve3) rfl (by kernel_rfl) (by kernel_rfl) (by kernel_rfl) (by kernel_rfl) (fun _ _ _ h => h) (Or.inl ⟨by rfl, fun V _ => ?he3⟩) (fun _ => hHeld) ?re3
              case he3 => go_simp; try with_reducible rfl
              try simp only [Act.put, List.getElem_toArray, List.getElem_cons_zero, List.getElem_cons_succ, List.setIfInBounds_toArray, List.set_cons_zero, List.set_cons_succ]
              refine wpAnyU_pure (i := 4) (v := ?ve4) rfl (by kernel_rfl) (by kernel_rfl) (by kernel_rfl) (by kernel_rfl) (fun _ _ _ h => h) (Or.inl ⟨by rfl, fun V _ => ?he4⟩) (fun _ => hHeld) ?re4
              case he4 => go_simp; try with_reducible rfl
              try simp only [Act.put, List.getElem_toArray, List.getElem_cons_zero, List.getElem_cons_succ, List.setIfInBounds_toArray, List.set_cons_zero, List.set_cons_succ]
              refine wpAnyU_pure (i := 5) (v := ?ve5) rfl (by kernel_rfl) (by kernel_rfl) (by kernel_rfl) (by kernel_rfl) (fun _ _ _ h => h) (Or.inl ⟨by rfl, fun V _ => ?he5⟩) (fun _ => hHeld) ?re5
              case he5 => go_simp; try with_reducible rfl
              try simp only [Act.put, List.getElem_toArray, List.getElem_cons_zero, List.getElem_cons_succ, List.setIfInBounds_toArray, List.set_cons_zero, List.set_cons_succ]
              refine wpAnyU_pure (i := 6) (v := ?ve6) rfl (by kernel_rfl) (by kernel_rfl) (by kernel_rfl) (by kernel_rfl) (fun _ _ _ h => h) (Or.inl ⟨by rfl, fun V _ => ?he6⟩) (fun _ => hHeld) ?re6
              case he6 => go_simp; try with_reducible rfl
              try simp only [Act.put, List.getElem_toArray, List.getElem_cons_zero, List.getElem_cons_succ, List.setIfInBounds_toArray, List.set_cons_zero, List.set_cons_succ]
              refine wpAnyU_pure (i := 7) (v := ?ve7) rfl (by kernel_rfl) (by kernel_rfl) (by kernel_rfl) (by kernel_rfl) (fun _ _ _ h => h) (Or.inl ⟨by rfl, fun V _ => ?he7⟩) (fun _ => hHeld) ?re7
              case he7 => go_simp; try with_reducible rfl
              try simp only [Act.put, List.getElem_toArray, List.getElem_cons_zero, List.getElem_cons_succ, List.setIfInBounds_toArray, List.set_cons_zero, List.set_cons_succ]
              refine wpAnyU_pure (i := 8) (v := ?ve8) rfl (by kernel_rfl) (by kernel_rfl) (by kernel_rfl) (by kernel_rfl) (fun _ _ _ h => h) (Or.inl ⟨by rfl, fun V _ => ?he8⟩) (fun _ => hHeld) ?re8
              case he8 => go_simp; try with_reducible rfl
              try simp only [Act.put, List.getElem_toArray, List.getElem_cons_zero, List.getElem_cons_succ, List.setIfInBounds_toArray, List.set_cons_zero, List.set_cons_succ]
              refine wpAnyU_ready (rs := [9]) (by kernel_rfl) (by simp) (AllU.cons (i := 9) rfl (fun K hK => ?_) AllU.nil)
              simp only [List.getElem_toArray, List.getElem_cons_zero, List.getElem_cons_succ]
              go_simp
              have HKA := Lib.hid (HK.out.below (((Below.refl wr.heap.size wr).alloc (Nat.le_refl _) (.cells #[.int .i64 s, .int .i64 s, .int .i64 ((N : Int) - 1), .int .i64 0, .int .i64 0] 54)).drew))
              refine hK.out _ _ (fun _ => HKA.out.qc.2.2.2.2.2) ?_
              clear hK K
              try simp only [Act.put, List.getElem_toArray, List.getElem_cons_zero, List.getElem_cons_succ, List.setIfInBounds_toArray, List.set_cons_zero, List.set_cons_succ]
              refine wpAnyU_ready (rs := [10]) (by kernel_rfl) (by simp) (AllU.cons (i := 10) rfl (fun K hK => ?_) AllU.nil)
              have hown0 := HKA.out.oE
              rw [HM.out] at hown0
              have hbase := HKA.out.hs
              refine step_append_edge _ (by rfl) _ _ 23 (by rfl) (w.heap.size + 3) 54 iE _ Try.underlying23 hiE hiE0 hiE1 hiE2 rfl (.slice A3 m c3) m (edsV (L0 ++ rowW ((N : Int) - 1) G s 0)) (by rfl) (by exact hown0) ⟨wr.heap.size, 0, none⟩ 1 ⟨s, s, (N : Int) - 1, 0, 0⟩ (by rfl) (by exact edge_new1 wr _ ⟨s, s, (N : Int) - 1, 0, 0⟩) (by
                have h1 := HL0.out
                have h2 := HRL.out s 0
                have h3 := HM.out
                rw [List.length_append] at h3
                omega) (by exact hbase) ?_
              intro v' w2 hown hgrow hat
              obtain ⟨A4, c4, rfl, _⟩ := own_any hown
              have hb2 : Below (w.heap.size + 3) _ w2 := below_own hown0 hgrow hbase
              have HG := Lib.hid (HKA.out.grow (x := ⟨s, s, (N : Int) - 1, 0, 0⟩) (by rw [HM.out]; exact hown) hgrow)
              have hc2 : w2.cell? ⟨w.heap.size + 2, 5, none⟩ = some (.slice A3 m c3) := (hb2.cell (p := ⟨w.heap.size + 2, 5, none⟩) (show w.heap.size + 2 < w.heap.size + 3 by omega)).trans HKA.out.qc.2.2.2.2.2
              have hf2 : w2.frozen? ⟨w.heap.size + 2, 5, none⟩ = false := (hb2.frozen (p := ⟨w.heap.size + 2, 5, none⟩) (show w.heap.size + 2 < w.heap.size + 3 by omega)).trans (HKA.out.qf 5)
              have hz2 : w.heap.size + 2 < w2.heap.size := by have := hb2.size; omega
              have HLE := Lib.hid (show L0 ++ rowW ((N : Int) - 1) G s 0 ++ [⟨s, s, (N : Int) - 1, 0, 0⟩] = L0 ++ rowW ((N : Int) - 1) G s (0 + 1) by (rw [HY.out, List.append_assoc]); try rfl)
              have HLN := Lib.hid (show (L0 ++ rowW ((N : Int) - 1) G s (0 + 1)).length = m + 1 by rw [← HLE.out, List.length_append, HM.out]; rfl)
              rw [HLE.out] at HG
              clear hown0 hown hgrow hat hb2 hHeld
              refine hK.out _ _ (fun _ => hc2) ?_
              clear hK K
              try simp only [Act.put, List.getElem_toArray, List.getElem_cons_zero, List.getElem_cons_succ, List.setIfInBounds_toArray, List.set_cons_zero, List.set_cons_succ]
              have hHeld0 := hc2
              refine wpAnyU_pure (i := 11) (v := ?ve11) rfl (by kernel_rfl) (by kernel_rfl) (by kernel_rfl) (by kernel_rfl) (fun _ _ _ h => h) (Or.inl ⟨by rfl, fun V _ => ?he11⟩) (fun _ => hHeld0) ?re11
              case he11 => go_simp; try with_reducible rfl
              try simp only [Act.put, List.getElem_toArray, List.getElem_cons_zero, List.getElem_cons_succ, List.setIfInBounds_toArray, List.set_cons_zero, List.set_cons_succ]
              refine wpAnyU_ready (rs := [12]) (by kernel_rfl) (by simp) (AllU.cons (i := 12) rfl (fun K hK => ?_) AllU.nil)
              simp only [List.getElem_toArray, List.getElem_cons_zero, List.getElem_cons_succ]
              go_simp
              refine hK.out _ _ (fun h => by have h2 : false = true := h; cases h2) ?_
              clear hK K
              try simp only [Act.put, List.getElem_toArray, List.getElem_cons_zero, List.getElem_cons_succ, List.setIfInBounds_toArray, List.set_cons_zero, List.set_cons_succ]
              refine wpAnyU_done (by kernel_rfl) ?_ _
              clear hHeld0
              go_wp2_with fail
              go_roundg gk2
              case measure => omega
              case rel => exact ⟨0 + 1, m + 1, A4, c4, by omega, HLN.out, by go_num, HG.out⟩

end Go.Proofs.Ytfblnadmbfhjiaa.Wd
