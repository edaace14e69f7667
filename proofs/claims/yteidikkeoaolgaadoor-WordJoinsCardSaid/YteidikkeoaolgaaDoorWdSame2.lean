/-
  Same of package word: it reports whether two words have the same letters.
-/
import Derived.Test.YteidikkeoaolgaaDoorWdSame
import Derived.Deep.RegionWith
import Derived.Deep.DeepCutAuto
namespace Go.Proofs.YteidikkeoaolgaaDoor.Wd
open Go.RowKit
set_option linter.unusedVariables false

theorem same_iff {s l s' l' s1 l1 s2 l2 : List Int} (h1 : NF (at_ s l) s1 l1) (h2 : NF (at_ s' l') s2 l2) : (eqB s1 s2 && eqB l1 l2) = true ↔ at_ s l = at_ s' l' := by
  simp only [eqB, Bool.and_eq_true, decide_eq_true_eq]
  constructor
  · rintro ⟨rfl, rfl⟩
    funext k
    rw [← h1.1 k, ← h2.1 k]
  · intro e
    rw [e] at h1
    exact h1.unique h2

/-- Behind the assignment of the two normal forms. -/
def Mid (w : World) (s l s' l' : List Int) (wx : World) : Prop :=
  ∃ A1 n1 c1 B1 m1 d1 s1 l1 A2 n2 c2 B2 m2 d2 s2 l2,
    (wx.cell? ⟨w.heap.size, 0, none⟩ = some (.slice A1 n1 c1) ∧ wx.cell? ⟨w.heap.size, 1, none⟩ = some (.slice B1 m1 d1) ∧ wx.cell? ⟨w.heap.size + 1, 0, none⟩ = some (.slice A2 n2 c2) ∧ wx.cell? ⟨w.heap.size + 1, 1, none⟩ = some (.slice B2 m2 d2)) ∧
    (Ints wx A1 n1 s1 ∧ Ints wx B1 m1 l1 ∧ Ints wx A2 n2 s2 ∧ Ints wx B2 m2 l2) ∧ Hid (NF (at_ s l) s1 l1 ∧ s1.length ≤ s.length ∧ l1.length ≤ l.length) ∧ Hid (NF (at_ s' l') s2 l2 ∧ s2.length ≤ s'.length ∧ l2.length ≤ l'.length) ∧ Below w.heap.size w wx

/-- The two stores, in either order. -/
theorem mid_of {w w4 : World} {s l s' l' : List Int} {A1 B1 A2 B2 : Option Addr} {n1 c1 m1 d1 n2 c2 m2 d2 : Nat} {s1 l1 s2 l2 : List Int} {a b c d : Value} (hz : w.heap.size + 1 < w4.heap.size)
    (u0 : w4.cell? ⟨w.heap.size, 0, none⟩ = some a) (u1 : w4.cell? ⟨w.heap.size, 1, none⟩ = some b) (u2 : w4.cell? ⟨w.heap.size + 1, 0, none⟩ = some c) (u3 : w4.cell? ⟨w.heap.size + 1, 1, none⟩ = some d)
    (na : ∀ z, a ≠ .int .i64 z) (nb : ∀ z, b ≠ .int .i64 z) (nc : ∀ z, c ≠ .int .i64 z) (nd : ∀ z, d ≠ .int .i64 z)
    (h1 : Ints w4 A1 n1 s1) (h2 : Ints w4 B1 m1 l1) (h3 : Ints w4 A2 n2 s2) (h4 : Ints w4 B2 m2 l2) (HN1 : Hid (NF (at_ s l) s1 l1 ∧ s1.length ≤ s.length ∧ l1.length ≤ l.length)) (HN2 : Hid (NF (at_ s' l') s2 l2 ∧ s2.length ≤ s'.length ∧ l2.length ≤ l'.length))
    (hb : Below w.heap.size w w4) :
    Mid w s l s' l' ((((w4.setCell ⟨w.heap.size, 0, none⟩ (.slice A1 n1 c1)).setCell ⟨w.heap.size, 1, none⟩ (.slice B1 m1 d1)).setCell ⟨w.heap.size + 1, 0, none⟩ (.slice A2 n2 c2)).setCell ⟨w.heap.size + 1, 1, none⟩ (.slice B2 m2 d2)) := by
  have keep : ∀ (W : World) (p q : Addr) (v x : Value), q ≠ p → W.cell? p = some x → (W.setCell q v).cell? p = some x := fun W p q v x hne h => (World.cell?_setCell_other W q p v hne).trans h
  have put : ∀ (W : World) (p : Addr) (v x : Value), W.cell? p = some x → (W.setCell p v).cell? p = some v := fun W p v x h => World.cell?_setCell_same W p v h
  have n01 : (⟨w.heap.size, 0, none⟩ : Addr) ≠ ⟨w.heap.size, 1, none⟩ := by simp
  have n02 : (⟨w.heap.size, 0, none⟩ : Addr) ≠ ⟨w.heap.size + 1, 0, none⟩ := by simp
  have n03 : (⟨w.heap.size, 0, none⟩ : Addr) ≠ ⟨w.heap.size + 1, 1, none⟩ := by simp
  have n12 : (⟨w.heap.size, 1, none⟩ : Addr) ≠ ⟨w.heap.size + 1, 0, none⟩ := by simp
  have n13 : (⟨w.heap.size, 1, none⟩ : Addr) ≠ ⟨w.heap.size + 1, 1, none⟩ := by simp
  have n23 : (⟨w.heap.size + 1, 0, none⟩ : Addr) ≠ ⟨w.heap.size + 1, 1, none⟩ := by simp
  generalize hW1 : w4.setCell ⟨w.heap.size, 0, none⟩ (.slice A1 n1 c1) = W1
  have a0 : W1.cell? ⟨w.heap.size, 0, none⟩ = some (.slice A1 n1 c1) := by rw [← hW1]; exact put _ _ _ _ u0
  have a1 : W1.cell? ⟨w.heap.size, 1, none⟩ = some b := by rw [← hW1]; exact keep _ _ _ _ _ n01 u1
  have a2 : W1.cell? ⟨w.heap.size + 1, 0, none⟩ = some c := by rw [← hW1]; exact keep _ _ _ _ _ n02 u2
  have a3 : W1.cell? ⟨w.heap.size + 1, 1, none⟩ = some d := by rw [← hW1]; exact keep _ _ _ _ _ n03 u3
  have i1 : Ints W1 A1 n1 s1 ∧ Ints W1 B1 m1 l1 ∧ Ints W1 A2 n2 s2 ∧ Ints W1 B2 m2 l2 := by rw [← hW1]; exact ⟨h1.set u0 na _, h2.set u0 na _, h3.set u0 na _, h4.set u0 na _⟩
  have b1 : Below w.heap.size w W1 := by rw [← hW1]; exact hb.setCell (Nat.le_refl _) _
  generalize hW2 : W1.setCell ⟨w.heap.size, 1, none⟩ (.slice B1 m1 d1) = W2
  have b0' : W2.cell? ⟨w.heap.size, 0, none⟩ = some (.slice A1 n1 c1) := by rw [← hW2]; exact keep _ _ _ _ _ n01.symm a0
  have b1' : W2.cell? ⟨w.heap.size, 1, none⟩ = some (.slice B1 m1 d1) := by rw [← hW2]; exact put _ _ _ _ a1
  have b2' : W2.cell? ⟨w.heap.size + 1, 0, none⟩ = some c := by rw [← hW2]; exact keep _ _ _ _ _ n12 a2
  have b3' : W2.cell? ⟨w.heap.size + 1, 1, none⟩ = some d := by rw [← hW2]; exact keep _ _ _ _ _ n13 a3
  have i2 : Ints W2 A1 n1 s1 ∧ Ints W2 B1 m1 l1 ∧ Ints W2 A2 n2 s2 ∧ Ints W2 B2 m2 l2 := by rw [← hW2]; exact ⟨i1.1.set a1 nb _, i1.2.1.set a1 nb _, i1.2.2.1.set a1 nb _, i1.2.2.2.set a1 nb _⟩
  have b2 : Below w.heap.size w W2 := by rw [← hW2]; exact b1.setCell (Nat.le_refl _) _
  generalize hW3 : W2.setCell ⟨w.heap.size + 1, 0, none⟩ (.slice A2 n2 c2) = W3
  have c0 : W3.cell? ⟨w.heap.size, 0, none⟩ = some (.slice A1 n1 c1) := by rw [← hW3]; exact keep _ _ _ _ _ n02.symm b0'
  have c1 : W3.cell? ⟨w.heap.size, 1, none⟩ = some (.slice B1 m1 d1) := by rw [← hW3]; exact keep _ _ _ _ _ n12.symm b1'
  have c2' : W3.cell? ⟨w.heap.size + 1, 0, none⟩ = some (.slice A2 n2 c2) := by rw [← hW3]; exact put _ _ _ _ b2'
  have c3 : W3.cell? ⟨w.heap.size + 1, 1, none⟩ = some d := by rw [← hW3]; exact keep _ _ _ _ _ n23 b3'
  have i3 : Ints W3 A1 n1 s1 ∧ Ints W3 B1 m1 l1 ∧ Ints W3 A2 n2 s2 ∧ Ints W3 B2 m2 l2 := by rw [← hW3]; exact ⟨i2.1.set b2' nc _, i2.2.1.set b2' nc _, i2.2.2.1.set b2' nc _, i2.2.2.2.set b2' nc _⟩
  have b3 : Below w.heap.size w W3 := by rw [← hW3]; exact b2.setCell (by simp) _
  exact ⟨_, _, _, _, _, _, _, _, _, _, _, _, _, _, _, _, ⟨keep _ _ _ _ _ n03.symm c0, keep _ _ _ _ _ n13.symm c1, keep _ _ _ _ _ n23.symm c2', put _ _ _ _ c3⟩,
    ⟨i3.1.set c3 nd _, i3.2.1.set c3 nd _, i3.2.2.1.set c3 nd _, i3.2.2.2.set c3 nd _⟩, HN1, HN2, b3.setCell (by simp) _⟩

set_option maxRecDepth 100000 in
set_option maxHeartbeats 40000000 in
theorem Same_good (v u : Value) (s l s' l' : List Int) (w : World) (h : IsWord w v s l) (h' : IsWord w u s' l') (h1 : s.length + l.length ≤ 100000) (h1' : s'.length + l'.length ≤ 100000) (hv : validB 6 s l = true) (hv' : validB 6 s' l' = true) :
    Calls Tryd.prog 11 #[v, u] w fun e w' => ∃ r : Bool, e = .returned (.tuple #[.bool r, .int .i64 0]) ∧ Hid (r = true ↔ at_ s l = at_ s' l') ∧ Below w.heap.size w w' := by
  obtain ⟨A, n, c, B, m, d, rfl, ha, hb, hnc, hmd⟩ := h
  obtain ⟨A', n', c', B', m', d', rfl, ha', hb', hnc', hmd'⟩ := h'
  have e1 := ha.1
  have e2 := hb.1
  have e3 := ha'.1
  have e4 := hb'.1
  have HE := Lib.hid (show (n ≤ 100000 ∧ m ≤ 100000 ∧ 0 < m) ∧ n' ≤ 100000 ∧ m' ≤ 100000 ∧ 0 < m' by have := valid6 hv; have := valid6 hv'; omega)
  have HV := Lib.hid hv
  have HV' := Lib.hid hv'
  clear e1 e2 e3 e4 h1 h1' hv hv'
  go_enter Tryd.func11, Tryd.ntmps11
  go_wp2_with fail
  refine (valid_any A B n c m d 6 s l _ ((ha.alloc _).alloc _) ((hb.alloc _).alloc _) HE.out.1.1 HE.out.1.2.1).mono ?_
  rintro e w1 ⟨rfl, hb1⟩
  rw [HV.out]
  obtain ⟨⟨p0, p1, p2, p3⟩, _, hz⟩ := boxes hb1
  go_wp2_with fail
  refine (valid_any A' B' n' c' m' d' 6 s' l' _ (((ha'.alloc _).alloc _).below hb1) (((hb'.alloc _).alloc _).below hb1) HE.out.2.1 HE.out.2.2.1).mono ?_
  rintro e w2 ⟨rfl, hb2⟩
  rw [HV'.out]
  have hb3 := hb1.trans (hb2.mono hb1.size)
  clear p0 p1 p2 p3 hz
  obtain ⟨⟨q0, q1, q2, q3⟩, ⟨f0, f1, f2, f3⟩, hz⟩ := boxes hb3
  have HA := Lib.hid (((ha.alloc _).alloc _).below hb3)
  have HB := Lib.hid (((hb.alloc _).alloc _).below hb3)
  have HA' := Lib.hid (((ha'.alloc _).alloc _).below hb3)
  have HB' := Lib.hid (((hb'.alloc _).alloc _).below hb3)
  clear ha hb ha' hb' hb1 hb2
  go_wp2_with fail
  go_cut [4] (fun _ wx => Mid w s l s' l' wx)
  case first =>
    go_region_with (first
        | (go_at_call_of 51 (Value.slice A n c); refine (normal_parts A B n c m d s l _ HA.out.drew HB.out.drew HE.out.1.1 HE.out.1.2.1 HE.out.1.2.2 hnc hmd).mono ?_; rintro e w3 ⟨A1, n1, c1, B1, m1, d1, s1, l1, rfl, ⟨ha1, hb1, hnc1, hmd1⟩, HN1, hb4⟩
           have r0 := (hb4.cell (p := ⟨w.heap.size, 0, none⟩) (by simp; omega)).trans q0
           have r1 := (hb4.cell (p := ⟨w.heap.size, 1, none⟩) (by simp; omega)).trans q1
           have r2 := (hb4.cell (p := ⟨w.heap.size + 1, 0, none⟩) (by simp; omega)).trans q2
           have r3 := (hb4.cell (p := ⟨w.heap.size + 1, 1, none⟩) (by simp; omega)).trans q3
           have k0 := (hb4.frozen (p := ⟨w.heap.size, 0, none⟩) (by simp; omega)).trans f0
           have k1 := (hb4.frozen (p := ⟨w.heap.size, 1, none⟩) (by simp; omega)).trans f1
           have k2 := (hb4.frozen (p := ⟨w.heap.size + 1, 0, none⟩) (by simp; omega)).trans f2
           have k3 := (hb4.frozen (p := ⟨w.heap.size + 1, 1, none⟩) (by simp; omega)).trans f3
           have h4 : w2.heap.size ≤ w3.heap.size := hb4.size)
        | (go_at_call_of 51 (Value.slice A' n' c'); refine (normal_parts A' B' n' c' m' d' s' l' _ (HA'.out.drew.below hb4) (HB'.out.drew.below hb4) HE.out.2.1 HE.out.2.2.1 HE.out.2.2.2 hnc' hmd').mono ?_; rintro e w4 ⟨A2, n2, c2, B2, m2, d2, s2, l2, rfl, ⟨ha2, hb2, hnc2, hmd2⟩, HN2, hb5⟩
           have u0 := (hb5.cell (p := ⟨w.heap.size, 0, none⟩) (by simp; omega)).trans r0
           have u1 := (hb5.cell (p := ⟨w.heap.size, 1, none⟩) (by simp; omega)).trans r1
           have u2 := (hb5.cell (p := ⟨w.heap.size + 1, 0, none⟩) (by simp; omega)).trans r2
           have u3 := (hb5.cell (p := ⟨w.heap.size + 1, 1, none⟩) (by simp; omega)).trans r3
           have v0 := (hb5.frozen (p := ⟨w.heap.size, 0, none⟩) (by simp; omega)).trans k0
           have v1 := (hb5.frozen (p := ⟨w.heap.size, 1, none⟩) (by simp; omega)).trans k1
           have v2 := (hb5.frozen (p := ⟨w.heap.size + 1, 0, none⟩) (by simp; omega)).trans k2
           have v3 := (hb5.frozen (p := ⟨w.heap.size + 1, 1, none⟩) (by simp; omega)).trans k3
           have ha1' := ha1.below hb5
           have hb1' := hb1.below hb5
           have hbw : Below w.heap.size w w4 := ((((Below.refl w.heap.size w).alloc (Nat.le_refl _) _).alloc (by simp) _).trans (hb3.mono (by simp; omega))).trans (((Below.refl w.heap.size w2).drew).trans ((hb4.mono (by show w.heap.size ≤ w2.heap.size; omega)).trans (hb5.mono (by omega))))
           have h5 : w.heap.size + 1 < w4.heap.size := by have := hb5.size; omega
           have HN1' : Hid (NF (at_ s l) s1 l1 ∧ s1.length ≤ s.length ∧ l1.length ≤ l.length) := by have := HN1.out; rw [← HA.out.1, ← HB.out.1] at this; exact this
           have HN2' : Hid (NF (at_ s' l') s2 l2 ∧ s2.length ≤ s'.length ∧ l2.length ≤ l'.length) := by have := HN2.out; rw [← HA'.out.1, ← HB'.out.1] at this; exact this))
    all_goals (go_wp2_with fail; go_meet; exact mid_of h5 u0 u1 u2 u3 (by simp) (by simp) (by simp) (by simp) ha1' hb1' ha2 hb2 HN1' HN2' hbw)
  case rest =>
    obtain ⟨A1, n1, k1, B1, m1, d1, s1, l1, A2, n2, k2, B2, m2, d2, s2, l2, ⟨g0, g1, g2, g3⟩, ⟨i1, i2, i3, i4⟩, HN1, HN2, hbw⟩ := hcut
    have HL := Lib.hid (show n1 ≤ 100000 ∧ m1 ≤ 100000 ∧ n2 ≤ 100000 ∧ m2 ≤ 100000 by
      have e1 := i1.1; have e2 := i2.1; have e3 := i3.1; have e4 := i4.1
      have := HA.out.1; have := HB.out.1; have := HA'.out.1; have := HB'.out.1
      have := HE.out; have := HN1.out.2; have := HN2.out.2; omega)
    clear hb3 q0 q1 q2 q3 hz f0 f1 f2 f3
    go_wp2_with fail
    refine (equal_any A1 A2 n1 k1 n2 k2 s1 s2 _ i1 i3 HL.out.1 HL.out.2.2.1).mono ?_
    rintro e w5 ⟨x, rfl, rfl⟩
    have hiff := Lib.hid (same_iff HN1.out.1 HN2.out.1)
    cases hs : eqB s1 s2
    · go_wp2_with fail
      go_ret2
      exact ⟨false, rfl, by rw [hs] at hiff; exact hiff, below_drewN hbw _⟩
    · go_wp2_with fail
      refine (equal_any B1 B2 m1 d1 m2 d2 l1 l2 _ (i2.drewN _) (i4.drewN _) HL.out.2.1 HL.out.2.2.2).mono ?_
      rintro e w5 ⟨y, rfl, rfl⟩
      go_wp2_with fail
      go_ret2
      refine ⟨eqB l1 l2, rfl, by rw [hs] at hiff; exact hiff, ?_⟩
      first
        | exact below_drewN hbw _
        | exact below_drewN (below_drewN hbw _) _

end Go.Proofs.YteidikkeoaolgaaDoor.Wd
