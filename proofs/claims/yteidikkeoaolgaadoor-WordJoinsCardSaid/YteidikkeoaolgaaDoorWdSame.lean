/-
  Letters of the reference, Normal and Same of package word.
-/
import Derived.Test.YteidikkeoaolgaaDoorWdEqual
namespace Go.Proofs.YteidikkeoaolgaaDoor.Wd
open Go.RowKit
set_option linter.unusedVariables false

theorem mod_toNat {k n m : Nat} (h : n ≤ k) : (((k : Int) - (n : Int)) % (m : Int)).toNat = (k - n) % m := by
  rw [show (k : Int) - n = ((k - n : Nat) : Int) by omega, ← Int.natCast_emod, Int.toNat_natCast]

set_option maxRecDepth 100000 in
set_option maxHeartbeats 800000 in
theorem letters_any (v : Value) (s l : List Int) (k : Nat) (w : World) (h : IsWord w v s l) (h1 : s.length + l.length ≤ 100000) (h0 : 0 < l.length) (hk : k ≤ 1000000) :
    Calls Tryd.prog 63 #[v, .int .i64 k] w fun e w' => e = .returned (.int .i64 (at_ s l k)) ∧ Below w.heap.size w w' := by
  obtain ⟨A, n, c, B, m, d, rfl, ha, hb, _, _⟩ := h
  have e1 := ha.1
  have e2 := hb.1
  by_cases hkn : k < n
  · obtain ⟨bA, oA, rfl, hbA, hca⟩ := ha.at_ hkn
    have c1 := hca k hkn
    generalize hva : s.getD k 0 = va at c1
    have HA := Lib.hid (show at_ s l k = va by rw [at_lt (by omega), hva])
    clear hva hca ha hb e1 e2 h1 h0
    go_enter Tryd.func63, Tryd.ntmps63
    go_wp2_with fail
    go_ret
    exact ⟨ret_int HA.out.symm, (Below.refl _ _).alloc (Nat.le_refl _) _⟩
  · obtain ⟨bB, oB, rfl, hbB, hcb⟩ := hb.at_ (show 0 < m by omega)
    have hm0 : 0 < m := by omega
    have hmod := Nat.mod_lt (k - n) hm0
    have c1 := hcb ((k - n) % m) hmod
    generalize hva : l.getD ((k - n) % m) 0 = va at c1
    have HA := Lib.hid (show at_ s l k = va by rw [at_ge (by omega), e1, e2, hva])
    have HE := Lib.hid (show (n : Int) ≤ k ∧ n ≤ 100000 ∧ m ≤ 100000 by omega)
    clear hva hcb ha hb e1 e2 h1 h0
    have b1 : (0 : Int) ≤ (k : Int) - n := by have := HE.out; omega
    have b2 : n ≤ 100000 := by have := HE.out; omega
    have b3 : m ≤ 100000 := by have := HE.out; omega
    have b4 : (0 : Int) ≤ ((k : Int) - n) % (m : Int) := Int.emod_nonneg _ (by omega)
    have b5 : ((k : Int) - n) % (m : Int) < (m : Int) := Int.emod_lt_of_pos _ (by omega)
    have hd : decide ((k : Int) < (n : Int)) = false := by simp; omega
    go_enter Tryd.func63, Tryd.ntmps63
    go_wp2_with fail
    have e1 : IntKind.i64.wrap ((k : Int) - (n : Int)) = (k : Int) - n := IntWalk.i64_in _ (by omega)
    have e2 : ((k : Int) - (n : Int)).tmod (m : Int) = ((k : Int) - n) % (m : Int) := Int.tmod_eq_emod_of_nonneg (by omega)
    have e3 : (((k : Int) - (n : Int)) % (m : Int)).toNat = (k - n) % m := mod_toNat (by omega)
    go_quiet (fail)
    clear e1 e2 e3
    go_wp2_with fail
    go_ret
    exact ⟨ret_int HA.out.symm, below_drewN ((Below.refl _ _).alloc (Nat.le_refl _) _) _⟩

theorem valid6 {s l : List Int} (h : validB 6 s l = true) : 0 < l.length ∧ s.length + l.length ≤ 200 := by
  simp [validB] at h
  omega

set_option maxRecDepth 100000 in
set_option maxHeartbeats 800000 in
theorem Normal_bad (v : Value) (s l : List Int) (w : World) (h : IsWord w v s l) (h1 : s.length + l.length ≤ 100000) (hv : validB 6 s l = false) :
    Calls Tryd.prog 47 #[v] w fun e w' => e = .returned (.tuple #[.agg #[.slice none 0 0, .slice none 0 0], .int .i64 1]) ∧ Below w.heap.size w w' := by
  obtain ⟨A, n, c, B, m, d, rfl, ha, hb, _, _⟩ := h
  have e1 := ha.1
  have e2 := hb.1
  have HE := Lib.hid (show n ≤ 100000 ∧ m ≤ 100000 by omega)
  have HV := Lib.hid hv
  clear e1 e2 h1 hv
  go_enter Tryd.func47, Tryd.ntmps47
  go_wp2_with fail
  refine (valid_any A B n c m d 6 s l _ ((ha.alloc _).alloc _) ((hb.alloc _).alloc _) HE.out.1 HE.out.2).mono ?_
  rintro e w1 ⟨rfl, hb1⟩
  rw [HV.out]
  obtain ⟨hc, hf⟩ := bcell hb1
  have hz : w.heap.size + 1 < w1.heap.size := by have := hb1.size; simp at this; omega
  go_wp2_with fail
  refine bodyPost_ret (v := .tuple #[.agg #[.slice none 0 0, .slice none 0 0], .int .i64 1]) (by simp [results, Tryd.results47, go_sem, hc]) rfl ?_
  exact ⟨rfl, (((((Below.refl _ _).alloc (Nat.le_refl _) _).alloc (by simp) _).trans (hb1.mono (by simp; omega))).setCell (by simp) _).setCell (by simp) _⟩

set_option maxRecDepth 100000 in
set_option maxHeartbeats 800000 in
theorem Normal_good (v : Value) (s l : List Int) (w : World) (h : IsWord w v s l) (h1 : s.length + l.length ≤ 100000) (hv : validB 6 s l = true) :
    Calls Tryd.prog 47 #[v] w fun e w' => ∃ A' n' c' B' m' d' s' l', e = .returned (.tuple #[.agg #[.slice A' n' c', .slice B' m' d'], .int .i64 0]) ∧
      (Ints w' A' n' s' ∧ Ints w' B' m' l' ∧ n' ≤ c' ∧ m' ≤ d') ∧ Hid (NF (at_ s l) s' l' ∧ s'.length ≤ s.length ∧ l'.length ≤ l.length) ∧ Below w.heap.size w w' := by
  obtain ⟨A, n, c, B, m, d, rfl, ha, hb, hnc, hmd⟩ := h
  have e1 := ha.1
  have e2 := hb.1
  have HE := Lib.hid (show n ≤ 100000 ∧ m ≤ 100000 ∧ 0 < m by have := valid6 hv; omega)
  have HV := Lib.hid hv
  have H1 := Lib.hid e1
  have H2 := Lib.hid e2
  clear e1 e2 h1 hv
  go_enter Tryd.func47, Tryd.ntmps47
  go_wp2_with fail
  refine (valid_any A B n c m d 6 s l _ ((ha.alloc _).alloc _) ((hb.alloc _).alloc _) HE.out.1 HE.out.2.1).mono ?_
  rintro e w1 ⟨rfl, hb1⟩
  rw [HV.out]
  obtain ⟨hc, hf⟩ := bcell hb1
  have hz : w.heap.size + 1 < w1.heap.size := by have := hb1.size; simp at this; omega
  go_wp2_with fail
  refine (normal_parts A B n c m d s l _ (((ha.alloc _).alloc _).below hb1) (((hb.alloc _).alloc _).below hb1) HE.out.1 HE.out.2.1 HE.out.2.2 hnc hmd).mono ?_
  rintro e w2 ⟨A', n', c', B', m', d', s', l', rfl, ⟨ha', hb', hnc', hmd'⟩, HN, hb2⟩
  have g0 : w2.cell? ⟨w.heap.size + 1, 0, none⟩ = some (.slice none 0 0) := by rw [hb2.cell (by simpa using hz), hc _ _ (by simp)]; simp [go_sem]
  have g1 : w2.cell? ⟨w.heap.size + 1, 1, none⟩ = some (.slice none 0 0) := by rw [hb2.cell (by simpa using hz), hc _ _ (by simp)]; simp [go_sem]
  have k0 : w2.frozen? ⟨w.heap.size + 1, 0, none⟩ = false := by rw [hb2.frozen (by simpa using hz), hf _ _ (by simp)]; simp [go_sem]
  have k1 : w2.frozen? ⟨w.heap.size + 1, 1, none⟩ = false := by rw [hb2.frozen (by simpa using hz), hf _ _ (by simp)]; simp [go_sem]
  have hz2 : w.heap.size + 1 < w2.heap.size := by have := hb2.size; omega
  clear hc hf
  go_wp2_with fail
  refine bodyPost_ret (v := .tuple #[.agg #[.slice A' n' c', .slice B' m' d'], .int .i64 0]) (by simp [results, Tryd.results47, go_sem, g0, g1]) rfl ?_
  have g1' := (World.cell?_setCell_other w2 ⟨w.heap.size + 1, 0, none⟩ ⟨w.heap.size + 1, 1, none⟩ (.slice A' n' c') (by simp)).trans g1
  refine ⟨A', n', c', B', m', d', s', l', rfl, ⟨(ha'.set g0 (by simp) _).set g1' (by simp) _, (hb'.set g0 (by simp) _).set g1' (by simp) _, hnc', hmd'⟩, ?_, ?_⟩
  · have := HN.out; rw [← H1.out, ← H2.out] at this; exact this
  · exact (((((Below.refl _ _).alloc (Nat.le_refl _) _).alloc (by simp) _).trans ((hb1.trans (hb2.mono hb1.size)).mono (by simp; omega))).setCell (by simp) _).setCell (by simp) _

end Go.Proofs.YteidikkeoaolgaaDoor.Wd
