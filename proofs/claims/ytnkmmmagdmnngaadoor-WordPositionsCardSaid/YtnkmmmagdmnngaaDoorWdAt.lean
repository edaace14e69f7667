/-
  At of package word and of lodesmanlaw01's reference; Letter, Valid and Is of the reference.
-/
import Derived.Test.YtnkmmmagdmnngaaDoorWdSame
import Derived.Test.YtnkmmmagdmnngaaDoorWdClone
namespace Go.Proofs.YtnkmmmagdmnngaaDoor.Wd
open Go.RowKit
set_option linter.unusedVariables false

set_option maxRecDepth 100000 in
set_option maxHeartbeats 800000 in
theorem letters_big (v : Value) (s l : List Int) (k : Nat) (w : World) (h : IsWord w v s l) (h1 : s.length + l.length ≤ 100000) (h0 : 0 < l.length) (hk : k ≤ 9223372036854775807) :
    Calls Tryd.prog 40 #[v, .int .i64 k] w fun e w' => e = .returned (.int .i64 (at_ s l k)) ∧ Below w.heap.size w w' := by
  obtain ⟨A, n, c, B, m, d, rfl, ha, hb, _, _⟩ := h
  have e1 := ha.1
  have e2 := hb.1
  by_cases hkn : k < n
  · obtain ⟨bA, oA, rfl, hbA, hca⟩ := ha.at_ hkn
    have c1 := hca k hkn
    generalize hva : s.getD k 0 = va at c1
    have HA := Lib.hid (show at_ s l k = va by rw [at_lt (by omega), hva])
    clear hva hca ha hb e1 e2 h1 h0
    go_enter Tryd.func40, Tryd.ntmps40
    go_wp2_with fail
    go_ret
    exact ⟨ret_int HA.out.symm, (Below.refl _ _).alloc (Nat.le_refl _) _⟩
  · obtain ⟨bB, oB, rfl, hbB, hcb⟩ := hb.at_ (show 0 < m by omega)
    have hm0 : 0 < m := by omega
    have hmod := Nat.mod_lt (k - n) hm0
    have c1 := hcb ((k - n) % m) hmod
    generalize hva : l.getD ((k - n) % m) 0 = va at c1
    have HA := Lib.hid (show at_ s l k = va by rw [at_ge (by omega), e1, e2, hva])
    have HE := Lib.hid (show (n : Int) ≤ k ∧ n ≤ 100000 ∧ m ≤ 100000 by omega)
    clear hva hcb ha hb e1 e2 h1 h0
    have b1 : (0 : Int) ≤ (k : Int) - n := by have := HE.out; omega
    have b2 : n ≤ 100000 := by have := HE.out; omega
    have b3 : m ≤ 100000 := by have := HE.out; omega
    have b4 : (0 : Int) ≤ ((k : Int) - n) % (m : Int) := Int.emod_nonneg _ (by omega)
    have b5 : ((k : Int) - n) % (m : Int) < (m : Int) := Int.emod_lt_of_pos _ (by omega)
    have hd : decide ((k : Int) < (n : Int)) = false := by simp; omega
    go_enter Tryd.func40, Tryd.ntmps40
    go_wp2_with fail
    have e1 : IntKind.i64.wrap ((k : Int) - (n : Int)) = (k : Int) - n := IntWalk.i64_in _ (by omega)
    have e2 : ((k : Int) - (n : Int)).tmod (m : Int) = ((k : Int) - n) % (m : Int) := Int.tmod_eq_emod_of_nonneg (by omega)
    have e3 : (((k : Int) - (n : Int)) % (m : Int)).toNat = (k - n) % m := mod_toNat (by omega)
    go_quiet (fail)
    clear e1 e2 e3
    go_wp2_with fail
    go_ret
    exact ⟨ret_int HA.out.symm, below_drewN ((Below.refl _ _).alloc (Nat.le_refl _) _) _⟩

/-- What At answers: the letter and the error. -/
def atR (s l : List Int) (k : Int) : Int × Int := if validB 6 s l = true then (if k < 0 then (0, 6) else (at_ s l k.toNat, 0)) else (0, 1)
theorem atR_bad {s l : List Int} {k : Int} (h : validB 6 s l = false) : atR s l k = (0, 1) := by simp [atR, h]
theorem atR_neg {s l : List Int} {k : Int} (h : validB 6 s l = true) (hk : k < 0) : atR s l k = (0, 6) := by simp [atR, h, hk]
theorem atR_pos {s l : List Int} {k : Nat} (h : validB 6 s l = true) : atR s l k = (at_ s l k, 0) := by simp [atR, h]
theorem ret_pair {p : Int × Int} {a b : Int} (h : p = (a, b)) : Ending.returned (.tuple #[.int .i64 a, .int .i64 b]) = .returned (.tuple #[.int .i64 p.1, .int .i64 p.2]) := by rw [h]

set_option maxRecDepth 100000 in
set_option maxHeartbeats 800000 in
theorem At_any (A B : Option Addr) (n c m d : Nat) (s l : List Int) (k : Int) (w : World) (ha : Ints w A n s) (hb : Ints w B m l) (hn : n ≤ 100000) (hm : m ≤ 100000) (hk : k ≤ 9223372036854775807) :
    Calls Tryd.prog 15 #[.agg #[.slice A n c, .slice B m d], .int .i64 k] w fun e w' => e = .returned (.tuple #[.int .i64 (atR s l k).1, .int .i64 (atR s l k).2]) ∧ Below w.heap.size w w' := by
  have e1 := ha.1
  have e2 := hb.1
  cases hv : validB 6 s l
  · have HV := Lib.hid hv
    have HR := Lib.hid (atR_bad (k := k) hv)
    clear hv e1 e2
    go_enter Tryd.func15, Tryd.ntmps15
    go_wp2_with fail
    refine (valid_any A B n c m d 6 s l _ (ha.alloc _) (hb.alloc _) hn hm).mono ?_
    rintro e w1 ⟨rfl, hb1⟩
    rw [HV.out]
    go_wp2_with fail
    go_ret2
    exact ⟨ret_pair HR.out, ((Below.refl _ _).alloc (Nat.le_refl _) _).trans (hb1.mono (by simp))⟩
  · have hm0 : 0 < m := by have := valid6 hv; omega
    have HV := Lib.hid hv
    by_cases h0 : k < 0
    · have HR := Lib.hid (atR_neg hv h0)
      clear hv e1 e2
      go_enter Tryd.func15, Tryd.ntmps15
      go_wp2_with fail
      refine (valid_any A B n c m d 6 s l _ (ha.alloc _) (hb.alloc _) hn hm).mono ?_
      rintro e w1 ⟨rfl, hb1⟩
      rw [HV.out]
      go_wp2_with fail
      go_ret2
      exact ⟨ret_pair HR.out, ((Below.refl _ _).alloc (Nat.le_refl _) _).trans (hb1.mono (by simp))⟩
    · obtain ⟨j, rfl⟩ := Int.eq_ofNat_of_zero_le (show 0 ≤ k by omega)
      have HR := Lib.hid (atR_pos (k := j) hv)
      clear hv
      have hd0 : decide ((j : Int) < 0) = false := by simp
      by_cases hkn : j < n
      · obtain ⟨bA, oA, rfl, hbA, hca⟩ := ha.at_ hkn
        have c1 := hca j hkn
        generalize hva : s.getD j 0 = va at c1
        have HA := Lib.hid (show at_ s l j = va by rw [at_lt (by omega), hva])
        clear hva hca e1 e2
        go_enter Tryd.func15, Tryd.ntmps15
        go_wp2_with fail
        refine (valid_any _ B n c m d 6 s l _ (ha.alloc _) (hb.alloc _) hn hm).mono ?_
        rintro e w1 ⟨rfl, hb1⟩
        rw [HV.out]
        have q0 : w1.cell? ⟨w.heap.size, 0, none⟩ = some (.slice (some ⟨bA, oA, none⟩) n c) := by rw [hb1.cell (by simp), box_last]; rfl
        have q1 := (hb1.cell (p := ⟨bA, oA + j, none⟩) (by simp; omega)).trans (((Below.refl w.heap.size w).alloc (Nat.le_refl _) _).cell (p := ⟨bA, oA + j, none⟩) hbA |>.trans c1)
        go_wp2_with fail
        go_ret2
        exact ⟨ret_pair (by rw [HR.out, HA.out]), ((Below.refl _ _).alloc (Nat.le_refl _) _).trans (hb1.mono (by simp))⟩
      · obtain ⟨bB, oB, rfl, hbB, hcb⟩ := hb.at_ hm0
        have hmod := Nat.mod_lt (j - n) hm0
        have c1 := hcb ((j - n) % m) hmod
        generalize hva : l.getD ((j - n) % m) 0 = va at c1
        have HA := Lib.hid (show at_ s l j = va by rw [at_ge (by omega), e1, e2, hva])
        clear hva hcb e1 e2
        have b1 : (0 : Int) ≤ (j : Int) - n := by omega
        have b4 : (0 : Int) ≤ ((j : Int) - n) % (m : Int) := Int.emod_nonneg _ (by omega)
        have b5 : ((j : Int) - n) % (m : Int) < (m : Int) := Int.emod_lt_of_pos _ (by omega)
        have hd : decide ((j : Int) < (n : Int)) = false := by simp; omega
        go_enter Tryd.func15, Tryd.ntmps15
        go_wp2_with fail
        refine (valid_any A _ n c m d 6 s l _ (ha.alloc _) (hb.alloc _) hn hm).mono ?_
        rintro e w1 ⟨rfl, hb1⟩
        rw [HV.out]
        have q0 : w1.cell? ⟨w.heap.size, 0, none⟩ = some (.slice A n c) := by rw [hb1.cell (by simp), box_last]; rfl
        have q1 : w1.cell? ⟨w.heap.size, 1, none⟩ = some (.slice (some ⟨bB, oB, none⟩) m d) := by rw [hb1.cell (by simp), box_last]; rfl
        have q2 := (hb1.cell (p := ⟨bB, oB + (j - n) % m, none⟩) (by simp; omega)).trans (((Below.refl w.heap.size w).alloc (Nat.le_refl _) _).cell (p := ⟨bB, oB + (j - n) % m, none⟩) hbB |>.trans c1)
        clear c1
        go_wp2_with fail
        have e1 : IntKind.i64.wrap ((j : Int) - (n : Int)) = (j : Int) - n := IntWalk.i64_in _ (by omega)
        have e2 : ((j : Int) - (n : Int)).tmod (m : Int) = ((j : Int) - n) % (m : Int) := Int.tmod_eq_emod_of_nonneg (by omega)
        have e3 : (((j : Int) - (n : Int)) % (m : Int)).toNat = (j - n) % m := mod_toNat (by omega)
        go_quiet (fail)
        clear e1 e2 e3
        go_wp2_with fail
        go_ret2
        exact ⟨ret_pair (by rw [HR.out, HA.out]), below_drewN (((Below.refl _ _).alloc (Nat.le_refl _) _).trans (hb1.mono (by simp))) _⟩

end Go.Proofs.YtnkmmmagdmnngaaDoor.Wd
