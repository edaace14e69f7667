/-
  At of package word and of lodesmanlaw01's reference; Letter, Valid and Is of the reference.
-/
import Derived.Test.YteidikkeoaolgaaDoorWdSame
import Derived.Test.YteidikkeoaolgaaDoorWdClone
namespace Go.Proofs.YteidikkeoaolgaaDoor.Wd
open Go.RowKit
set_option linter.unusedVariables false

set_option maxRecDepth 100000 in
set_option maxHeartbeats 800000 in
theorem letters_big (v : Value) (s l : List Int) (k : Nat) (w : World) (h : IsWord w v s l) (h1 : s.length + l.length ≤ 100000) (h0 : 0 < l.length) (hk : k ≤ 9223372036854775807) :
    Calls Tryd.prog 63 #[v, .int .i64 k] w fun e w' => e = .returned (.int .i64 (at_ s l k)) ∧ Below w.heap.size w w' := by
  obtain ⟨A, n, c, B, m, d, rfl, ha, hb, _, _⟩ := h
  have e1 := ha.1
  have e2 := hb.1
  by_cases hkn : k < n
  · obtain ⟨bA, oA, rfl, hbA, hca⟩ := ha.at_ hkn
    have c1 := hca k hkn
    generalize hva : s.getD k 0 = va at c1
    have HA := Lib.hid (show at_ s l k = va by rw [at_lt (by omega), hva])
    clear hva hca ha hb e1 e2 h1 h0
    go_enter Tryd.func63, Tryd.ntmps63
    go_wp2_with fail
    go_ret
    exact ⟨ret_int HA.out.symm, (Below.refl _ _).alloc (Nat.le_refl _) _⟩
  · obtain ⟨bB, oB, rfl, hbB, hcb⟩ := hb.at_ (show 0 < m by omega)
    have hm0 : 0 < m := by omega
    have hmod := Nat.mod_lt (k - n) hm0
    have c1 := hcb ((k - n) % m) hmod
    generalize hva : l.getD ((k - n) % m) 0 = va at c1
    have HA := Lib.hid (show at_ s l k = va by rw [at_ge (by omega), e1, e2, hva])
    have HE := Lib.hid (show (n : Int) ≤ k ∧ n ≤ 100000 ∧ m ≤ 100000 by omega)
    clear hva hcb ha hb e1 e2 h1 h0
    have b1 : (0 : Int) ≤ (k : Int) - n := by have := HE.out; omega
    have b2 : n ≤ 100000 := by have := HE.out; omega
    have b3 : m ≤ 100000 := by have := HE.out; omega
    have b4 : (0 : Int) ≤ ((k : Int) - n) % (m : Int) := Int.emod_nonneg _ (by omega)
    have b5 : ((k : Int) - n) % (m : Int) < (m : Int) := Int.emod_lt_of_pos _ (by omega)
    have hd : decide ((k : Int) < (n : Int)) = false := by simp; omega
    go_enter Tryd.func63, Tryd.ntmps63
    go_wp2_with fail
    have e1 : IntKind.i64.wrap ((k : Int) - (n : Int)) = (k : Int) - n := IntWalk.i64_in _ (by omega)
    have e2 : ((k : Int) - (n : Int)).tmod (m : Int) = ((k : Int) - n) % (m : Int) := Int.tmod_eq_emod_of_nonneg (by omega)
    have e3 : (((k : Int) - (n : Int)) % (m : Int)).toNat = (k - n) % m := mod_toNat (by omega)
    go_quiet (fail)
    clear e1 e2 e3
    go_wp2_with fail
    go_ret
    exact ⟨ret_int HA.out.symm, below_drewN ((Below.refl _ _).alloc (Nat.le_refl _) _) _⟩

/-- What At answers: the letter and the error. -/
def atR (s l : List Int) (k : Int) : Int × Int := if validB 6 s l = true then (if k < 0 then (0, 6) else (at_ s l k.toNat, 0)) else (0, 1)
theorem atR_bad {s l : List Int} {k : Int} (h : validB 6 s l = false) : atR s l k = (0, 1) := by simp [atR, h]
theorem atR_neg {s l : List Int} {k : Int} (h : validB 6 s l = true) (hk : k < 0) : atR s l k = (0, 6) := by simp [atR, h, hk]
theorem atR_pos {s l : List Int} {k : Nat} (h : validB 6 s l = true) : atR s l k = (at_ s l k, 0) := by simp [atR, h]
theorem ret_pair {p : Int × Int} {a b : Int} (h : p = (a, b)) : Ending.returned (.tuple #[.int .i64 a, .int .i64 b]) = .returned (.tuple #[.int .i64 p.1, .int .i64 p.2]) := by rw [h]

end Go.Proofs.YteidikkeoaolgaaDoor.Wd
