/-
  letters of package word: an iterator over the letters of a word, which has no end.
-/
import Derived.Test.YteidikkeoaolgaaDoorWdRange
import Derived.Test.YteidikkeoaolgaaDoorWdPrint
import Derived.Test.YteidikkeoaolgaaDoorWdNormal
import Derived.Shelf.Abstract
import Derived.Shelf.RegionOpen
import Derived.WalkKit
import Derived.OwnWalkIn
import Derived.TacticsInMore
import Derived.LoopNIn
import Derived.LoopIn
import Derived.Maps.AppendAt
namespace Go.Proofs.YteidikkeoaolgaaDoor.Wd
open Go.RowKit Go.Shelf
set_option linter.unusedVariables false

attribute [local go_sem] Oper.semAt_some

/-- What the iterator reads between two rounds. -/
def LetSt (bw n₀ : Nat) (A : Option Addr) (n c : Nat) (B : Option Addr) (m d : Nat) (s l : List Int) (W : World) : Prop :=
  (W.cell? ⟨bw, 0, none⟩ = some (.slice A n c) ∧ W.cell? ⟨bw, 1, none⟩ = some (.slice B m d)) ∧ IntsAt W n₀ A n s ∧ IntsAt W n₀ B m l

theorem at_stem {s l : List Int} {k : Nat} (h : k < s.length) : at_ s l k = s.getD k 0 := at_lt h
theorem at_loop {s l : List Int} {k j m : Nat} (hn : s.length ≤ k) (hm : l.length = m) (hk : (k - s.length) % m = 0) (hj : j < m) : at_ s l (k + j) = l.getD j 0 := by
  rw [at_ge (by omega), hm]
  congr 1
  rw [show k + j - s.length = (k - s.length) + j by omega, Nat.add_mod, hk, Nat.zero_add, Nat.mod_mod, Nat.mod_eq_of_lt hj]
theorem round_mod {n k m : Nat} (hn : n ≤ k) (hk : (k - n) % m = 0) : (k + m - n) % m = 0 := by
  rw [show k + m - n = (k - n) + m by omega, Nat.add_mod_right]; exact hk

/-- g rounds more, at most. -/
def More (J : Nat → World → Prop) (n m N : Nat) (W : World) (g : Nat) : Prop := ∃ k, J k W ∧ n ≤ k ∧ (k - n) % m = 0 ∧ k + g = N + 1

set_option maxRecDepth 100000 in
set_option maxHeartbeats 2000000 in
theorem letters1_in (F : Fence) (q : Nat) (h149 : F.fn 128) (hro : F.round = none) (hq : 1 ≤ q) (r bw n₀ : Nat) (A B : Option Addr) (n c m d : Nat) (s l : List Int) (hn : n ≤ 100000) (hm : m ≤ 100000) (hm0 : 0 < m) (N : Nat) (J : Nat → World → Prop) (X : World → Prop)
    (hJ : ∀ k W, J k W → k ≤ N ∧ LetSt bw n₀ A n c B m d s l W)
    (hY : ∀ k W1, J k W1 → YieldAt F (q - 1) Tryd.prog r #[.int .i64 (at_ s l k)] W1 fun e W' => (e = .returned (.bool true) ∧ J (k + 1) W') ∨ (e = .returned (.bool false) ∧ X W'))
    (W : World) (h0 : J 0 W) :
    CallsIn F q Tryd.prog 128 #[.func (.yield r) #[] #[], .pointer (some ⟨bw, 0, none⟩)] W fun e W' => (∃ v, e = .returned v) ∧ X W' := by
  have hst := hJ 0 W h0
  have p0 := hst.2.1.1
  have HX := Lib.hid hst.2.2.1.1
  have HY := Lib.hid hst.2.2.2.1
  clear hst
  refine callsIn_of_wp Tryd.func128 rfl h149 ?_ hro
  simp only [Tryd.ntmps128, List.size_toArray, List.length_cons, List.length_nil, Nat.reduceAdd, Nat.reduceSub, Array.replicate_succ, Array.replicate_zero, List.push_toArray, List.append_toArray, List.nil_append, List.cons_append]
  gi_wp2
  gi_loopw [10] (fun i wr => ∃ k : Nat, k ≤ n ∧ i = .int .i64 k ∧ J k wr) (fun i wr => n - (intOf i).toNat)
  case atStart => exact ⟨0, by omega, rfl, h0⟩
  case round =>
    obtain ⟨k, hk, rfl, hJk⟩ := hrel
    obtain ⟨hkN, ⟨c0, c1⟩, hI1, hI2⟩ := hJ k wr hJk
    by_cases hlt : k < n
    · obtain ⟨fn, tmps, assign, body, hy, hR⟩ := hY k wr hJk
      rw [at_stem (by rw [HX.out]; exact hlt)] at hy
      obtain ⟨bA, oA, rfl, hbA, hca⟩ := hI1.at_ hlt
      have cx := hca k hlt
      clear hca hI1 hI2 c0 c1
      generalize hva : s.getD k 0 = va at cx hy
      clear hva
      gi_wp2
      refine hR.mono ?_
      rintro e W3 (⟨rfl, hJ3⟩ | ⟨rfl, hX3⟩)
      · gi_wp2
        go_roundw
        case rel => exact ⟨k + 1, by omega, by go_num, hJ3⟩
        case measure => simp [intOf]; omega
      · gi_wp2
        refine bodyPost_ret (results_none rfl _ _ _) rfl ?_
        exact ⟨⟨_, rfl⟩, hX3⟩
    · obtain rfl : k = n := by omega
      clear hI1 hI2 c0 p0
      gi_wp2
      gi_loopw [] (fun wv => ∃ g, More J k m N wv g) (fun wv => leastOf (More J k m N wv))
      case atStart => exact ⟨N + 1 - k, k, hJk, Nat.le_refl _, by simp, by omega⟩
      case round =>
        rename_i wold
        have hl := leastOf_spec hrel
        obtain ⟨⟨k2, hJ2, hnk, hmod, hkg⟩, hmin⟩ := hl
        have HML := Lib.hid (⟨hnk, hmod, hkg⟩ : k ≤ k2 ∧ (k2 - k) % m = 0 ∧ k2 + leastOf (More J k m N wr) = N + 1)
        obtain ⟨hkN2, ⟨d0, d1⟩, _, _⟩ := hJ k2 wr hJ2
        clear hrel hmin hkg hmod hnk d0 c1
        gi_wp2
        gi_loopw [22] (fun i wv => ∃ j : Nat, j ≤ m ∧ i = .int .i64 j ∧ J (k2 + j) wv) (fun i wv => m - (intOf i).toNat)
        case atStart => exact ⟨0, by omega, rfl, hJ2⟩
        case round =>
          obtain ⟨j, hj, rfl, hJj⟩ := hrel
          obtain ⟨hkN3, _, _, hI2⟩ := hJ (k2 + j) wr hJj
          by_cases hlt : j < m
          · obtain ⟨fn, tmps, assign, body, hy, hR⟩ := hY (k2 + j) wr hJj
            rw [at_loop (by rw [HX.out]; exact HML.out.1) HY.out (by rw [HX.out]; exact HML.out.2.1) hlt] at hy
            obtain ⟨bB, oB, rfl, hbB, hcb⟩ := hI2.at_ hlt
            have cx := hcb j hlt
            clear hcb hI2 d1
            generalize hva : l.getD j 0 = va at cx hy
            clear hva
            gi_wp2
            refine hR.mono ?_
            rintro e W3 (⟨rfl, hJ3⟩ | ⟨rfl, hX3⟩)
            · gi_wp2
              go_roundw
              case rel => exact ⟨j + 1, by omega, by go_num, hJ3⟩
              case measure => simp [intOf]; omega
            · gi_wp2
              refine bodyPost_ret (results_none rfl _ _ _) rfl ?_
              exact ⟨⟨_, rfl⟩, hX3⟩
          · obtain rfl : j = m := by omega
            have hnew : More J k j N wr (N + 1 - (k2 + j)) := ⟨k2 + j, hJj, by have := HML.out.1; omega, round_mod HML.out.1 HML.out.2.1, by omega⟩
            have hle := (leastOf_spec ⟨_, hnew⟩).2 _ hnew
            clear hI2 d1
            gi_wp2
            go_roundw
            case rel => exact ⟨_, hnew⟩
            case measure => have := HML.out.2.2; omega

end Go.Proofs.YteidikkeoaolgaaDoor.Wd
