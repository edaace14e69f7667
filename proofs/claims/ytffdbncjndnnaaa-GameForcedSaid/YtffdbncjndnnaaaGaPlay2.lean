/-
  top, winnerOf and Play of package game.
-/
import Derived.Test.YtffdbncjndnnaaaGaPlay
import Derived.Test.YtffdbncjndnnaaaGaHas
namespace Go.Proofs.Ytffdbncjndnnaaa.Wd
open Go.RowKit
set_option linter.unusedVariables false
set_option linter.unusedSimpArgs false

/-- The greatest priority of the positions, or -1. -/
def topP (P : List Int) (l : List Int) : Int := l.foldl (fun m v => max m (P.getD v.toNat 0)) (-1)
theorem topP_next (P l : List Int) {k : Nat} (h : k < l.length) : topP P (l.take (k + 1)) = max (topP P (l.take k)) (P.getD (l.getD k 0).toNat 0) := by
  have e : l.take (k + 1) = l.take k ++ [l.getD k 0] := by
    rw [List.take_succ_eq_append_getElem h]
    simp [List.getD_eq_getElem?_getD, List.getElem?_eq_getElem h]
  unfold topP
  rw [e, List.foldl_append]
  rfl
theorem foldmax_le (P : List Int) : ∀ (l : List Int) (m : Int), (∀ v ∈ l, P.getD v.toNat 0 ≤ 60) → m ≤ 60 → -1 ≤ m → -1 ≤ l.foldl (fun m v => max m (P.getD v.toNat 0)) m ∧ l.foldl (fun m v => max m (P.getD v.toNat 0)) m ≤ 60
  | [], m, _, h1, h2 => ⟨h2, h1⟩
  | v :: l, m, h, h1, h2 => foldmax_le P l _ (fun u hu => h u (List.mem_cons_of_mem _ hu)) (by have := h v (List.mem_cons_self ..); show max m _ ≤ 60; omega) (by show -1 ≤ max m _; omega)

set_option maxRecDepth 100000 in
set_option maxHeartbeats 4000000 in
theorem top_any (a p x A : Option Addr) (n c m d k e s cs : Nat) (G : Gm) (l : List Int) (w : World) (h : GameIn w a n p m x k G) (hA : Ints w A s l) (hm : m ≤ 20000) (hs : s ≤ 100000) (hl : ∀ i, i < s → 0 ≤ l.getD i 0 ∧ l.getD i 0 < m) :
    Calls Try.prog 50 #[.agg #[.slice a n c, .slice p m d, .slice x k e], .slice A s cs] w fun r w' => r = .returned (.int .i64 (topP G.P l)) ∧ Below w.heap.size w w' := by
  have hal := hA.1
  have hs0 : (0 : Int) ≤ (s : Int) := by omega
  have hm0 : (0 : Int) ≤ (m : Int) := by omega
  have H0 := Lib.hid h
  have HA := Lib.hid hA
  have HL := Lib.hid hl
  clear h hA hl
  go_enter Try.func50, Try.ntmps50
  go_wp2_with fail
  obtain ⟨W0, hW0⟩ : ∃ W0, w.alloc (.cells #[.slice a n c, .slice p m d, .slice x k e] 25) = W0 := ⟨_, rfl⟩
  have HBW := Lib.hid (show Below w.heap.size w W0 by rw [← hW0]; exact (Below.refl _ _).alloc (Nat.le_refl _) _)
  obtain ⟨q0, q1, q2⟩ := box_game w (.slice a n c) (.slice p m d) (.slice x k e) 25
  rw [hW0] at q0 q1 q2 ⊢
  clear hW0
  go_loopg [5, 10] s (fun g t i wx => ∃ j : Nat, j + g = s ∧ i = .int .i64 j ∧ t = .int .i64 (topP G.P (l.take j)) ∧ wx = W0)
  case atStart => exact ⟨0, by omega, rfl, rfl, rfl⟩
  case round =>
    obtain ⟨j, hjg, rfl, rfl, rfl⟩ := hrel
    have hj0 : (0 : Int) ≤ (j : Int) := by omega
    cases gk with
    | zero =>
      obtain rfl : s = j := by omega
      have HT := Lib.hid (show l.take s = l from List.take_of_length_le (by omega))
      rw [HT.out]
      go_wp2_with fail
      go_ret
      exact ⟨rfl, HBW.out⟩
    | succ g =>
      have hjl : j < s := by omega
      have hjl2 : (j : Int) < (s : Int) := by omega
      obtain ⟨bA, oA, rfl, _, hcA⟩ := (HA.out.below HBW.out).2 (by omega)
      have kc := hcA j hjl
      have hb := HL.out j hjl
      obtain ⟨v, hv⟩ : ∃ v : Nat, l.getD j 0 = (v : Int) := ⟨(l.getD j 0).toNat, by omega⟩
      have HN := Lib.hid (topP_next G.P l (k := j) (by omega))
      rw [hv] at kc hb HN
      rw [Int.toNat_natCast] at HN
      have hvm : v < m := by omega
      obtain ⟨bP, oP, rfl, _, hcP⟩ := (H0.out.below HBW.out).p.2 (by omega)
      have kp := hcP v hvm
      clear hcA hcP hv
      have hv0 : (0 : Int) ≤ (v : Int) := by omega
      generalize G.P.getD v 0 = q at *
      generalize topP G.P (l.take j) = tp at *
      go_wp2_with fail
      all_goals
        go_roundg g
        case measure => omega
        case rel => exact ⟨j + 1, by omega, by go_num, by rw [HN.out]; first | rfl | (congr 1; omega) | go_num, rfl⟩

end Go.Proofs.Ytffdbncjndnnaaa.Wd
