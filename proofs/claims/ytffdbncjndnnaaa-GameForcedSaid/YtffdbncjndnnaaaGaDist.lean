/-
  What a search from a set has to leave behind for its numbers to be the layers.
-/
import Derived.Test.YtffdbncjndnnaaaGaQueue
namespace Go.Proofs.Ytffdbncjndnnaaa.Wd
open Go.RowKit
set_option linter.unusedVariables false
set_option linter.unusedSimpArgs false

structure Dist (G : Gm) (q : Int) (T : Nat → Bool) (n : Nat) (D : Nat → Int) : Prop where
  zero : ∀ v, v < n → (T v = true ↔ D v = 0)
  rng : ∀ v, v < n → -1 ≤ D v ∧ D v ≤ n
  own1 : ∀ v, v < n → G.O.getD v 0 = q → 0 < D v → ∃ y ∈ G.X.getD v [], D y.toNat = D v - 1
  own2 : ∀ v, v < n → G.O.getD v 0 = q → D v ≠ 0 → ∀ y ∈ G.X.getD v [], 0 ≤ D y.toNat → 0 < D v ∧ D v - 1 ≤ D y.toNat
  oth1 : ∀ v, v < n → G.O.getD v 0 ≠ q → 0 < D v → (∀ y ∈ G.X.getD v [], 0 ≤ D y.toNat ∧ D y.toNat ≤ D v - 1) ∧ ∃ y ∈ G.X.getD v [], D y.toNat = D v - 1
  oth2 : ∀ v, v < n → G.O.getD v 0 ≠ q → D v = -1 → ∃ y ∈ G.X.getD v [], D y.toNat = -1

/-- What is found within k moves. -/
def cutD (D : Nat → Int) (k v : Nat) : Int := if 0 ≤ D v ∧ D v ≤ k then D v else -1
theorem cutD_pos {D : Nat → Int} {k v : Nat} : 0 ≤ cutD D k v ↔ 0 ≤ D v ∧ D v ≤ k := by
  unfold cutD
  split
  · rename_i h
    exact ⟨fun _ => h, fun h => h.1⟩
  · rename_i h
    exact ⟨fun h2 => by omega, fun h2 => absurd h2 h⟩

theorem anyF_iff {S : Nat → Int} {l : List Int} : anyF S l = true ↔ ∃ y ∈ l, 0 ≤ S y.toNat := by
  unfold anyF
  rw [List.any_eq_true]
  exact ⟨fun ⟨y, h1, h2⟩ => ⟨y, h1, of_decide_eq_true h2⟩, fun ⟨y, h1, h2⟩ => ⟨y, h1, decide_eq_true h2⟩⟩
theorem allF_iff {S : Nat → Int} {l : List Int} : allF S l = true ↔ ∀ y ∈ l, 0 ≤ S y.toNat := by
  unfold allF
  rw [List.all_eq_true]
  exact ⟨fun h y hy => of_decide_eq_true (h y hy), fun h y hy => decide_eq_true (h y hy)⟩

theorem Dist.rdy {G : Gm} {q : Int} {T : Nat → Bool} {n : Nat} {D S : Nat → Int} (h : Dist G q T n D) (hX : ∀ v, v < n → ∀ y ∈ G.X.getD v [], 0 ≤ y ∧ y < n) {k v : Nat} (hv : v < n) (hS : ∀ u, u < n → S u = cutD D k u) (hno : ¬ (0 ≤ D v ∧ D v ≤ k)) :
    rdyB G q S v = true ↔ D v = ((k + 1 : Nat) : Int) := by
  have hr := h.rng v hv
  have hin : ∀ y ∈ G.X.getD v [], (0 ≤ S y.toNat ↔ 0 ≤ D y.toNat ∧ D y.toNat ≤ k) := fun y hy => by
    rw [hS y.toNat (by have := hX v hv y hy; omega)]
    exact cutD_pos
  unfold rdyB
  by_cases ho : G.O.getD v 0 = q
  · rw [if_pos ho, anyF_iff]
    constructor
    · rintro ⟨y, hy, h1⟩
      have h2 := (hin y hy).1 h1
      have h3 := h.own2 v hv ho (by omega) y hy h2.1
      omega
    · intro e
      obtain ⟨y, hy, h1⟩ := h.own1 v hv ho (by omega)
      exact ⟨y, hy, (hin y hy).2 (by omega)⟩
  · rw [if_neg ho, allF_iff]
    constructor
    · intro h1
      by_cases hm : D v = -1
      · obtain ⟨y, hy, h2⟩ := h.oth2 v hv ho hm
        have := (hin y hy).1 (h1 y hy)
        omega
      · obtain ⟨h2, y, hy, h3⟩ := h.oth1 v hv ho (by omega)
        have := (hin y hy).1 (h1 y hy)
        omega
    · intro e y hy
      obtain ⟨h2, _⟩ := h.oth1 v hv ho (by omega)
      have := h2 y hy
      exact (hin y hy).2 (by omega)

theorem Dist.cut {G : Gm} {q : Int} {T : Nat → Bool} {n : Nat} {D : Nat → Int} (h : Dist G q T n D) (hX : ∀ v, v < n → ∀ y ∈ G.X.getD v [], 0 ≤ y ∧ y < n) : ∀ (k v : Nat), v < n → stepsF G q T k v = cutD D k v
  | 0, v, hv => by
    have h0 := h.zero v hv
    have hr := h.rng v hv
    unfold stepsF cutD
    cases hT : T v
    · have : ¬ D v = 0 := fun e => by rw [h0.2 e] at hT; cases hT
      rw [if_neg (show ¬ (false = true) from fun h => by cases h), if_neg (show ¬ (0 ≤ D v ∧ D v ≤ ((0 : Nat) : Int)) by omega)]
    · have e := h0.1 hT
      rw [if_pos rfl, if_pos (show 0 ≤ D v ∧ D v ≤ ((0 : Nat) : Int) by omega), e]
  | k + 1, v, hv => by
    have ih := fun u hu => Dist.cut h hX k u hu
    have hr := h.rng v hv
    have hk := ih v hv
    by_cases hc : 0 ≤ D v ∧ D v ≤ k
    · have h1 : 0 ≤ stepsF G q T k v := by rw [hk]; exact cutD_pos.2 hc
      rw [stepsF_keep h1, hk]
      unfold cutD
      rw [if_pos hc, if_pos (show 0 ≤ D v ∧ D v ≤ ((k + 1 : Nat) : Int) by omega)]
    · have h1 : ¬ 0 ≤ stepsF G q T k v := by rw [hk]; exact fun h => hc (cutD_pos.1 h)
      have hrd := h.rdy hX hv ih hc
      cases hb : rdyB G q (stepsF G q T k) v
      · have h2 : ¬ D v = ((k + 1 : Nat) : Int) := fun e => by rw [hrd.2 e] at hb; cases hb
        rw [stepsF_not h1 hb, hk]
        unfold cutD
        rw [if_neg hc, if_neg (show ¬ (0 ≤ D v ∧ D v ≤ ((k + 1 : Nat) : Int)) by omega)]
      · have h2 := hrd.1 hb
        rw [stepsF_got h1 hb]
        unfold cutD
        rw [if_pos (show 0 ≤ D v ∧ D v ≤ ((k + 1 : Nat) : Int) by omega), h2]

theorem Dist.done {G : Gm} {q : Int} {T : Nat → Bool} {n : Nat} {D : Nat → Int} (h : Dist G q T n D) (hX : ∀ v, v < n → ∀ y ∈ G.X.getD v [], 0 ≤ y ∧ y < n) : Stab G q T n n ∧ ∀ v, v < n → stepsF G q T n v = D v := by
  have key : ∀ d v, v < n → stepsF G q T (n + d) v = D v := fun d v hv => by
    have hr := h.rng v hv
    rw [h.cut hX _ v hv]
    unfold cutD
    by_cases hc : 0 ≤ D v
    · rw [if_pos (show 0 ≤ D v ∧ D v ≤ ((n + d : Nat) : Int) by omega)]
    · rw [if_neg (fun h => hc h.1)]
      omega
  exact ⟨fun v hv => (key 1 v hv).trans (key 0 v hv).symm, fun v hv => key 0 v hv⟩

end Go.Proofs.Ytffdbncjndnnaaa.Wd
