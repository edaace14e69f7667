/-
  The normal form that package word reckons: the loop cut to its period, turned back by as many letters as the stem gives up. No program in it.
-/
import Derived.Test.YteidikkeoaolgaaDoorWdMath
namespace Go.Proofs.YteidikkeoaolgaaDoor.Wd

theorem turn_mod (y j p : Nat) (hp : 0 < p) : ((y + j) % p + (p - j % p)) % p = y % p := by
  rw [Nat.mod_add_mod]
  have h1 := Nat.div_add_mod j p
  have h2 := Nat.mod_lt j hp
  have : y + j + (p - j % p) = y + p * (j / p + 1) := by
    rw [Nat.mul_add, Nat.mul_one]; omega
  rw [this, Nat.add_mul_mod_self_left]
theorem turn_mod' (i j p : Nat) (hp : 0 < p) (hi : i < j) : ((j - 1 - i) % p + (p - j % p)) % p = p - 1 - i % p := by
  rw [Nat.mod_add_mod]
  have h1 := Nat.div_add_mod j p
  have h2 := Nat.mod_lt j hp
  have h3 := Nat.div_add_mod i p
  have h4 := Nat.mod_lt i hp
  have hq : i / p ≤ j / p := Nat.div_le_div_right (by omega)
  obtain ⟨d, hd⟩ : ∃ d, j / p = i / p + d := ⟨j / p - i / p, by omega⟩
  have : j - 1 - i + (p - j % p) = (p - 1 - i % p) + p * d := by
    rw [hd, Nat.mul_add] at h1
    omega
  rw [this, Nat.add_mul_mod_self_left, Nat.mod_eq_of_lt (by omega)]

/-- The list turned to begin at s. -/
def rot (l : List Int) (s : Nat) : List Int := l.drop s ++ l.take s

theorem rot_length (l : List Int) (s : Nat) : (rot l s).length = l.length := by unfold rot; rw [List.length_append, List.length_drop, List.length_take]; omega
theorem rot_getD {l : List Int} {s i : Nat} (hs : s < l.length) (hi : i < l.length) : (rot l s).getD i 0 = l.getD ((i + s) % l.length) 0 := by
  unfold rot
  simp only [List.getD_eq_getElem?_getD]
  rcases Nat.lt_or_ge i (l.length - s) with h | h
  · rw [List.getElem?_append_left (by rw [List.length_drop]; exact h), List.getElem?_drop, Nat.mod_eq_of_lt (by omega), Nat.add_comm]
  · rw [List.getElem?_append_right (by rw [List.length_drop]; exact h), List.length_drop, List.getElem?_take, if_pos (by omega)]
    rw [show (i + s) % l.length = i - (l.length - s) from by
      rw [Nat.mod_eq_sub_mod (by omega), Nat.mod_eq_of_lt (by omega)]; omega]

theorem at_turn {xs L : List Int} {j : Nat} (hp : 0 < L.length) (hj : j ≤ xs.length)
    (hm : ∀ i, i < j → xs.getD (xs.length - 1 - i) 0 = L.getD (L.length - 1 - i % L.length) 0) (k : Nat) :
    at_ (xs.take (xs.length - j)) (rot L ((L.length - j % L.length) % L.length)) k = at_ xs L k := by
  have hs : (L.length - j % L.length) % L.length < L.length := Nat.mod_lt _ hp
  have hlen : (xs.take (xs.length - j)).length = xs.length - j := by rw [List.length_take]; omega
  rcases Nat.lt_or_ge k (xs.length - j) with h1 | h1
  · rw [at_lt (by omega), at_lt (by omega)]
    simp only [List.getD_eq_getElem?_getD, List.getElem?_take]
    rw [if_pos h1]
  · rw [at_ge (by omega), rot_length, rot_getD hs (Nat.mod_lt _ hp), Nat.add_mod_mod, hlen]
    rcases Nat.lt_or_ge k xs.length with h2 | h2
    · rw [at_lt h2]
      have := hm (xs.length - 1 - k) (by omega)
      rw [show xs.length - 1 - (xs.length - 1 - k) = k from by omega] at this
      rw [this, show k - (xs.length - j) = j - 1 - (xs.length - 1 - k) from by omega, turn_mod' _ _ _ hp (by omega)]
    · rw [at_ge h2, show k - (xs.length - j) = (k - xs.length) + j from by omega, turn_mod _ _ _ hp]

theorem nf_normal {xs ys : List Int} {p j : Nat} (hP : Least ys p) (hj : j ≤ xs.length)
    (hm : ∀ i, i < j → xs.getD (xs.length - 1 - i) 0 = ys.getD (p - 1 - i % p) 0) (hend : j = xs.length ∨ xs.getD (xs.length - 1 - j) 0 ≠ ys.getD (p - 1 - j % p) 0) :
    NF (at_ xs ys) (xs.take (xs.length - j)) (rot (ys.take p) ((p - j % p) % p)) := by
  have hp1 := hP.1
  have hp2 := hP.2.1
  have hlen : (ys.take p).length = p := by rw [List.length_take]; omega
  have hget : ∀ i, i < p → (ys.take p).getD i 0 = ys.getD i 0 := fun i hi => by simp [List.getD_eq_getElem?_getD, hi]
  have hf : ∀ k, at_ (xs.take (xs.length - j)) (rot (ys.take p) ((p - j % p) % p)) k = at_ xs ys k := by
    intro k
    have := at_turn (xs := xs) (L := ys.take p) (j := j) (by omega) hj (fun i hi => by
      rw [hlen, hget _ (by omega)]; exact hm i hi) k
    rw [hlen] at this
    rw [this, at_take hP]
  refine nf_of hf (by rw [rot_length, hlen]; omega) (fun m q h => by rw [rot_length, hlen]; exact least_ev hP m q h) ?_
  rcases hend with h | h
  · left; rw [h]; simp
  · rcases Nat.lt_or_ge j xs.length with h1 | h1
    · right
      have hl : (xs.take (xs.length - j)).length = xs.length - j := by rw [List.length_take]; omega
      rw [hl, rot_length, hlen, rot_getD (by rw [hlen]; exact Nat.mod_lt _ (by omega)) (by omega), hlen, Nat.add_mod_mod]
      have hlt := Nat.mod_lt j (show 0 < p by omega)
      rw [show (p - 1 + (p - j % p)) % p = p - 1 - j % p from by
        rw [Nat.mod_eq_sub_mod (by omega), Nat.mod_eq_of_lt (by omega)]; omega]
      rw [hget _ (by omega)]
      have : (xs.take (xs.length - j)).getD (xs.length - j - 1) 0 = xs.getD (xs.length - 1 - j) 0 := by
        rw [show xs.length - j - 1 = xs.length - 1 - j from by omega]
        simp only [List.getD_eq_getElem?_getD, List.getElem?_take]
        rw [if_pos (by omega)]
      rw [this]
      exact h
    · left
      rw [show xs.length - j = 0 from by omega]; simp

end Go.Proofs.YteidikkeoaolgaaDoor.Wd
