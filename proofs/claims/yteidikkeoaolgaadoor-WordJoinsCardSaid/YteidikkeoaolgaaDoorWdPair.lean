/-
  Two rows that grow side by side: an append to the one leaves the other as it was, and they stay apart.
-/
import Derived.Test.YteidikkeoaolgaaDoorWdRdS
namespace Go.Proofs.YteidikkeoaolgaaDoor.Wd
open Go.RowKit

/-- The two lie in different blocks (or the first has none). -/
def Apart (v v' : Value) : Prop := v.ownBlock = none ∨ v.ownBlock ≠ v'.ownBlock

theorem Apart.symm {v v' : Value} (h : Apart v v') : Apart v' v := by
  rcases h with h | h
  · by_cases h' : v'.ownBlock = none
    · exact .inl h'
    · exact .inr (by rw [h]; exact h')
  · exact .inr (Ne.symm h)

theorem Apart.nil {v : Value} : Apart (.slice none 0 0) v := .inl rfl

section
variable {B e k n n' : Nat} {v v' v2 : Value} {xs xs' : List Value} {w w1 w2 : World}

/-- A row's block is one of the world's. -/
theorem own_old (h : w.ownsRow B e k v n xs) {b : Nat} (hb : v.ownBlock = some b) : B ≤ b ∧ b < w.heap.size := by
  rcases h.2 with ⟨rfl, _⟩ | ⟨g, cap, cur, rfl, h1, hgg, _⟩
  · cases hb
  · cases hb
    exact ⟨h1, (Array.getElem?_eq_some_iff.1 hgg).1⟩

/-- An append to v (it is v2 then) leaves the row of v' as it was, and the two are apart as before. -/
theorem own_apart (h' : w.ownsRow B e k v' n' xs') (hne : Apart v' v) (hg : w.grownBy w2 v.ownBlock) (h2 : v2.ownBlock = v.ownBlock ∨ v2.ownBlock = some w.heap.size) :
    w2.ownsRow B e k v' n' xs' ∧ Apart v' v2 := by
  refine ⟨h'.kept hg hne, ?_⟩
  rcases h2 with h2 | h2
  · show v'.ownBlock = none ∨ v'.ownBlock ≠ v2.ownBlock
    rw [h2]
    exact hne
  · by_cases h0 : v'.ownBlock = none
    · exact .inl h0
    · refine .inr fun h3 => ?_
      have := (own_old h' (h3.trans h2)).2
      omega

/-- Four rows, all apart from one another: one grows. -/
theorem own_apart3 {v3 : Value} {n3 : Nat} {xs3 : List Value} (h' : w.ownsRow B e k v' n' xs') (h3 : w.ownsRow B e k v3 n3 xs3) (hne : Apart v' v) (hne3 : Apart v3 v)
    (hg : w.grownBy w2 v.ownBlock) (h2 : v2.ownBlock = v.ownBlock ∨ v2.ownBlock = some w.heap.size) :
    (w2.ownsRow B e k v' n' xs' ∧ Apart v' v2) ∧ (w2.ownsRow B e k v3 n3 xs3 ∧ Apart v3 v2) :=
  ⟨own_apart h' hne hg h2, own_apart h3 hne3 hg h2⟩
end

/-- Two rows of letters, own to the walk, apart from each other. -/
structure Two (B : Nat) (w : World) (v v' : Value) (n : Nat) (S S' : List Int) : Prop where
  base : B ≤ w.heap.size
  own : w.ownsRow B 3 1 v n (S.map (Value.int .i64))
  own' : w.ownsRow B 3 1 v' n (S'.map (Value.int .i64))
  apart : Apart v v'

theorem Two.start (w : World) : Two w.heap.size w (.slice none 0 0) (.slice none 0 0) 0 [] [] :=
  ⟨Nat.le_refl _, World.ownsRow_nil _ _ _ _, World.ownsRow_nil _ _ _ _, Apart.nil⟩

theorem Two.below {B n : Nat} {w w' : World} {v v' : Value} {S S' : List Int} (h : Two B w v v' n S S') (hb : Below w.heap.size w w') : Two B w' v v' n S S' :=
  ⟨Nat.le_trans h.base hb.size, own_below h.own hb, own_below h.own' hb, h.apart⟩

/-- Both grow by a letter, one behind the other; in between and ahead of them fresh blocks may be made. -/
theorem Two.grow {B n : Nat} {w w1 w2 w3 w4 : World} {v v' u u' : Value} {S S' : List Int} {x y : Int} (h : Two B w v v' n S S') (hb : Below w.heap.size w w1)
    (h1 : w2.ownsRow B 3 1 u (n + 1) (S.map (Value.int .i64) ++ [x].map (Value.int .i64))) (g1 : w1.grownBy w2 v.ownBlock) (e1 : u.ownBlock = v.ownBlock ∨ u.ownBlock = some w1.heap.size)
    (hb2 : Below w2.heap.size w2 w3)
    (h3 : w4.ownsRow B 3 1 u' (n + 1) (S'.map (Value.int .i64) ++ [y].map (Value.int .i64))) (g3 : w3.grownBy w4 v'.ownBlock) (e3 : u'.ownBlock = v'.ownBlock ∨ u'.ownBlock = some w3.heap.size) :
    Two B w4 u u' (n + 1) (S ++ [x]) (S' ++ [y]) ∧ Below B w w4 := by
  have t1 := h.below hb
  obtain ⟨r1, p1⟩ := own_apart t1.own' t1.apart.symm g1 e1
  have b1 : Below B w1 w2 := below_own t1.own g1 t1.base
  have r2 := own_below r1 hb2
  have s1 := own_below h1 hb2
  have hB2 : B ≤ w2.heap.size := Nat.le_trans t1.base b1.size
  have hB3 : B ≤ w3.heap.size := Nat.le_trans hB2 hb2.size
  have b3 : Below B w3 w4 := below_own r2 g3 hB3
  obtain ⟨s2, p2⟩ := own_apart s1 p1.symm g3 e3
  refine ⟨⟨Nat.le_trans hB3 b3.size, ?_, ?_, p2⟩, (((hb.mono h.base).trans b1).trans (hb2.mono hB2)).trans b3⟩
  · rw [List.map_append]
    exact s2
  · rw [List.map_append]
    exact h3

/-- What the two hold. -/
theorem Two.ints {B n n1 n2 c1 c2 : Nat} {A1 A2 : Option Addr} {w : World} {S S' : List Int} (h : Two B w (.slice A1 n1 c1) (.slice A2 n2 c2) n S S') : Ints w A1 n1 S ∧ Ints w A2 n2 S' := by
  have e1 := own_slice h.own
  have e2 := own_slice h.own'
  obtain ⟨_, _, h1, _⟩ := e1
  obtain ⟨_, _, h2, _⟩ := e2
  cases h1
  cases h2
  exact ⟨Ints.of_own h.own, Ints.of_own h.own'⟩

end Go.Proofs.YteidikkeoaolgaaDoor.Wd
