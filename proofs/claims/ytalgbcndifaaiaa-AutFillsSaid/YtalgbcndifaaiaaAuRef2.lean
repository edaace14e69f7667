/-
  Valid of the reference of layer 5: the ways in which an edge can be wrong.
-/
import Derived.Test.YtalgbcndifaaiaaAuRef
namespace Go.Proofs.Ytalgbcndifaaiaa.Wd
open Go.RowKit
set_option linter.unusedVariables false

def wayA (P M : Nat) (S : Int) (x : Ed) : Prop := x.f < 0 ∨ (0 ≤ x.f ∧ S ≤ x.f)
def wayB (P M : Nat) (S : Int) (x : Ed) : Prop := (0 ≤ x.f ∧ x.f < S ∧ x.t < 0) ∨ (0 ≤ x.f ∧ x.f < S ∧ 0 ≤ x.t ∧ S ≤ x.t)
def wayC (P M : Nat) (S : Int) (x : Ed) : Prop := (0 ≤ x.f ∧ x.f < S ∧ 0 ≤ x.t ∧ x.t < S ∧ x.c < 0) ∨ (0 ≤ x.f ∧ x.f < S ∧ 0 ≤ x.t ∧ x.t < S ∧ 0 ≤ x.c ∧ (2 : Int) ^ P ≤ x.c)
def wayD (P M : Nat) (S : Int) (x : Ed) : Prop := 0 ≤ x.f ∧ x.f < S ∧ 0 ≤ x.t ∧ x.t < S ∧ 0 ≤ x.c ∧ x.c < (2 : Int) ^ P ∧ ¬ bits .andNot .i64 x.b x.c = 0
def wayE (P M : Nat) (S : Int) (x : Ed) : Prop := (0 ≤ x.f ∧ x.f < S ∧ 0 ≤ x.t ∧ x.t < S ∧ 0 ≤ x.c ∧ x.c < (2 : Int) ^ P ∧ bits .andNot .i64 x.b x.c = 0 ∧ x.m < 0) ∨ (0 ≤ x.f ∧ x.f < S ∧ 0 ≤ x.t ∧ x.t < S ∧ 0 ≤ x.c ∧ x.c < (2 : Int) ^ P ∧ bits .andNot .i64 x.b x.c = 0 ∧ 0 ≤ x.m ∧ (2 : Int) ^ M ≤ x.m)

/-- The first edge that is wrong, if there is one, is wrong in this way. -/
def Wrong (P M : Nat) (S : Int) (es : List Ed) (ne : Nat) (Wy : Nat → Nat → Int → Ed → Prop) : Prop := ∀ t, t < ne → edgesB P S M (es.take t) = true → edB P S M (es.getD t ed0) = true ∨ Wy P M S (es.getD t ed0)

theorem some_way (P M : Nat) (S : Int) (x : Ed) : edB P S M x = true ∨ wayA P M S x ∨ wayB P M S x ∨ wayC P M S x ∨ wayD P M S x ∨ wayE P M S x := by
  obtain ⟨ef, et, ec, eb, em⟩ := x
  unfold edB wayA wayB wayC wayD wayE
  simp only
  rcases ten_ways S (2 ^ P) (2 ^ M) ef et ec (bits .andNot .i64 eb ec) em with h | ⟨h, h2⟩ | ⟨h, h2, h3⟩ | ⟨h, h2, h3, h4⟩ | ⟨h, h2, h3, h4, h5⟩ | ⟨h, h2, h3, h4, h5, h6⟩ | ⟨h, h2, h3, h4, h5, h6, h7⟩ | ⟨h, h2, h3, h4, h5, h6, h7, h8⟩ | ⟨h, h2, h3, h4, h5, h6, h7, h8, h9⟩ | ⟨h, h2, h3, h4, h5, h6, h7, h8, h9⟩
  · exact .inr (.inl (.inl h))
  · exact .inr (.inl (.inr ⟨h, h2⟩))
  · exact .inr (.inr (.inl (.inl ⟨h, h2, h3⟩)))
  · exact .inr (.inr (.inl (.inr ⟨h, h2, h3, h4⟩)))
  · exact .inr (.inr (.inr (.inl (.inl ⟨h, h2, h3, h4, h5⟩))))
  · exact .inr (.inr (.inr (.inl (.inr ⟨h, h2, h3, h4, h5, h6⟩))))
  · exact .inr (.inr (.inr (.inr (.inl ⟨h, h2, h3, h4, h5, h6, h7⟩))))
  · exact .inr (.inr (.inr (.inr (.inr (.inl ⟨h, h2, h3, h4, h5, h6, h7, h8⟩)))))
  · exact .inr (.inr (.inr (.inr (.inr (.inr ⟨h, h2, h3, h4, h5, h6, h7, h8, h9⟩)))))
  · exact .inl (decide_eq_true ⟨⟨h, h2⟩, ⟨h3, h4⟩, ⟨h5, h6⟩, h7, h8, h9⟩)

theorem take_bad {P M : Nat} {S : Int} {es : List Ed} {k t : Nat} (hk : k < es.length) (h : edB P S M (es.getD k ed0) = false) (ht : k < t) : edgesB P S M (es.take t) = false := by
  rw [← Bool.not_eq_true]
  intro hx
  have h1 := List.all_eq_true.1 hx (es.getD k ed0) (by
    rw [List.getD_eq_getElem?_getD, List.getElem?_eq_getElem hk]
    exact List.mem_of_getElem (i := k) (h := by simp; omega) (by simp))
  rw [h] at h1
  cases h1

theorem first_bad (P M : Nat) (S : Int) (es : List Ed) : ∀ n, n ≤ es.length → edgesB P S M (es.take n) = true ∨ ∃ k, k < n ∧ edgesB P S M (es.take k) = true ∧ edB P S M (es.getD k ed0) = false := by
  intro n
  induction n with
  | zero => intro _; exact .inl (by simp [edgesB])
  | succ n ih =>
    intro hn
    rcases ih (by omega) with h | ⟨k, hk, h1, h2⟩
    · cases hb : edB P S M (es.getD n ed0)
      · exact .inr ⟨n, by omega, h, hb⟩
      · exact .inl (edgesB_step (by omega) h hb)
    · exact .inr ⟨k, by omega, h1, h2⟩

theorem wrong_ways (P M : Nat) (S : Int) (es : List Ed) (ne : Nat) (hl : es.length = ne) : Wrong P M S es ne wayA ∨ Wrong P M S es ne wayB ∨ Wrong P M S es ne wayC ∨ Wrong P M S es ne wayD ∨ Wrong P M S es ne wayE := by
  rcases first_bad P M S es ne (by omega) with h | ⟨k, hk, h1, h2⟩
  · refine .inl fun t ht _ => .inl ?_
    rw [← Bool.not_eq_false]
    intro hx
    rw [take_bad (by omega) hx ht] at h
    cases h
  · have key : ∀ Wy : Nat → Nat → Int → Ed → Prop, Wy P M S (es.getD k ed0) → Wrong P M S es ne Wy := by
      intro Wy hw t ht htk
      rcases Nat.lt_trichotomy t k with h | h | h
      · left
        rw [← Bool.not_eq_false]
        intro hx
        rw [take_bad (by omega) hx h] at h1
        cases h1
      · subst h; exact .inr hw
      · rw [take_bad (by omega) h2 h] at htk; cases htk
    rcases some_way P M S (es.getD k ed0) with h | h | h | h | h | h
    · rw [h] at h2; cases h2
    · exact .inl (key _ h)
    · exact .inr (.inl (key _ h))
    · exact .inr (.inr (.inl (key _ h)))
    · exact .inr (.inr (.inr (.inl (key _ h))))
    · exact .inr (.inr (.inr (.inr (key _ h))))

end Go.Proofs.Ytalgbcndifaaiaa.Wd
