/-
  Mix of package word.
-/
import Derived.Test.YteidikkeoaolgaaDoorWdSplit
import Derived.Test.YteidikkeoaolgaaDoorWdFit
namespace Go.Proofs.YteidikkeoaolgaaDoor.Wd
open Go.RowKit
set_option linter.unusedVariables false

theorem mod_none {t q : Nat} (h : ((t : Int) % (q : Int) != 0) = false) : t % q = 0 := by
  have h2 : ((t : Int) % (q : Int)) = 0 := by simpa using h
  omega

set_option maxRecDepth 100000 in
set_option maxHeartbeats 1000000 in
theorem leastMultiple_any (p q : Nat) (w : World) (hp0 : 0 < p) (hq0 : 0 < q) (hp : p ≤ 300) (hq : q ≤ 300) :
    Calls Tryd.prog 60 #[.int .i64 p, .int .i64 q] w fun e w' => ∃ L i j : Nat, e = .returned (.int .i64 L) ∧ Hid (L = p * i ∧ L = q * j) ∧ 0 < L ∧ L ≤ 90000 ∧ w = w' := by
  go_enter Tryd.func60, Tryd.ntmps60
  go_wp2_with fail
  go_loopg [5] q (fun g v wx => ∃ i t : Nat, i + g = q + 1 ∧ 1 ≤ i ∧ i ≤ q ∧ v = .int .i64 t ∧ Hid (t = p * i) ∧ wx = w)
  case atStart => exact ⟨1, p, by omega, by omega, by omega, rfl, by show p = p * 1; omega, rfl⟩
  case round =>
    obtain ⟨i, t, hig, hi1, hiq, rfl, HT, rfl⟩ := hrel
    have ht : 0 < t ∧ t ≤ 90000 := by
      rw [HT.out]
      exact ⟨Nat.mul_pos hp0 hi1, Nat.le_trans (Nat.mul_le_mul hp (Nat.le_trans hiq hq)) (by omega)⟩
    have ht0 := ht.1
    have ht1 := ht.2
    clear ht
    cases hd : ((t : Int) % (q : Int) != 0)
    · have HD := Lib.hid (mod_none hd)
      go_wp2_with fail
      go_ret
      exact ⟨t, i, t / q, rfl, ⟨HT.out, by have := Nat.div_add_mod t q; rw [HD.out] at this; omega⟩, ht0, ht1, rfl⟩
    · have HD := Lib.hid (per_test' hd)
      have hlt : i < q := by
        rcases Nat.lt_or_ge i q with h | h
        · exact h
        · exfalso
          have e : i = q := by omega
          apply HD.out
          rw [HT.out, e]
          exact Nat.mul_mod_left p q
      cases gk with
      | zero => exfalso; omega
      | succ g =>
      go_wp2_with fail
      go_roundg g
      case measure => omega
      case rel => exact ⟨i + 1, t + p, by omega, by omega, by omega, by go_num, by show t + p = p * (i + 1); rw [Nat.mul_succ, HT.out], rfl⟩

/-- The letters of the mixed word. -/
def mixF (s l s' l' : List Int) (k : Nat) (j : Nat) : Int := at_ s l j + at_ s' l' j * (2 : Int) ^ k
theorem mixF_per {s l s' l' : List Int} {k st L i i' : Nat} (h1 : s.length ≤ st) (h2 : s'.length ≤ st) (e1 : L = l.length * i) (e2 : L = l'.length * i') (j : Nat) (hj : st ≤ j) : mixF s l s' l' k (j + L) = mixF s l s' l' k j := by
  unfold mixF
  have a1 := per_mul (f := at_ s l) (n := s.length) (m := l.length) (fun j hj => at_per hj) i j (by omega)
  have a2 := per_mul (f := at_ s' l') (n := s'.length) (m := l'.length) (fun j hj => at_per hj) i' j (by omega)
  rw [← e1] at a1
  rw [← e2] at a2
  rw [a1, a2]

/-- What Mix comes to. -/
def FitM (rng ok : Bool) (f : Nat → Int) (s' l' : List Int) (code : Int) : Prop := (rng = false ∧ s' = [] ∧ l' = [] ∧ code = 6) ∨ (rng = true ∧ Fit ok f s' l' code)
theorem FitM.unique {rng ok : Bool} {f : Nat → Int} {a b a' b' : List Int} {c c' : Int} (h : FitM rng ok f a b c) (h' : FitM rng ok f a' b' c') : a = a' ∧ b = b' ∧ c = c' := by
  rcases h with ⟨e, rfl, rfl, rfl⟩ | ⟨e, h⟩ <;> rcases h' with ⟨e', rfl, rfl, rfl⟩ | ⟨e', h'⟩
  · exact ⟨rfl, rfl, rfl⟩
  · rw [e] at e'; cases e'
  · rw [e] at e'; cases e'
  · exact h.unique h'
def ResM (w w' : World) (rng ok : Bool) (f : Nat → Int) (e : Ending) : Prop :=
  ∃ A' n' c' B' m' d' s' l' code, e = .returned (.tuple #[.agg #[.slice A' n' c', .slice B' m' d'], .int .i64 code]) ∧
    (Ints w' A' n' s' ∧ Ints w' B' m' l' ∧ n' ≤ c' ∧ m' ≤ d') ∧ Hid (FitM rng ok f s' l' code ∧ s'.length ≤ 100000 ∧ l'.length ≤ 100000) ∧ Below w.heap.size w w'
theorem ResM.range {w w' : World} {f : Nat → Int} {rng ok : Bool} (hb : Below w.heap.size w w') (h : rng = false) : ResM w w' rng ok f (.returned (.tuple #[.agg #[.slice none 0 0, .slice none 0 0], .int .i64 6])) :=
  ⟨none, 0, 0, none, 0, 0, [], [], 6, rfl, ⟨Ints.none_, Ints.none_, Nat.le_refl _, Nat.le_refl _⟩, ⟨.inl ⟨h, rfl, rfl, rfl⟩, by simp, by simp⟩, hb⟩
theorem ResM.bad {w w' : World} {f : Nat → Int} {rng ok : Bool} (hb : Below w.heap.size w w') (h0 : rng = true) (h : ok = false) : ResM w w' rng ok f (.returned (.tuple #[.agg #[.slice none 0 0, .slice none 0 0], .int .i64 1])) :=
  ⟨none, 0, 0, none, 0, 0, [], [], 1, rfl, ⟨Ints.none_, Ints.none_, Nat.le_refl _, Nat.le_refl _⟩, ⟨.inr ⟨h0, .inl ⟨h, rfl, rfl, rfl⟩⟩, by simp, by simp⟩, hb⟩

/-- May the two numbers stand? -/
def rngM (k j : Int) : Bool := decide (0 ≤ k) && decide (0 ≤ j) && decide (k + j ≤ 6)

set_option maxRecDepth 100000 in
set_option maxHeartbeats 2000000 in
theorem Mix_range (A B A' B' : Option Addr) (n c m d n' c' m' d' : Nat) (k j : Int) (ok : Bool) (f : Nat → Int) (w : World) (hbad : rngM k j = false) (hk : -9223372036854775808 ≤ k ∧ k ≤ 9223372036854775807) (hj : -9223372036854775808 ≤ j ∧ j ≤ 9223372036854775807) :
    Calls Tryd.prog 15 #[.agg #[.slice A n c, .slice B m d], .agg #[.slice A' n' c', .slice B' m' d'], .int .i64 k, .int .i64 j] w fun e w' => ResM w w' (rngM k j) ok f e := by
  have HB := Lib.hid hbad
  have hcase : k < 0 ∨ (0 ≤ k ∧ j < 0) ∨ (0 ≤ k ∧ 0 ≤ j ∧ 6 < k) ∨ (0 ≤ k ∧ 0 ≤ j ∧ k ≤ 6 ∧ 6 - k < j) := by
    simp only [rngM, Bool.and_eq_false_iff, decide_eq_false_iff_not] at hbad
    omega
  obtain ⟨hk1, hk2⟩ := hk
  obtain ⟨hj1, hj2⟩ := hj
  clear hbad
  have hbw : Below w.heap.size w (((w.alloc (.cells #[.slice A n c, .slice B m d] 24)).alloc (.cells #[.slice A' n' c', .slice B' m' d'] 24)).alloc (.cells #[.slice none 0 0, .slice none 0 0] 24)) := (((Below.refl _ _).alloc (Nat.le_refl _) _).alloc (by simp) _).alloc (by simp; omega) _
  rcases hcase with h | ⟨h, h2⟩ | ⟨h, h2, h3⟩ | ⟨h, h2, h3, h4⟩
  all_goals
    go_enter Tryd.func15, Tryd.ntmps15
    go_wp2_with fail
    refine bodyPost_ret (v := .tuple #[.agg #[.slice none 0 0, .slice none 0 0], .int .i64 6]) (by simp [results, Tryd.results15, go_sem]) rfl ?_
    exact ResM.range hbw HB.out

end Go.Proofs.YteidikkeoaolgaaDoor.Wd
