/-
  What Normal, From, Loops, Split and Mix return of a valid word: valid words with the letters that are asked for.
-/
import Derived.Test.YtnkmmmagdmnngaaDoorWdPosMath
import Derived.Test.YtnkmmmagdmnngaaDoorWdForms
namespace Go.Proofs.YtnkmmmagdmnngaaDoor.Wd
open Go.RowKit
set_option linter.unusedVariables false

theorem good_of {f : Nat → Int} {a p : Nat} {s l : List Int} (he : Ev f a p) (h : NF f s l) (hap : a + p ≤ 200) (hr : ∀ k, 0 ≤ f k ∧ f k < 64) : validB 6 s l = true ∧ at_ s l = f := by
  have hs := nf_short he h
  exact ⟨valid_of (fun k => by rw [h.1 k]; exact hr k) h.2.1 (by omega), funext h.1⟩
theorem out_nf {ok : Bool} {f : Nat → Int} {s l : List Int} (hok : ok = true) (h : Out ok f s l) : NF f s l := by
  rw [hok] at h
  simpa [Out] using h

/-- A valid word with the letters f, and no error. -/
def GoodW (w w' : World) (f : Nat → Int) (e : Ending) : Prop :=
  ∃ A n c B m d s l, e = .returned (.tuple #[.agg #[.slice A n c, .slice B m d], .int .i64 0]) ∧ W4 w' A n c B m d s l ∧ Hid ((validB 6 s l = true ∧ at_ s l = f) ∧ n ≤ 100000 ∧ m ≤ 100000) ∧ Below w.heap.size w w'

section
variable (A B : Option Addr) (n c m d : Nat) (s l : List Int)

theorem normal_w (w : World) (ha : Ints w A n s) (hb : Ints w B m l) (hnc : n ≤ c) (hmd : m ≤ d) (hv : validB 6 s l = true) :
    Calls Tryd.prog 17 #[.agg #[.slice A n c, .slice B m d]] w fun e w' => GoodW w w' (at_ s l) e := by
  have hl := valid6 hv
  have hx := ha.1
  have hy := hb.1
  refine (Normal_any A B n c m d s l w ha hb (by omega) hnc hmd).mono ?_
  rintro e w' ⟨A', n', c', B', m', d', s', l', rfl, hw, HN, hbl⟩
  have hnf := out_nf hv HN.out.1
  have hg := good_of (a := s.length) (p := l.length) ⟨by omega, fun i hi => at_per hi⟩ hnf (by omega) (letter_at hv)
  have h1 := hw.1.1
  have h2 := hw.2.1.1
  have h3 := HN.out.2
  exact ⟨A', n', c', B', m', d', s', l', by rw [hv]; rfl, hw, ⟨hg, by omega, by omega⟩, hbl⟩

theorem from_w (k : Nat) (w : World) (ha : Ints w A n s) (hb : Ints w B m l) (hnc : n ≤ c) (hmd : m ≤ d) (hv : validB 6 s l = true) (hk : k ≤ 4398046511104) :
    Calls Tryd.prog 19 #[.agg #[.slice A n c, .slice B m d], .int .i64 k] w fun e w' => GoodW w w' (fun i => at_ s l (k + i)) e := by
  have hl := valid6 hv
  have hx := ha.1
  have hy := hb.1
  refine (From_any A B n c m d s l k w ha hb (by omega) hnc hmd (by omega)).mono ?_
  rintro e w' ⟨A', n', c', B', m', d', s', l', rfl, hw, HN, hbl⟩
  have hok : okF (validB 6 s l) (k : Int) = true := by rw [hv]; simp [okF]
  have hnf := out_nf hok HN.out.1
  have hf : tail_ s l (k : Int) = fun i => at_ s l (k + i) := by funext i; simp [tail_]
  rw [hf] at hnf
  have hg := good_of (a := s.length) (p := l.length) ⟨by omega, fun i hi => by
    show at_ s l (k + (i + l.length)) = at_ s l (k + i)
    rw [← Nat.add_assoc]; exact at_per (by omega)⟩ hnf (by omega) (fun i => letter_at hv (k + i))
  have h1 := hw.1.1
  have h2 := hw.2.1.1
  have h3 := HN.out.2
  exact ⟨A', n', c', B', m', d', s', l', by rw [hv]; simp [codeF], hw, ⟨hg, by omega, by omega⟩, hbl⟩

/-- Loops: the same letters, or an error. -/
theorem loops_w (r : Nat) (w : World) (ha : Ints w A n s) (hb : Ints w B m l) (hnc : n ≤ c) (hmd : m ≤ d) (hv : validB 6 s l = true) (hr : r ≤ 10) :
    Calls Tryd.prog 21 #[.agg #[.slice A n c, .slice B m d], .int .i64 (1 + (r : Int))] w fun e w' =>
      ∃ A' n' c' B' m' d' s' l' code, e = .returned (.tuple #[.agg #[.slice A' n' c', .slice B' m' d'], .int .i64 code]) ∧ W4 w' A' n' c' B' m' d' s' l' ∧ Hid ((code = 0 → validB 6 s' l' = true ∧ at_ s' l' = at_ s l) ∧ n' ≤ 100000 ∧ m' ≤ 100000) ∧ Below w.heap.size w w' := by
  have hl := valid6 hv
  have hx := ha.1
  have hy := hb.1
  refine (Loops_any A B n c m d s l (1 + (r : Int)) w ha hb (by omega) hnc hmd).mono ?_
  rintro e w' ⟨A', n', c', B', m', d', s', l', rfl, hw, HN, hbl⟩
  have h1 := hw.1.1
  have h2 := hw.2.1.1
  have h3 := HN.out.2
  refine ⟨A', n', c', B', m', d', s', l', _, rfl, hw, ⟨fun hcode => ?_, by omega, by omega⟩, hbl⟩
  have hok : okL s l (1 + (r : Int)) = true := by
    unfold codeL at hcode
    rw [if_pos hv, if_neg (by omega)] at hcode
    by_cases hfit : (s.length : Int) + (1 + (r : Int)) * l.length ≤ 200
    · simp only [okL, Bool.and_eq_true, decide_eq_true_eq]
      exact ⟨⟨hv, by omega⟩, hfit⟩
    · rw [if_neg hfit] at hcode
      cases hcode
  have ho := HN.out.1
  unfold OutL at ho
  rw [if_pos hok] at ho
  obtain ⟨rfl, rfl⟩ := ho
  have ht : (1 + (r : Int)).toNat = r + 1 := by omega
  have hat : at_ s' (rep l (1 + (r : Int)).toNat) = at_ s' l := at_rep (by omega) (by omega)
  refine ⟨valid_of (fun k => by rw [hat]; exact letter_at hv k) (by rw [rep_length]; exact Nat.mul_pos (by omega) (by omega)) ?_, hat⟩
  simp only [okL, Bool.and_eq_true, decide_eq_true_eq] at hok
  have hfit := hok.2
  rw [rep_length, ht]
  have e : (((r + 1) * l.length : Nat) : Int) = (1 + (r : Int)) * l.length := by rw [Int.natCast_mul]; congr 1; omega
  omega

theorem split_w (k : Nat) (w : World) (ha : Ints w A n s) (hb : Ints w B m l) (hv : validB 6 s l = true) (hk : k ≤ 6) :
    Calls Tryd.prog 32 #[.agg #[.slice A n c, .slice B m d], .int .i64 k] w fun e w' =>
      ∃ A1 n1 c1 B1 m1 d1 A2 n2 c2 B2 m2 d2 s1 l1 s2 l2, e = .returned (.tuple #[.agg #[.slice A1 n1 c1, .slice B1 m1 d1], .agg #[.slice A2 n2 c2, .slice B2 m2 d2], .int .i64 0]) ∧ W4 w' A1 n1 c1 B1 m1 d1 s1 l1 ∧ W4 w' A2 n2 c2 B2 m2 d2 s2 l2 ∧
        Hid (((validB 6 s1 l1 = true ∧ at_ s1 l1 = lowF s l k) ∧ n1 ≤ 100000 ∧ m1 ≤ 100000) ∧ ((validB 6 s2 l2 = true ∧ at_ s2 l2 = highF s l k) ∧ n2 ≤ 100000 ∧ m2 ≤ 100000)) ∧ Below w.heap.size w w' := by
  have hl := valid6 hv
  have hx := ha.1
  have hy := hb.1
  refine (Split_good A B n c m d s l k w ha hb hv hk).mono ?_
  rintro e w' ⟨A1, n1, c1, B1, m1, d1, A2, n2, c2, B2, m2, d2, s1, l1, s2, l2, rfl, hw1, hw2, HN, hbl⟩
  have hf1 := out_nf rfl HN.out.1.1
  have hf2 := out_nf rfl HN.out.2.1
  have h2k : (1 : Int) ≤ (2 : Int) ^ k ∧ (2 : Int) ^ k ≤ 64 := by
    have : k = 0 ∨ k = 1 ∨ k = 2 ∨ k = 3 ∨ k = 4 ∨ k = 5 ∨ k = 6 := by omega
    rcases this with rfl | rfl | rfl | rfl | rfl | rfl | rfl <;> omega
  have hg1 := good_of (a := s.length) (p := l.length) ⟨by omega, fun i hi => by unfold lowF; rw [at_per hi]⟩ hf1 (by omega) (fun i => by
    have h1 := Int.emod_nonneg (at_ s l i) (show (2 : Int) ^ k ≠ 0 by omega)
    have h2 := Int.emod_lt_of_pos (at_ s l i) (show (0 : Int) < (2 : Int) ^ k by omega)
    unfold lowF
    omega)
  have hg2 := good_of (a := s.length) (p := l.length) ⟨by omega, fun i hi => by unfold highF; rw [at_per hi]⟩ hf2 (by omega) (fun i => by
    have hr := letter_at hv i
    have h1 := Int.ediv_nonneg hr.1 (show (0 : Int) ≤ (2 : Int) ^ k by omega)
    have h2 := Int.ediv_le_self (2 ^ k) hr.1
    unfold highF
    omega)
  have a1 := hw1.1.1
  have a2 := hw1.2.1.1
  have a3 := hw2.1.1
  have a4 := hw2.2.1.1
  have h3 := HN.out.1.2
  have h4 := HN.out.2.2
  exact ⟨A1, n1, c1, B1, m1, d1, A2, n2, c2, B2, m2, d2, s1, l1, s2, l2, rfl, hw1, hw2, ⟨⟨hg1, by omega, by omega⟩, ⟨hg2, by omega, by omega⟩⟩, hbl⟩

theorem split_out (k : Int) (w : World) (ha : Ints w A n s) (hb : Ints w B m l) (hv : validB 6 s l = true) (hk : k < 0 ∨ 6 < k) :
    Calls Tryd.prog 32 #[.agg #[.slice A n c, .slice B m d], .int .i64 k] w fun e w' =>
      ∃ A1 n1 c1 B1 m1 d1 A2 n2 c2 B2 m2 d2, e = .returned (.tuple #[.agg #[.slice A1 n1 c1, .slice B1 m1 d1], .agg #[.slice A2 n2 c2, .slice B2 m2 d2], .int .i64 6]) ∧ Below w.heap.size w w' := by
  have hl := valid6 hv
  have hx := ha.1
  have hy := hb.1
  refine (Split_early A B n c m d s l k (at_ s l) (at_ s l) w ha hb (by omega) (.inr hk)).mono ?_
  rintro e w' ⟨A1, n1, c1, B1, m1, d1, A2, n2, c2, B2, m2, d2, s1, l1, s2, l2, rfl, _, _, _, hbl⟩
  exact ⟨A1, n1, c1, B1, m1, d1, A2, n2, c2, B2, m2, d2, by rw [hv]; unfold codeS; rw [if_neg (by simp), if_pos hk], hbl⟩
end

/-- Mix, over numbers that make six together: the mixed letters, or an error. -/
theorem mix_w (A B A' B' : Option Addr) (n c m d n' c' m' d' : Nat) (s l s' l' : List Int) (k j : Nat) (w : World) (ha : Ints w A n s) (hb : Ints w B m l) (ha' : Ints w A' n' s') (hb' : Ints w B' m' l') (h1 : n + m ≤ 100000) (h1' : n' + m' ≤ 100000) (hkj : k + j = 6) :
    Calls Tryd.prog 30 #[.agg #[.slice A n c, .slice B m d], .agg #[.slice A' n' c', .slice B' m' d'], .int .i64 k, .int .i64 j] w fun e w' =>
      ∃ A1 n1 c1 B1 m1 d1 s1 l1 code, e = .returned (.tuple #[.agg #[.slice A1 n1 c1, .slice B1 m1 d1], .int .i64 code]) ∧ W4 w' A1 n1 c1 B1 m1 d1 s1 l1 ∧ Hid ((code = 0 → validB 6 s' l' = true ∧ validB 6 s1 l1 = true ∧ at_ s1 l1 = mixF s l s' l' k) ∧ n1 ≤ 100000 ∧ m1 ≤ 100000) ∧ Below w.heap.size w w' := by
  refine (Mix_any A B A' B' n c m d n' c' m' d' s l s' l' k j w ha hb ha' hb' h1 h1' (by omega) (by omega)).mono ?_
  rintro e w' ⟨A1, n1, c1, B1, m1, d1, s1, l1, code, rfl, hw, HN, hbl⟩
  have a1 := hw.1.1
  have a2 := hw.2.1.1
  have h3 := HN.out.2
  refine ⟨A1, n1, c1, B1, m1, d1, s1, l1, code, rfl, hw, ⟨fun hcode => ?_, by omega, by omega⟩, hbl⟩
  rcases HN.out.1 with ⟨_, _, _, rfl⟩ | ⟨_, hf⟩
  · cases hcode
  · rcases hf with ⟨_, _, _, rfl⟩ | ⟨hok, t, u, hnf, ⟨hlen, rfl, rfl, _⟩ | ⟨_, _, _, rfl⟩⟩
    · cases hcode
    · rw [Bool.and_eq_true] at hok
      simp only [Int.toNat_natCast] at hnf
      exact ⟨valid_mono (by omega) hok.2, valid_of (fun i => by rw [hnf.1 i]; exact mix_in hkj hok.1 hok.2 i) hnf.2.1 hlen, funext hnf.1⟩
    · cases hcode

theorem mix_out (A B A' B' : Option Addr) (n c m d n' c' m' d' : Nat) (k j : Int) (w : World) (hbad : rngM k j = false) (hk : -9223372036854775808 ≤ k ∧ k ≤ 9223372036854775807) (hj : -9223372036854775808 ≤ j ∧ j ≤ 9223372036854775807) :
    Calls Tryd.prog 30 #[.agg #[.slice A n c, .slice B m d], .agg #[.slice A' n' c', .slice B' m' d'], .int .i64 k, .int .i64 j] w fun e w' =>
      ∃ A1 n1 c1 B1 m1 d1, e = .returned (.tuple #[.agg #[.slice A1 n1 c1, .slice B1 m1 d1], .int .i64 6]) ∧ Below w.heap.size w w' := by
  refine (Mix_range A B A' B' n c m d n' c' m' d' k j true (fun _ => 0) w hbad hk hj).mono ?_
  rintro e w' ⟨A1, n1, c1, B1, m1, d1, s1, l1, code, rfl, _, HN, hbl⟩
  rcases HN.out.1 with ⟨_, _, _, rfl⟩ | ⟨hr, _⟩
  · exact ⟨A1, n1, c1, B1, m1, d1, rfl, hbl⟩
  · rw [hbad] at hr; cases hr

end Go.Proofs.YtnkmmmagdmnngaaDoor.Wd
