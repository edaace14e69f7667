/-
  What is printed of a word is read back. No program in it.
-/
import Derived.Test.YteidikkeoaolgaaDoorWdRd
import Derived.Test.YteidikkeoaolgaaDoorWdPrint
namespace Go.Proofs.YteidikkeoaolgaaDoor.Wd
open Go.RowKit

theorem digit_nat {i : Nat} (h : i < 10) : (UInt8.ofNat (48 + i)).toNat = 48 + i := by
  rw [UInt8.toNat_ofNat']
  show (48 + i) % 256 = _
  omega
theorem digit_is {i : Nat} (h : i < 10) : isDig (UInt8.ofNat (48 + i)) = true := by
  rw [isDig_iff, digit_nat h]
  omega

theorem dec_digits {x : Nat} (h : x < 64) : (∀ d ∈ Lib.decDigits x, isDig d = true) ∧ Lib.decDigits x ≠ [] ∧ ∀ m : Int, 64 ≤ m → numOf m (Lib.decDigits x) = x := by
  by_cases h1 : x < 10
  · rw [Lib.decDigits_one h1]
    refine ⟨fun d hd => ?_, by simp, fun m hm => ?_⟩
    · rw [List.mem_singleton.1 hd]; exact digit_is h1
    · show min (10 * 0 + (((UInt8.ofNat (48 + x)).toNat : Int) - 48)) m = x
      rw [digit_nat h1]
      omega
  · rw [Lib.decDigits_two h1 (by omega)]
    refine ⟨fun d hd => ?_, by simp, fun m hm => ?_⟩
    · simp only [List.mem_cons, List.not_mem_nil, or_false] at hd
      rcases hd with rfl | rfl
      · exact digit_is (by omega)
      · exact digit_is (by omega)
    · show min (10 * min (10 * 0 + (((UInt8.ofNat (48 + x / 10)).toNat : Int) - 48)) m + (((UInt8.ofNat (48 + x % 10)).toNat : Int) - 48)) m = x
      rw [digit_nat (by omega), digit_nat (by omega)]
      omega

theorem not_dig_blank : isDig 32 = false := by decide
theorem run_of {ds r : List UInt8} (h : ∀ d ∈ ds, isDig d = true) : (ds ++ 32 :: r).takeWhile isDig = ds ∧ (ds ++ 32 :: r).dropWhile isDig = 32 :: r := by
  rw [List.takeWhile_append_of_pos h, List.dropWhile_append_of_pos h]
  rw [List.takeWhile_cons_of_neg (by rw [not_dig_blank]; decide), List.dropWhile_cons_of_neg (by rw [not_dig_blank]; decide), List.append_nil]
  exact ⟨rfl, rfl⟩

theorem rd_blank (m : Int) (k : Nat) (r : List UInt8) (p : Nat) (S L : List Int) : rd m (k + 1) (32 :: r) p S L = rd m k r p S L := by
  conv => lhs; unfold rd
  rw [if_pos (by decide)]

theorem rd_number (m : Int) (k : Nat) {ds r : List UInt8} (h : ∀ d ∈ ds, isDig d = true) (h0 : ds ≠ []) (S L : List Int) :
    rd m (k + 2) (ds ++ 32 :: r) 0 S L = rd m k r 0 (S ++ [numOf m ds]) L ∧ rd m (k + 2) (ds ++ 32 :: r) 1 S L = rd m k r 1 S (L ++ [numOf m ds]) := by
  cases ds with
  | nil => exact absurd rfl h0
  | cons d ds =>
    obtain ⟨e1, e2⟩ := run_of (r := r) h
    have hd := isDig_iff.1 (h d (by simp))
    have hd' := h d (by simp)
    rw [List.cons_append] at e1 e2 ⊢
    constructor
    · conv => lhs; unfold rd
      rw [if_neg (by omega), if_neg (by omega), if_pos ⟨hd', rfl⟩, e1, e2]
      exact rd_blank _ _ _ _ _ _
    · conv => lhs; unfold rd
      rw [if_neg (by omega), if_neg (by omega), if_neg (by omega), if_pos ⟨hd', rfl⟩, e1, e2]
      exact rd_blank _ _ _ _ _ _

theorem rd_letters (m : Int) (hm : 64 ≤ m) (s : List Int) : (∀ x ∈ s, 0 ≤ x ∧ x < 64) → ∀ (r : List UInt8) (k : Nat) (S L : List Int), (lettersText s ++ r).length < k →
    (∃ k', r.length < k' ∧ rd m k (lettersText s ++ r) 0 S L = rd m k' r 0 (S ++ s) L) ∧ (∃ k', r.length < k' ∧ rd m k (lettersText s ++ r) 1 S L = rd m k' r 1 S (L ++ s)) := by
  induction s with
  | nil => intro _ r k S L hk; exact ⟨⟨k, hk, by simp [lettersText]⟩, ⟨k, hk, by simp [lettersText]⟩⟩
  | cons x s ih =>
    intro hs r k S L hk
    have hx := hs x (by simp)
    obtain ⟨u, rfl⟩ := Int.eq_ofNat_of_zero_le hx.1
    have hu : u < 64 := by omega
    obtain ⟨d1, d2, d3⟩ := dec_digits hu
    have e : lettersText ((u : Int) :: s) ++ r = Lib.decDigits u ++ 32 :: (lettersText s ++ r) := by
      simp [lettersText, letterText]
    rw [e] at hk ⊢
    have hpos : 0 < (Lib.decDigits u).length := List.length_pos_iff.2 d2
    simp only [List.length_append, List.length_cons] at hk
    obtain ⟨k', rfl⟩ : ∃ k', k = k' + 2 := ⟨k - 2, by omega⟩
    obtain ⟨f1, f2⟩ := rd_number m k' (r := lettersText s ++ r) d1 d2 S L
    rw [f1, f2, d3 m hm]
    obtain ⟨⟨k1, h1, g1⟩, _⟩ := ih (fun y hy => hs y (by simp [hy])) r k' (S ++ [(u : Int)]) L (by simp only [List.length_append]; omega)
    obtain ⟨_, ⟨k2, h2, g2⟩⟩ := ih (fun y hy => hs y (by simp [hy])) r k' S (L ++ [(u : Int)]) (by simp only [List.length_append]; omega)
    exact ⟨⟨k1, h1, by rw [g1]; simp⟩, ⟨k2, h2, by rw [g2]; simp⟩⟩

theorem letters_small {l : List Int} (h : lettersB 64 l = true) : ∀ x ∈ l, 0 ≤ x ∧ x < 64 := by
  intro x hx
  simp only [lettersB, List.all_eq_true, Bool.and_eq_true, decide_eq_true_eq] at h
  exact h x hx

theorem parsed_round (m : Int) (hm : 64 ≤ m) {s l : List Int} (h : validB 6 s l = true) : parsed m (wordText s l) = some (s, l) := by
  obtain ⟨v1, v2⟩ := validB_letters h
  unfold parsed
  have e : wordText s l = lettersText s ++ (40 :: 32 :: (lettersText l ++ [41])) := by simp [wordText]
  rw [e]
  obtain ⟨⟨k1, h1, g1⟩, _⟩ := rd_letters m hm s (letters_small v1) (40 :: 32 :: (lettersText l ++ [41])) ((lettersText s ++ (40 :: 32 :: (lettersText l ++ [41]))).length + 1) [] [] (by omega)
  rw [g1, List.nil_append]
  simp only [List.length_cons, List.length_append, List.length_nil] at h1
  obtain ⟨k2, rfl⟩ : ∃ k2, k1 = k2 + 2 := ⟨k1 - 2, by omega⟩
  have f1 : rd m (k2 + 2) (40 :: 32 :: (lettersText l ++ [41])) 0 s [] = rd m (k2 + 1) (32 :: (lettersText l ++ [41])) 1 s [] := by
    conv => lhs; unfold rd
    rw [if_neg (by decide), if_pos (by decide)]
  rw [f1, rd_blank]
  obtain ⟨_, ⟨k3, h3, g3⟩⟩ := rd_letters m hm l (letters_small v2) [41] k2 s [] (by simp only [List.length_append, List.length_cons, List.length_nil]; omega)
  rw [g3, List.nil_append]
  simp only [List.length_cons, List.length_nil] at h3
  obtain ⟨k4, rfl⟩ : ∃ k4, k3 = k4 + 2 := ⟨k3 - 2, by omega⟩
  have f2 : rd m (k4 + 2) [41] 1 s l = some (s, l, 2) := by
    conv => lhs; unfold rd
    rw [if_neg (by decide), if_pos (by decide)]
    rfl
  rw [f2]
  simp [h]

end Go.Proofs.YteidikkeoaolgaaDoor.Wd
