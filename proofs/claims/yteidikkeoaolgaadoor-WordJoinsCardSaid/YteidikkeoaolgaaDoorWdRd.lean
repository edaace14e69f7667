/-
  The reading of a word's text, as a list of bytes: what the two parsers do with it, and that they agree. No program in it.
-/
import Derived.Test.YteidikkeoaolgaaDoorWdLeaf
import Derived.Lib.ItoaNum
namespace Go.Proofs.YteidikkeoaolgaaDoor.Wd
open Go.RowKit

/-- Is the byte a digit? -/
def isDig (c : UInt8) : Bool := decide (48 ≤ (c.toNat : Int)) && decide ((c.toNat : Int) ≤ 57)
theorem isDig_iff {c : UInt8} : isDig c = true ↔ 48 ≤ (c.toNat : Int) ∧ (c.toNat : Int) ≤ 57 := by simp [isDig]

/-- The number that digits write, but m at most. -/
def numFrom (m v : Int) (ds : List UInt8) : Int := ds.foldl (fun v d => min (10 * v + ((d.toNat : Int) - 48)) m) v
def numOf (m : Int) (ds : List UInt8) : Int := numFrom m 0 ds

/-- Reading on: place 0 before the loop, 1 in it, 2 behind it; S and L have come. -/
def rd (m : Int) : Nat → List UInt8 → Nat → List Int → List Int → Option (List Int × List Int × Nat)
  | 0, _, _, _, _ => none
  | _ + 1, [], p, S, L => some (S, L, p)
  | k + 1, c :: cs, p, S, L =>
    if c.toNat = 32 then rd m k cs p S L
    else if c.toNat = 40 ∧ p = 0 ∨ c.toNat = 41 ∧ p = 1 then rd m k cs (p + 1) S L
    else if isDig c = true ∧ p = 0 then rd m k ((c :: cs).dropWhile isDig) p (S ++ [numOf m ((c :: cs).takeWhile isDig)]) L
    else if isDig c = true ∧ p = 1 then rd m k ((c :: cs).dropWhile isDig) p S (L ++ [numOf m ((c :: cs).takeWhile isDig)])
    else none

def cap (x : Int) : Int := min x 64

theorem numFrom_cap (ds : List UInt8) : ∀ v : Int, 0 ≤ v → (∀ d ∈ ds, isDig d = true) → numFrom 64 (cap v) ds = cap (numFrom 1000 v ds) ∧ 0 ≤ numFrom 1000 v ds := by
  induction ds with
  | nil => intro v hv _; exact ⟨rfl, hv⟩
  | cons d ds ih =>
    intro v hv hd
    have hd1 := isDig_iff.1 (hd d (by simp))
    have h := ih (min (10 * v + ((d.toNat : Int) - 48)) 1000) (by omega) (fun x hx => hd x (by simp [hx]))
    have e : min (10 * cap v + ((d.toNat : Int) - 48)) 64 = cap (min (10 * v + ((d.toNat : Int) - 48)) 1000) := by unfold cap; omega
    refine ⟨?_, h.2⟩
    show numFrom 64 (min (10 * cap v + ((d.toNat : Int) - 48)) 64) ds = _
    rw [e]
    exact h.1

theorem mem_run {l : List UInt8} : ∀ d ∈ l.takeWhile isDig, isDig d = true := by
  induction l with
  | nil => simp
  | cons a l ih =>
    intro d hd
    by_cases h : isDig a = true
    · rw [List.takeWhile_cons_of_pos h] at hd
      rcases List.mem_cons.1 hd with rfl | hd
      · exact h
      · exact ih d hd
    · rw [List.takeWhile_cons_of_neg h] at hd
      cases hd

theorem numOf_cap (l : List UInt8) : numOf 64 (l.takeWhile isDig) = cap (numOf 1000 (l.takeWhile isDig)) := (numFrom_cap _ 0 (by omega) mem_run).1
theorem numOf_nonneg (l : List UInt8) : 0 ≤ numOf 1000 (l.takeWhile isDig) := (numFrom_cap _ 0 (by omega) mem_run).2

theorem rd_cap (k : Nat) : ∀ (cs : List UInt8) (p : Nat) (S L : List Int), rd 64 k cs p (S.map cap) (L.map cap) = (rd 1000 k cs p S L).map fun r => (r.1.map cap, r.2.1.map cap, r.2.2) := by
  induction k with
  | zero => intro cs p S L; rfl
  | succ k ih =>
    intro cs p S L
    cases cs with
    | nil => rfl
    | cons c cs =>
      unfold rd
      by_cases h1 : c.toNat = 32
      · rw [if_pos h1, if_pos h1]; exact ih cs p S L
      rw [if_neg h1, if_neg h1]
      by_cases h2 : c.toNat = 40 ∧ p = 0 ∨ c.toNat = 41 ∧ p = 1
      · rw [if_pos h2, if_pos h2]; exact ih cs (p + 1) S L
      rw [if_neg h2, if_neg h2]
      by_cases h3 : isDig c = true ∧ p = 0
      · rw [if_pos h3, if_pos h3, numOf_cap]
        have := ih ((c :: cs).dropWhile isDig) p (S ++ [numOf 1000 ((c :: cs).takeWhile isDig)]) L
        rwa [List.map_append] at this
      rw [if_neg h3, if_neg h3]
      by_cases h4 : isDig c = true ∧ p = 1
      · rw [if_pos h4, if_pos h4, numOf_cap]
        have := ih ((c :: cs).dropWhile isDig) p S (L ++ [numOf 1000 ((c :: cs).takeWhile isDig)])
        rwa [List.map_append] at this
      rw [if_neg h4, if_neg h4]
      rfl

theorem rd_nonneg (k : Nat) : ∀ (cs : List UInt8) (p : Nat) (S L : List Int), (∀ x ∈ S, 0 ≤ x) → (∀ x ∈ L, 0 ≤ x) → ∀ r, rd 1000 k cs p S L = some r → (∀ x ∈ r.1, 0 ≤ x) ∧ (∀ x ∈ r.2.1, 0 ≤ x) := by
  induction k with
  | zero => intro cs p S L _ _ r h; cases h
  | succ k ih =>
    intro cs p S L hS hL r h
    cases cs with
    | nil => injection h with h; subst h; exact ⟨hS, hL⟩
    | cons c cs =>
      unfold rd at h
      have hn := numOf_nonneg (c :: cs)
      by_cases h1 : c.toNat = 32
      · rw [if_pos h1] at h; exact ih _ _ _ _ hS hL r h
      rw [if_neg h1] at h
      by_cases h2 : c.toNat = 40 ∧ p = 0 ∨ c.toNat = 41 ∧ p = 1
      · rw [if_pos h2] at h; exact ih _ _ _ _ hS hL r h
      rw [if_neg h2] at h
      by_cases h3 : isDig c = true ∧ p = 0
      · rw [if_pos h3] at h
        refine ih _ _ _ _ (fun x hx => ?_) hL r h
        rcases List.mem_append.1 hx with hx | hx
        · exact hS x hx
        · rw [List.mem_singleton.1 hx]; exact hn
      rw [if_neg h3] at h
      by_cases h4 : isDig c = true ∧ p = 1
      · rw [if_pos h4] at h
        refine ih _ _ _ _ hS (fun x hx => ?_) r h
        rcases List.mem_append.1 hx with hx | hx
        · exact hL x hx
        · rw [List.mem_singleton.1 hx]; exact hn
      rw [if_neg h4] at h
      cases h

theorem drop_run_length (l : List UInt8) : (l.dropWhile isDig).length ≤ l.length := (List.dropWhile_sublist _).length_le

theorem lettersB_cap {l : List Int} (h : ∀ x ∈ l, 0 ≤ x) : lettersB 64 (l.map cap) = lettersB 64 l := by
  induction l with
  | nil => rfl
  | cons x l ih =>
    have hx := h x (by simp)
    have := ih (fun y hy => h y (by simp [hy]))
    simp only [lettersB, List.map_cons, List.all_cons] at this ⊢
    rw [this]
    congr 1
    have e1 : decide (0 ≤ cap x) = decide (0 ≤ x) := by unfold cap; congr 1; apply propext; omega
    have e2 : decide (cap x < 64) = decide (x < 64) := by unfold cap; congr 1; apply propext; omega
    rw [e1, e2]
theorem cap_same {l : List Int} (h : lettersB 64 l = true) : l.map cap = l := by
  induction l with
  | nil => rfl
  | cons x l ih =>
    simp only [lettersB, List.all_cons, Bool.and_eq_true, decide_eq_true_eq] at h ih ⊢
    rw [List.map_cons, ih h.2]
    congr 1
    unfold cap
    omega

/-- What a parser that takes numbers up to m makes of a text: the word, or nothing. -/
def parsed (m : Int) (t : List UInt8) : Option (List Int × List Int) :=
  match rd m (t.length + 1) t 0 [] [] with
  | none => none
  | some (S, L, p) => if p = 2 ∧ validB 6 S L = true then some (S, L) else none

theorem two6 : (2 : Int) ^ (6 : Int).toNat = 64 := by decide
theorem validB_cap {S L : List Int} (hS : ∀ x ∈ S, 0 ≤ x) (hL : ∀ x ∈ L, 0 ≤ x) : validB 6 (S.map cap) (L.map cap) = validB 6 S L := by
  unfold validB
  rw [two6, lettersB_cap hS, lettersB_cap hL, List.length_map, List.length_map]
theorem validB_letters {S L : List Int} (h : validB 6 S L = true) : lettersB 64 S = true ∧ lettersB 64 L = true := by
  unfold validB at h
  rw [two6] at h
  simp only [Bool.and_eq_true] at h
  exact ⟨h.1.2, h.2⟩

/-- The two parsers agree. -/
theorem parsed_same (t : List UInt8) : parsed 64 t = parsed 1000 t := by
  unfold parsed
  have h := rd_cap (t.length + 1) t 0 [] []
  simp only [List.map_nil] at h
  rw [h]
  cases hr : rd 1000 (t.length + 1) t 0 [] [] with
  | none => rfl
  | some r =>
    obtain ⟨S, L, p⟩ := r
    obtain ⟨hS, hL⟩ := rd_nonneg _ _ _ _ _ (by simp) (by simp) _ hr
    simp only [Option.map_some]
    rw [validB_cap hS hL]
    by_cases hv : p = 2 ∧ validB 6 S L = true
    · rw [if_pos hv, if_pos hv, cap_same (validB_letters hv.2).1, cap_same (validB_letters hv.2).2]
    · rw [if_neg hv, if_neg hv]

end Go.Proofs.YteidikkeoaolgaaDoor.Wd
