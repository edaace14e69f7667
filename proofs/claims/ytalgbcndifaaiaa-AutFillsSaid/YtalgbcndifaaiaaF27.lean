/-
  The automata of wide: their letters, and what Fill adds. No program is looked at here.
  The automata of wide are valid; so is what Fill makes of them, and it lacks no letter.
  Graphs with marks on their arcs: what can be reached, closed paths and their marks, endless paths and the marks that they meet again and again. No program is looked at here.
  Closed paths that can be reached, and endless paths: the same marks again and again. No program is looked at here.
  Reached of the reference: the reachable states; bools of the law.
  The search of reach: what holds on the way. No program is looked at here.
-/
import Derived.Test.YtalgbcndifaaiaaF26
import Derived.Test.YtalgbcndifaaiaaF22
import Derived.Test.YtalgbcndifaaiaaWdMath
import Derived.BigQuiet
import Derived.Deep.QuietTactic
namespace Go.Proofs.Ytalgbcndifaaiaa.Wd
open Go Go.RowKit
set_option linter.unusedVariables false

theorem rowW_mem {c : Int} {G s k : Nat} {e : Ed} : e ∈ rowW c G s k ↔ ∃ l, l < k ∧ (0 < l ∨ s % G ≠ 0) ∧ e = ⟨s, s, c, l, 0⟩ := by
  induction k with
  | zero => simp [rowW]
  | succ k ih =>
    by_cases h : 0 < k ∨ s % G ≠ 0
    · rw [rowW_yes h, List.mem_append, ih, List.mem_singleton]
      constructor
      · rintro (⟨l, h1, h2, h3⟩ | h1)
        · exact ⟨l, by omega, h2, h3⟩
        · exact ⟨k, by omega, h, h1⟩
      · rintro ⟨l, h1, h2, h3⟩
        by_cases hl : l = k
        · subst hl; exact .inr h3
        · exact .inl ⟨l, by omega, h2, h3⟩
    · rw [rowW_no h, ih]
      constructor
      · rintro ⟨l, h1, h2, h3⟩
        exact ⟨l, by omega, h2, h3⟩
      · rintro ⟨l, h1, h2, h3⟩
        by_cases hl : l = k
        · subst hl; exact absurd h2 h
        · exact ⟨l, by omega, h2, h3⟩
theorem wideL_mem {c : Int} {N G S : Nat} {e : Ed} : e ∈ wideL c N G S ↔ ∃ s l, s < S ∧ l < N ∧ (0 < l ∨ s % G ≠ 0) ∧ e = ⟨s, s, c, l, 0⟩ := by
  induction S with
  | zero => simp [wideL]
  | succ S ih =>
    rw [wideL, List.mem_append, ih, rowW_mem]
    constructor
    · rintro (⟨s, l, h1, h2, h3, h4⟩ | ⟨l, h2, h3, h4⟩)
      · exact ⟨s, l, by omega, h2, h3, h4⟩
      · exact ⟨S, l, by omega, h2, h3, h4⟩
    · rintro ⟨s, l, h1, h2, h3, h4⟩
      by_cases hs : s = S
      · subst hs; exact .inr ⟨l, h2, h3, h4⟩
      · exact .inl ⟨s, l, by omega, h2, h3, h4⟩
/-- They come in the order of their states and letters. -/
def Ahead (e e' : Ed) : Prop := e.f < e'.f ∨ (e.f = e'.f ∧ e.b < e'.b)
theorem rowW_order (c : Int) (G s k : Nat) : (rowW c G s k).Pairwise Ahead := by
  induction k with
  | zero => simp [rowW]
  | succ k ih =>
    by_cases h : 0 < k ∨ s % G ≠ 0
    · rw [rowW_yes h, List.pairwise_append]
      refine ⟨ih, by simp, fun a ha b hb => ?_⟩
      obtain ⟨l, h1, _, rfl⟩ := rowW_mem.1 ha
      rw [List.mem_singleton] at hb
      subst hb
      exact .inr ⟨rfl, by show (l : Int) < (k : Int); omega⟩
    · rw [rowW_no h]; exact ih
theorem wideL_order (c : Int) (N G S : Nat) : (wideL c N G S).Pairwise Ahead := by
  induction S with
  | zero => simp [wideL]
  | succ S ih =>
    rw [wideL, List.pairwise_append]
    refine ⟨ih, rowW_order _ _ _ _, fun a ha b hb => ?_⟩
    obtain ⟨s, l, h1, _, _, rfl⟩ := wideL_mem.1 ha
    obtain ⟨l', _, _, rfl⟩ := rowW_mem.1 hb
    exact .inl (by show (s : Int) < (S : Int); omega)
theorem getD_mem {l : List Ed} {i : Nat} (h : i < l.length) : l.getD i ed0 ∈ l := by
  rw [List.getD_eq_getElem?_getD, List.getElem?_eq_getElem h]
  exact List.getElem_mem h
theorem order_at {l : List Ed} (h : l.Pairwise Ahead) {i j : Nat} (hij : i < j) (hj : j < l.length) : Ahead (l.getD i ed0) (l.getD j ed0) := by
  rw [List.getD_eq_getElem?_getD, List.getD_eq_getElem?_getD, List.getElem?_eq_getElem hj, List.getElem?_eq_getElem (Nat.lt_trans hij hj)]
  exact List.pairwise_iff_getElem.1 h i j (Nat.lt_trans hij hj) hj hij

theorem mask_int {p : Nat} : ((2 : Int) ^ p - 1) = ((2 ^ p - 1 : Nat) : Int) := by
  have := Nat.two_pow_pos p
  rw [Int.natCast_sub (by omega)]
  simp
/-- A letter against an edge of one letter. -/
theorem letB_one {p l k : Nat} {s t m : Int} (hp : p ≤ 6) (hl : l < 2 ^ p) : letB (l : Int) ⟨s, t, (2 : Int) ^ p - 1, k, m⟩ = decide (l = k) := by
  have h64 := (pow_six hp).2
  unfold letB
  rw [decide_eq_decide]
  show bits .and .i64 (l : Int) ((2 : Int) ^ p - 1) = (k : Int) ↔ _
  rw [mask_int, and_i64 _ _ (by omega) (by omega), Nat.and_two_pow_sub_one_eq_mod, Nat.mod_eq_of_lt hl]
  omega
theorem letB_all {p l : Nat} {s t m : Int} (hp : p ≤ 6) (hl : l < 2 ^ p) : letB (l : Int) ⟨s, t, 0, 0, m⟩ = true := by
  have h64 := (pow_six hp).2
  have h1 := and_i64 l 0 (by omega) (by omega)
  rw [Nat.and_zero] at h1
  exact decide_eq_true h1

theorem wide_from {c : Int} {N G S : Nat} : ∀ i, i < (wideL c N G S).length → ∃ f : Nat, ((wideL c N G S).getD i ed0).f = (f : Int) ∧ f < S := by
  intro i hi
  obtain ⟨s, l, h1, _, _, h4⟩ := wideL_mem.1 (getD_mem hi)
  exact ⟨s, by rw [h4], h1⟩
theorem wide_clash {p G S : Nat} (hp : p ≤ 6) : clashB p (wideL ((2 : Int) ^ p - 1) (2 ^ p) G S) (wideL ((2 : Int) ^ p - 1) (2 ^ p) G S).length = false := by
  rw [Bool.eq_false_iff]
  intro h
  obtain ⟨i, j, hij, hj, hf, l, hl, h1, h2⟩ := (clashB_iff p _ _ (fun i hi => (wide_from i hi).imp fun _ h => h.1)).1 h
  have ho := order_at (wideL_order _ _ _ _) hij hj
  obtain ⟨s, k, _, _, _, e1⟩ := wideL_mem.1 (getD_mem (Nat.lt_trans hij hj))
  obtain ⟨s', k', _, _, _, e2⟩ := wideL_mem.1 (getD_mem hj)
  rw [e1, letB_one hp hl] at h1
  rw [e2, letB_one hp hl] at h2
  have h3 := of_decide_eq_true h1
  have h4 := of_decide_eq_true h2
  rw [e1, e2] at ho hf
  rcases ho with h5 | ⟨_, h5⟩
  · exact absurd hf (Int.ne_of_lt h5)
  · have : (k : Int) < (k' : Int) := h5
    omega
theorem wide_sets {p G S : Nat} (hp : p ≤ 6) (s j : Nat) : (setsN p (wideL ((2 : Int) ^ p - 1) (2 ^ p) G S) (wideL ((2 : Int) ^ p - 1) (2 ^ p) G S).length s).testBit j = decide (s < S ∧ j < 2 ^ p ∧ (0 < j ∨ s % G ≠ 0)) := by
  rw [Bool.eq_iff_iff, setsN_bit, decide_eq_true_eq]
  constructor
  · rintro ⟨i, h1, h2, h3⟩
    obtain ⟨s', k, h4, h5, h6, e⟩ := wideL_mem.1 (getD_mem h1)
    rw [fitN_bit, Bool.and_eq_true] at h3
    have hj := of_decide_eq_true h3.1
    rw [e, letB_one hp hj] at h3
    have hk := of_decide_eq_true h3.2
    rw [e] at h2
    have hs : (s' : Int) = (s : Int) := h2
    obtain rfl : s' = s := by omega
    subst hk
    exact ⟨h4, hj, h6⟩
  · rintro ⟨h1, h2, h3⟩
    have hm : (⟨s, s, (2 : Int) ^ p - 1, j, 0⟩ : Ed) ∈ wideL ((2 : Int) ^ p - 1) (2 ^ p) G S := wideL_mem.2 ⟨s, j, h1, h2, h3, rfl⟩
    obtain ⟨i, hi, he⟩ := List.getElem_of_mem hm
    have hg : (wideL ((2 : Int) ^ p - 1) (2 ^ p) G S).getD i ed0 = ⟨s, s, (2 : Int) ^ p - 1, j, 0⟩ := by rw [List.getD_eq_getElem?_getD, List.getElem?_eq_getElem hi, he]; rfl
    refine ⟨i, hi, by rw [hg], ?_⟩
    rw [hg, fitN_bit, letB_one hp h2]
    simp [h2]
theorem fit_all {p : Nat} (hp : p ≤ 6) (j : Nat) : (fitN p ed0).testBit j = decide (j < 2 ^ p) := by
  rw [fitN_bit]
  by_cases h : j < 2 ^ p
  · rw [decide_eq_true h, letB_all (s := 0) (t := 0) (m := 0) hp h |> (fun e => (e : letB (j : Int) ed0 = true))]; rfl
  · rw [decide_eq_false h]; rfl
theorem wide_full {p G S : Nat} (hp : p ≤ 6) (hS : 1 ≤ S) : fullB p (wideL ((2 : Int) ^ p - 1) (2 ^ p) G S) S = false := by
  refine fullB_bad (s := 0) (by omega) fun h => ?_
  have h1 := wide_sets (G := G) (S := S) hp 0 0
  rw [h, fit_all hp, decide_eq_true (Nat.two_pow_pos p)] at h1
  have h2 := of_decide_eq_true h1.symm
  have h3 := h2.2.2
  rw [Nat.zero_mod] at h3
  omega
/-- What a state lacks: the letter 0 or nothing; the sink lacks all. -/
theorem wide_lack {p G S s : Nat} (hp : p ≤ 6) (hs : s < S) : diffN (fitN p ed0) (setX S (setsN p (wideL ((2 : Int) ^ p - 1) (2 ^ p) G S) (wideL ((2 : Int) ^ p - 1) (2 ^ p) G S).length) s) = if s % G = 0 then 1 else 0 := by
  apply Nat.eq_of_testBit_eq
  intro j
  rw [diffN_bit, fit_all hp]
  unfold setX
  rw [if_pos hs, wide_sets hp]
  have h2 := Nat.two_pow_pos p
  by_cases hg : s % G = 0
  · rw [if_pos hg, show (1 : Nat) = 2 ^ 0 from rfl, Nat.testBit_two_pow]
    by_cases hj : j = 0
    · subst hj; simp [h2, hs, hg]
    · rw [decide_eq_false (show ¬ 0 = j by omega)]
      by_cases hjp : j < 2 ^ p
      · simp [hjp, hs, hg]; omega
      · simp [hjp]
  · rw [if_neg hg, Nat.zero_testBit]
    by_cases hjp : j < 2 ^ p
    · simp [hjp, hs, hg]
    · simp [hjp]
theorem sink_lack {p S : Nat} (V : Nat → Nat) : diffN (fitN p ed0) (setX S V S) = fitN p ed0 := by
  unfold setX
  rw [if_neg (Nat.lt_irrefl S)]
  simp [diffN]
def cuT (x : Cu) : Nat × Nat × Nat := (x.c, x.b, x.l)
theorem cover_one (p : Nat) (hp : p ≤ 6) : (coverL 1 (allCubes p)).map cuT = [(2 ^ p - 1, 0, 1)] := by
  have : ∀ p : Fin 7, (coverL 1 (allCubes p.val)).map cuT = [(2 ^ p.val - 1, 0, 1)] := by decide +kernel
  exact this ⟨p, by omega⟩
theorem cover_all (p : Nat) (hp : p ≤ 6) : (coverL (fitN p ed0) (allCubes p)).map cuT = [(0, 0, fitN p ed0)] := by
  have : ∀ p : Fin 7, (coverL (fitN p.val ed0) (allCubes p.val)).map cuT = [(0, 0, fitN p.val ed0)] := by decide +kernel
  exact this ⟨p, by omega⟩
theorem toE_of {s S : Nat} {i : Int} {l : List Cu} {c b x : Nat} (h : l.map cuT = [(c, b, x)]) : l.map (toE s S i) = [⟨s, S, c, b, i⟩] := by
  obtain ⟨y, rfl, hy⟩ : ∃ y, l = [y] ∧ cuT y = (c, b, x) := by
    match l, h with
    | [y], h => exact ⟨y, rfl, by simpa using h⟩
  obtain ⟨yc, yb, yl⟩ := y
  injection hy with h1 h2
  injection h2 with h2 h3
  subst h1 h2
  rfl
/-- The states that lack a letter, among the first k. -/
def gapL (G k : Nat) : List Nat := (List.range k).filter fun s => decide (s % G = 0)
theorem wide_sink {p G S : Nat} (hp : p ≤ 6) (i : Int) (k : Nat) (hk : k ≤ S) : sinkL p S i (setX S (setsN p (wideL ((2 : Int) ^ p - 1) (2 ^ p) G S) (wideL ((2 : Int) ^ p - 1) (2 ^ p) G S).length)) k = (gapL G k).map fun s => ⟨s, S, (2 : Int) ^ p - 1, 0, i⟩ := by
  induction k with
  | zero => rfl
  | succ k ih =>
    rw [sinkL, ih (by omega)]
    unfold lackN gapL
    rw [wide_lack hp (by omega), List.range_succ, List.filter_append, List.map_append]
    congr 1
    by_cases hg : k % G = 0
    · rw [if_pos hg, toE_of (cover_one p hp), mask_int]
      simp [hg]
    · rw [if_neg hg, coverL_none]
      simp [hg]
theorem wide_sink_all {p G S : Nat} (hp : p ≤ 6) (i : Int) : sinkL p S i (setX S (setsN p (wideL ((2 : Int) ^ p - 1) (2 ^ p) G S) (wideL ((2 : Int) ^ p - 1) (2 ^ p) G S).length)) (S + 1) = ((gapL G S).map fun s => ⟨s, S, (2 : Int) ^ p - 1, 0, i⟩) ++ [⟨S, S, 0, 0, i⟩] := by
  rw [sinkL, wide_sink hp i S (Nat.le_refl S)]
  unfold lackN
  rw [sink_lack, toE_of (cover_all p hp)]
  rfl
/-- How many they are. -/
theorem gapL_len {G : Nat} (hG : 1 ≤ G) (k : Nat) : (gapL G k).length = (k + G - 1) / G := by
  induction k with
  | zero =>
    have : (0 + G - 1) / G = 0 := Nat.div_eq_of_lt (by omega)
    rw [this]; rfl
  | succ k ih =>
    have h : gapL G (k + 1) = gapL G k ++ (if k % G = 0 then [k] else []) := by
      unfold gapL
      rw [List.range_succ, List.filter_append]
      by_cases hg : k % G = 0 <;> simp [hg]
    rw [h, List.length_append, ih]
    have e1 := Nat.div_add_mod k G
    have hlt := Nat.mod_lt k (show 0 < G by omega)
    have a1 : (k + 1 + G - 1) / G = k / G + 1 := by
      rw [show k + 1 + G - 1 = k + G by omega, Nat.add_div_right _ (by omega)]
    rw [a1]
    obtain ⟨a, ha⟩ : ∃ a, k / G = a := ⟨_, rfl⟩
    obtain ⟨r, hr⟩ : ∃ r, k % G = r := ⟨_, rfl⟩
    rw [ha, hr] at e1
    rw [hr] at hlt
    rw [ha, hr]
    have m1 : (a + 1) * G = G * a + G := by rw [Nat.succ_mul, Nat.mul_comm]
    have m2 : (a + 1 + 1) * G = G * a + G + G := by rw [Nat.succ_mul, m1]
    by_cases hg : r = 0
    · rw [if_pos hg]
      have a2 : (k + G - 1) / G = a := Nat.div_eq_of_lt_le (by rw [Nat.mul_comm]; omega) (by rw [m1]; omega)
      rw [a2]; rfl
    · rw [if_neg hg]
      have a2 : (k + G - 1) / G = a + 1 := Nat.div_eq_of_lt_le (by rw [m1]; omega) (by rw [m2]; omega)
      rw [a2]; rfl

end Go.Proofs.Ytalgbcndifaaiaa.Wd

namespace Go.Proofs.Ytalgbcndifaaiaa.Wd
open Go Go.RowKit
set_option linter.unusedVariables false

theorem mask_andNot {p k : Nat} (hp : p ≤ 6) (hk : k < 2 ^ p) : bits .andNot .i64 (k : Int) ((2 : Int) ^ p - 1) = 0 := by
  have : ∀ p : Fin 7, ∀ k : Fin 64, k.val < 2 ^ p.val → bits .andNot .i64 (k.val : Int) (((2 ^ p.val - 1 : Nat)) : Int) = 0 := by decide +kernel
  have h64 := (pow_six hp).2
  rw [mask_int]
  exact this ⟨p, by omega⟩ ⟨k, by omega⟩ hk
theorem or_oth (K M : Int) : bits .or .i64 0 (othF K M) = othF K M := by
  unfold othF
  split <;> decide +kernel

theorem edB_of {P S M : Nat} {f t c b : Nat} {m : Int} (hf : f < S) (ht : t < S) (hc : (c : Int) < 2 ^ P) (hb : bits .andNot .i64 (b : Int) (c : Int) = 0) (hm : 0 ≤ m ∧ m < 2 ^ M) : edB P S M ⟨f, t, c, b, m⟩ = true := by
  unfold edB
  exact decide_eq_true ⟨⟨by show (0 : Int) ≤ (f : Int); omega, by show (f : Int) < (S : Int); omega⟩, ⟨by show (0 : Int) ≤ (t : Int); omega, by show (t : Int) < (S : Int); omega⟩, ⟨by show (0 : Int) ≤ (c : Int); omega, hc⟩, hb, hm⟩
theorem start_one {S : Nat} (hS : 1 ≤ S) : startB (S : Int) [0] = true := by
  unfold startB startP
  have e : (List.range [(0 : Int)].length) = [0] := rfl
  rw [e]
  simp [prv]
  omega
theorem mask_lt {p : Nat} : (((2 ^ p - 1 : Nat)) : Int) < 2 ^ p := by
  have := Nat.two_pow_pos p
  have h : ((2 : Int) ^ p) = ((2 ^ p : Nat) : Int) := by simp
  rw [h]
  omega

theorem aut_of {p S : Nat} {K M : Int} {st : List Int} {es : List Ed} (hp : p ≤ 6) (hS : S ≤ 3000) (h0 : 0 ≤ K) (h5 : K ≤ 5) (hM : marksB K M = true) (hst : startB (S : Int) st = true) (hl : es.length ≤ 40000) (he : ∀ e ∈ es, edB p S M.toNat e = true) : autB p S K M st es = true := by
  rw [autB_edges (by unfold headP; omega) hM hst, decide_eq_true hl]
  show edgesB (p : Int).toNat S M.toNat es = true
  rw [show (p : Int).toNat = p by omega]
  exact List.all_eq_true.2 he

theorem wide_valid {p S G : Nat} {K M : Int} (hp : p ≤ 6) (hS0 : 1 ≤ S) (hS : S ≤ 3000) (h0 : 0 ≤ K) (h5 : K ≤ 5) (hM : marksB K M = true) (hl : (wideL ((2 : Int) ^ p - 1) (2 ^ p) G S).length ≤ 40000) : autB p S K M [0] (wideL ((2 : Int) ^ p - 1) (2 ^ p) G S) = true := by
  refine aut_of hp hS h0 h5 hM (start_one hS0) hl fun e he => ?_
  obtain ⟨s, l, h1, h2, _, rfl⟩ := wideL_mem.1 he
  have hk := mask_andNot hp h2
  rw [mask_int] at hk ⊢
  have h2p : (0 : Int) < 2 ^ M.toNat := by
    have : ((2 : Int) ^ M.toNat) = ((2 ^ M.toNat : Nat) : Int) := by simp
    rw [this]
    have := Nat.two_pow_pos M.toNat
    omega
  exact edB_of h1 h1 mask_lt hk ⟨by decide, h2p⟩

/-- What Fill makes of it. -/
def fullL (p S G : Nat) (K M : Int) : List Ed := (wideL ((2 : Int) ^ p - 1) (2 ^ p) G S).map (orE (othF K M)) ++ (((gapL G S).map fun (s : Nat) => (⟨s, S, (2 : Int) ^ p - 1, 0, infF K M⟩ : Ed)) ++ [⟨S, S, 0, 0, infF K M⟩])
theorem fill_wide {p S G : Nat} {K M : Int} (hp : p ≤ 6) : fillL p S K M (wideL ((2 : Int) ^ p - 1) (2 ^ p) G S) = fullL p S G K M := by
  unfold fillL fullL
  rw [wide_sink_all hp]
theorem full_len {p S G : Nat} {K M : Int} (hG : 1 ≤ G) : (fullL p S G K M).length = (wideL ((2 : Int) ^ p - 1) (2 ^ p) G S).length + (S + G - 1) / G + 1 := by
  unfold fullL
  rw [List.length_append, List.length_append, List.length_map, List.length_map, gapL_len hG, List.length_singleton]
  omega
theorem gap_mem {G k s : Nat} : s ∈ gapL G k ↔ s < k ∧ s % G = 0 := by
  unfold gapL
  rw [List.mem_filter, List.mem_range, decide_eq_true_eq]
theorem full_mem {p S G : Nat} {K M : Int} {e : Ed} : e ∈ fullL p S G K M ↔ (∃ s l : Nat, s < S ∧ l < 2 ^ p ∧ (0 < l ∨ s % G ≠ 0) ∧ e = ⟨s, s, (2 : Int) ^ p - 1, l, othF K M⟩) ∨ (∃ s : Nat, s < S ∧ s % G = 0 ∧ e = ⟨s, S, (2 : Int) ^ p - 1, 0, infF K M⟩) ∨ e = ⟨S, S, 0, 0, infF K M⟩ := by
  unfold fullL
  rw [List.mem_append, List.mem_append, List.mem_map, List.mem_map, List.mem_singleton]
  constructor
  · rintro (⟨e', h1, rfl⟩ | ⟨s, h1, rfl⟩ | h1)
    · obtain ⟨s, l, h2, h3, h4, rfl⟩ := wideL_mem.1 h1
      refine .inl ⟨s, l, h2, h3, h4, ?_⟩
      unfold orE
      rw [or_oth]
    · obtain ⟨h2, h3⟩ := gap_mem.1 h1
      exact .inr (.inl ⟨s, h2, h3, rfl⟩)
    · exact .inr (.inr h1)
  · rintro (⟨s, l, h2, h3, h4, rfl⟩ | ⟨s, h2, h3, rfl⟩ | h1)
    · refine .inl ⟨⟨s, s, (2 : Int) ^ p - 1, l, 0⟩, wideL_mem.2 ⟨s, l, h2, h3, h4, rfl⟩, ?_⟩
      unfold orE
      rw [or_oth]
    · exact .inr (.inl ⟨s, gap_mem.2 ⟨h2, h3⟩, rfl⟩)
    · exact .inr (.inr h1)

/-- The marks that it uses are marks of it. -/
theorem marks_fit {K M : Int} (h0 : 0 ≤ K) (h5 : K ≤ 5) (hM : marksB K M = true) : marksB K (M + addF K M) = true ∧ (0 ≤ othF K M ∧ othF K M < 2 ^ (M + addF K M).toNat) ∧ (0 ≤ infF K M ∧ infF K M < 2 ^ (M + addF K M).toNat) := by
  have hr := marksB_few hM
  have hk : K = 0 ∨ K = 1 ∨ K = 2 ∨ K = 3 ∨ K = 4 ∨ K = 5 := by omega
  have key : ∀ K : Fin 6, ∀ m : Fin 41, marksB (K.val : Int) (m.val : Int) = true → marksB (K.val : Int) ((m.val : Int) + addF K.val m.val) = true ∧ (0 ≤ othF K.val m.val ∧ othF K.val m.val < 2 ^ ((m.val : Int) + addF K.val m.val).toNat) ∧ (0 ≤ infF K.val m.val ∧ infF K.val m.val < 2 ^ ((m.val : Int) + addF K.val m.val).toNat) := by decide +kernel
  obtain ⟨m, rfl⟩ := Int.eq_ofNat_of_zero_le hr.1
  obtain ⟨k, rfl⟩ := Int.eq_ofNat_of_zero_le h0
  exact key ⟨k, by omega⟩ ⟨m, by omega⟩ hM

theorem full_valid {p S G : Nat} {K M : Int} (hp : p ≤ 6) (hS0 : 1 ≤ S) (hS : S < 3000) (h0 : 0 ≤ K) (h5 : K ≤ 5) (hM : marksB K M = true) (hl : (fullL p S G K M).length ≤ 40000) : autB p ((S : Int) + 1) K (M + addF K M) [0] (fullL p S G K M) = true := by
  obtain ⟨m1, m2, m3⟩ := marks_fit h0 h5 hM
  have hst := start_one (S := S + 1) (by omega)
  have e1 : ((S + 1 : Nat) : Int) = (S : Int) + 1 := by omega
  rw [← e1]
  refine aut_of hp (by omega) h0 h5 m1 hst hl fun e he => ?_
  rcases full_mem.1 he with ⟨s, l, h2, h3, _, rfl⟩ | ⟨s, h2, _, rfl⟩ | rfl
  · have hk := mask_andNot hp h3
    rw [mask_int] at hk ⊢
    exact edB_of (by omega) (by omega) mask_lt hk m2
  · have hk := mask_andNot (k := 0) hp (Nat.two_pow_pos p)
    rw [mask_int] at hk ⊢
    exact edB_of (t := S) (b := 0) (by omega) (by omega) mask_lt hk m3
  · have h2p : ((0 : Nat) : Int) < 2 ^ p := by
      have : ((2 : Int) ^ p) = ((2 ^ p : Nat) : Int) := by simp
      rw [this]
      have := Nat.two_pow_pos p
      omega
    exact edB_of (f := S) (t := S) (c := 0) (b := 0) (by omega) (by omega) h2p (by decide +kernel) m3

theorem full_whole {p S G : Nat} {K M : Int} (hp : p ≤ 6) : fullB p (fullL p S G K M) (S + 1) = true := by
  refine (fullB_iff hp _).2 fun s hs l hl => ?_
  have key : ∀ e : Ed, e ∈ fullL p S G K M → e.f = (s : Int) → letB (l : Int) e = true → ∃ i, i < (fullL p S G K M).length ∧ ((fullL p S G K M).getD i ed0).f = (s : Int) ∧ letB (l : Int) ((fullL p S G K M).getD i ed0) = true := by
    intro e he hf hb
    obtain ⟨i, hi, h⟩ := List.getElem_of_mem he
    have hg : (fullL p S G K M).getD i ed0 = e := by rw [List.getD_eq_getElem?_getD, List.getElem?_eq_getElem hi, h]; rfl
    exact ⟨i, hi, by rw [hg]; exact hf, by rw [hg]; exact hb⟩
  by_cases h : s = S
  · subst h
    exact key ⟨s, s, 0, 0, infF K M⟩ (full_mem.2 (.inr (.inr rfl))) rfl (letB_all hp hl)
  · by_cases h2 : 0 < l ∨ s % G ≠ 0
    · exact key ⟨s, s, (2 : Int) ^ p - 1, l, othF K M⟩ (full_mem.2 (.inl ⟨s, l, by omega, hl, h2, rfl⟩)) rfl (by rw [letB_one hp hl]; simp)
    · obtain rfl : l = 0 := by omega
      have hz := letB_one (k := 0) (s := s) (t := S) (m := infF K M) hp hl
      exact key ⟨s, S, (2 : Int) ^ p - 1, 0, infF K M⟩ (full_mem.2 (.inr (.inl ⟨s, by omega, by omega, rfl⟩))) rfl (hz.trans (by simp))

end Go.Proofs.Ytalgbcndifaaiaa.Wd

namespace Go.Proofs.Ytalgbcndifaaiaa.Wd
set_option linter.unusedVariables false

structure Ac where
  f : Nat
  t : Nat
  m : Nat
  o : Nat
  deriving DecidableEq
def ac0 : Ac := ⟨0, 0, 0, 0⟩

/-- A path in l from i to j, by its arcs. -/
def Path (l : List Ac) : Nat → List Ac → Nat → Prop
  | i, [], j => i = j
  | i, a :: p, j => a ∈ l ∧ a.f = i ∧ Path l a.t p j
/-- All marks of a path; the other ones. -/
def mk (p : List Ac) : Nat := p.foldr (fun a x => a.m ||| x) 0
def mo (p : List Ac) : Nat := p.foldr (fun a x => a.o ||| x) 0

theorem mk_bit {p : List Ac} {b : Nat} : (mk p).testBit b = true ↔ ∃ a ∈ p, a.m.testBit b = true := by
  induction p with
  | nil => simp [mk]
  | cons a p ih =>
    show (a.m ||| mk p).testBit b = true ↔ _
    rw [Nat.testBit_or, Bool.or_eq_true, ih]
    simp
theorem mo_bit {p : List Ac} {b : Nat} : (mo p).testBit b = true ↔ ∃ a ∈ p, a.o.testBit b = true := by
  induction p with
  | nil => simp [mo]
  | cons a p ih =>
    show (a.o ||| mo p).testBit b = true ↔ _
    rw [Nat.testBit_or, Bool.or_eq_true, ih]
    simp
theorem mk_app (p q : List Ac) : mk (p ++ q) = mk p ||| mk q := by
  apply Nat.eq_of_testBit_eq
  intro b
  rw [Nat.testBit_or, Bool.eq_iff_iff, Bool.or_eq_true, mk_bit, mk_bit, mk_bit]
  simp [or_and_right, exists_or]
theorem mo_app (p q : List Ac) : mo (p ++ q) = mo p ||| mo q := by
  apply Nat.eq_of_testBit_eq
  intro b
  rw [Nat.testBit_or, Bool.eq_iff_iff, Bool.or_eq_true, mo_bit, mo_bit, mo_bit]
  simp [or_and_right, exists_or]

theorem Path.append {l : List Ac} {p q : List Ac} {i j k : Nat} (h : Path l i p j) (h' : Path l j q k) : Path l i (p ++ q) k := by
  induction p generalizing i with
  | nil => cases h; exact h'
  | cons a p ih => exact ⟨h.1, h.2.1, ih h.2.2⟩
theorem Path.split {l : List Ac} {p q : List Ac} {i k : Nat} (h : Path l i (p ++ q) k) : ∃ j, Path l i p j ∧ Path l j q k := by
  induction p generalizing i with
  | nil => exact ⟨i, rfl, h⟩
  | cons a p ih =>
    obtain ⟨h1, h2, h3⟩ := h
    obtain ⟨j, h4, h5⟩ := ih h3
    exact ⟨j, ⟨h1, h2, h4⟩, h5⟩
theorem Path.mem {l : List Ac} {p : List Ac} {i k : Nat} (h : Path l i p k) : ∀ a ∈ p, a ∈ l := by
  induction p generalizing i with
  | nil => intro a ha; cases ha
  | cons b p ih =>
    intro a ha
    rcases List.mem_cons.1 ha with rfl | ha
    · exact h.1
    · exact ih h.2.2 a ha
theorem Path.mono {l l' : List Ac} {p : List Ac} {i k : Nat} (h : Path l i p k) (hs : ∀ a ∈ p, a ∈ l') : Path l' i p k := by
  induction p generalizing i with
  | nil => exact h
  | cons b p ih => exact ⟨hs b (by simp), h.2.1, ih h.2.2 (fun a ha => hs a (by simp [ha]))⟩
theorem Path.one {l : List Ac} {a : Ac} (h : a ∈ l) : Path l a.f [a] a.t := ⟨h, rfl, rfl⟩

/-- j can be reached from i. -/
def Rc (l : List Ac) (i j : Nat) : Prop := ∃ p, Path l i p j
theorem Rc.refl (l : List Ac) (i : Nat) : Rc l i i := ⟨[], rfl⟩
theorem Rc.trans {l : List Ac} {i j k : Nat} (h : Rc l i j) (h' : Rc l j k) : Rc l i k := by
  obtain ⟨p, hp⟩ := h
  obtain ⟨q, hq⟩ := h'
  exact ⟨p ++ q, hp.append hq⟩
theorem Rc.arc {l : List Ac} {a : Ac} (h : a ∈ l) : Rc l a.f a.t := ⟨[a], Path.one h⟩
theorem Rc.step {l : List Ac} {a : Ac} {i : Nat} (h : Rc l i a.f) (ha : a ∈ l) : Rc l i a.t := h.trans (Rc.arc ha)
theorem Rc.mono {l l' : List Ac} {i j : Nat} (h : Rc l i j) (hs : ∀ a ∈ l, a ∈ l') : Rc l' i j := by
  obtain ⟨p, hp⟩ := h
  exact ⟨p, hp.mono fun a ha => hs a (hp.mem a ha)⟩
/-- A set that holds i and is closed under arcs holds all that can be reached. -/
theorem Rc.closed {l : List Ac} {i j : Nat} {F : Nat → Prop} (h : Rc l i j) (hi : F i) (hc : ∀ a ∈ l, F a.f → F a.t) : F j := by
  obtain ⟨p, hp⟩ := h
  induction p generalizing i with
  | nil => cases hp; exact hi
  | cons a p ih =>
    obtain ⟨h1, rfl, h3⟩ := hp
    exact ih (hc a h1 hi) h3

/-- The arcs the other way round. -/
def turnA (a : Ac) : Ac := ⟨a.t, a.f, a.m, a.o⟩
def turnAL (l : List Ac) : List Ac := l.map turnA
theorem turnA_turnA (a : Ac) : turnA (turnA a) = a := rfl
theorem path_turn {l : List Ac} {p : List Ac} {i j : Nat} (h : Path l i p j) : Rc (turnAL l) j i := by
  induction p generalizing i with
  | nil => cases h; exact Rc.refl _ _
  | cons a p ih =>
    obtain ⟨h1, rfl, h3⟩ := h
    exact (ih h3).trans (Rc.arc (a := turnA a) (List.mem_map.2 ⟨a, h1, rfl⟩))
theorem Rc.turn {l : List Ac} {i j : Nat} (h : Rc l i j) : Rc (turnAL l) j i := by
  obtain ⟨p, hp⟩ := h
  exact path_turn hp
theorem turnAL_turnAL (l : List Ac) : turnAL (turnAL l) = l := by
  unfold turnAL
  rw [List.map_map]
  exact List.map_id'' (fun a => rfl) l
theorem rc_turn {l : List Ac} {i j : Nat} : Rc (turnAL l) j i ↔ Rc l i j := ⟨fun h => by have := h.turn; rwa [turnAL_turnAL] at this, Rc.turn⟩

/-- A condition: marks that may not be met, marks that all are to be met; the same for the other ones. -/
structure Cd where
  n : Nat
  a : Nat
  n' : Nat
  a' : Nat
def cd0 : Cd := ⟨0, 0, 0, 0⟩
def okA (c : Cd) (a : Ac) : Bool := a.m &&& c.n == 0 && a.o &&& c.n' == 0
def sub (c : Cd) (l : List Ac) : List Ac := l.filter (okA c)
theorem okA_cd0 (a : Ac) : okA cd0 a = true := by simp [okA, cd0]
theorem sub_cd0 (l : List Ac) : sub cd0 l = l := by
  unfold sub
  exact List.filter_eq_self.2 fun a _ => okA_cd0 a
theorem mem_sub {c : Cd} {l : List Ac} {a : Ac} : a ∈ sub c l ↔ a ∈ l ∧ okA c a = true := List.mem_filter
theorem sub_turn (c : Cd) (l : List Ac) : sub c (turnAL l) = turnAL (sub c l) := by
  unfold sub turnAL
  rw [List.filter_map]
  rfl

/-- Is x within y? -/
def inB (x y : Nat) : Prop := ∀ b, x.testBit b = true → y.testBit b = true
theorem disj_iff {x y : Nat} : x &&& y = 0 ↔ ∀ b, x.testBit b = true → y.testBit b = false := by
  constructor
  · intro h b hx
    have h1 : (x &&& y).testBit b = false := by rw [h]; exact Nat.zero_testBit b
    rw [Nat.testBit_and, hx, Bool.true_and] at h1
    exact h1
  · intro h
    apply Nat.eq_of_testBit_eq
    intro b
    rw [Nat.testBit_and, Nat.zero_testBit]
    cases hx : x.testBit b
    · rfl
    · rw [h b hx]; rfl
/-- Do the marks of a loop meet the condition? -/
def Meets (c : Cd) (x y : Nat) : Prop := x &&& c.n = 0 ∧ y &&& c.n' = 0 ∧ inB c.a x ∧ inB c.a' y

theorem sub_path {c : Cd} {l : List Ac} {i j : Nat} {p : List Ac} : Path (sub c l) i p j ↔ Path l i p j ∧ mk p &&& c.n = 0 ∧ mo p &&& c.n' = 0 := by
  constructor
  · intro h
    refine ⟨h.mono fun a ha => (mem_sub.1 (h.mem a ha)).1, disj_iff.2 fun b hb => ?_, disj_iff.2 fun b hb => ?_⟩
    · obtain ⟨a, ha, hab⟩ := mk_bit.1 hb
      have := (mem_sub.1 (h.mem a ha)).2
      unfold okA at this
      rw [Bool.and_eq_true, beq_iff_eq, beq_iff_eq] at this
      exact disj_iff.1 this.1 b hab
    · obtain ⟨a, ha, hab⟩ := mo_bit.1 hb
      have := (mem_sub.1 (h.mem a ha)).2
      unfold okA at this
      rw [Bool.and_eq_true, beq_iff_eq, beq_iff_eq] at this
      exact disj_iff.1 this.2 b hab
  · rintro ⟨h, h1, h2⟩
    refine h.mono fun a ha => mem_sub.2 ⟨h.mem a ha, ?_⟩
    unfold okA
    rw [Bool.and_eq_true, beq_iff_eq, beq_iff_eq]
    exact ⟨disj_iff.2 fun b hb => disj_iff.1 h1 b (mk_bit.2 ⟨a, ha, hb⟩), disj_iff.2 fun b hb => disj_iff.1 h2 b (mo_bit.2 ⟨a, ha, hb⟩)⟩

/-- Each can be reached from the other. -/
def Eqv (l : List Ac) (i j : Nat) : Prop := Rc l i j ∧ Rc l j i
theorem Eqv.symm {l : List Ac} {i j : Nat} (h : Eqv l i j) : Eqv l j i := ⟨h.2, h.1⟩
theorem Eqv.trans {l : List Ac} {i j k : Nat} (h : Eqv l i j) (h' : Eqv l j k) : Eqv l i k := ⟨h.1.trans h'.1, h'.2.trans h.2⟩
theorem Eqv.refl (l : List Ac) (i : Nat) : Eqv l i i := ⟨Rc.refl _ _, Rc.refl _ _⟩

/-- The arcs within the part of i. -/
def Inn (l : List Ac) (i : Nat) (a : Ac) : Prop := a ∈ l ∧ Eqv l i a.f ∧ Eqv l i a.t
/-- All arcs of a closed path lie within the part. -/
theorem loop_inn {l : List Ac} {i j : Nat} {p : List Ac} (h : Path l i p j) (hr : Rc l j i) : ∀ a ∈ p, Inn l i a := by
  induction p generalizing i with
  | nil => intro a ha; cases ha
  | cons b p ih =>
    obtain ⟨h1, rfl, h3⟩ := h
    have hb : Rc l b.t b.f := (show Rc l b.t j from ⟨p, h3⟩).trans hr
    intro a ha
    rcases List.mem_cons.1 ha with rfl | ha
    · exact ⟨h1, Eqv.refl _ _, Rc.arc h1, hb⟩
    · have hi := ih h3 (hr.trans (Rc.arc h1)) a ha
      have he : Eqv l b.f b.t := ⟨Rc.arc h1, hb⟩
      exact ⟨hi.1, he.trans hi.2.1, he.trans hi.2.2⟩
/-- A closed path through all of these arcs of the part. -/
theorem inn_loop {l : List Ac} {i : Nat} {q : List Ac} (hq : ∀ a ∈ q, Inn l i a) : ∃ p, Path l i p i ∧ (∀ a ∈ q, a ∈ p) ∧ ∀ a ∈ p, Inn l i a := by
  induction q with
  | nil => exact ⟨[], rfl, (fun a ha => by cases ha), (fun a ha => by cases ha)⟩
  | cons b q ih =>
    obtain ⟨p, h1, h2, _⟩ := ih fun a ha => hq a (by simp [ha])
    obtain ⟨hb, ⟨⟨p1, hp1⟩, _⟩, _, ⟨p2, hp2⟩⟩ := hq b (by simp)
    have hp : Path l i (p ++ (p1 ++ (b :: p2))) i := h1.append (hp1.append ⟨hb, rfl, hp2⟩)
    refine ⟨_, hp, fun a ha => ?_, loop_inn hp (Rc.refl _ _)⟩
    rcases List.mem_cons.1 ha with rfl | ha
    · simp
    · simp [h2 a ha]

/-- A closed path at j, not empty, with these marks. -/
def Lp (l : List Ac) (j x y : Nat) : Prop := ∃ p, p ≠ [] ∧ Path l j p j ∧ mk p = x ∧ mo p = y
/-- A node on a closed path that meets the condition. -/
def Cy (l : List Ac) (c : Cd) (j : Nat) : Prop := ∃ x y, Lp l j x y ∧ Meets c x y
/-- .. by the part alone: it has an arc, and all marks that are asked for. -/
theorem cy_iff {l : List Ac} {c : Cd} {j : Nat} : Cy l c j ↔ (∃ a, Inn (sub c l) j a) ∧ (∀ b, c.a.testBit b = true → ∃ a, Inn (sub c l) j a ∧ a.m.testBit b = true) ∧ ∀ b, c.a'.testBit b = true → ∃ a, Inn (sub c l) j a ∧ a.o.testBit b = true := by
  constructor
  · rintro ⟨x, y, ⟨p, hp0, hp, rfl, rfl⟩, h1, h2, h3, h4⟩
    have hp' := sub_path.2 ⟨hp, h1, h2⟩
    have hin := loop_inn hp' (Rc.refl _ _)
    refine ⟨?_, fun b hb => ?_, fun b hb => ?_⟩
    · cases p with
      | nil => exact absurd rfl hp0
      | cons a p => exact ⟨a, hin a (by simp)⟩
    · obtain ⟨a, ha, hab⟩ := mk_bit.1 (h3 b hb)
      exact ⟨a, hin a ha, hab⟩
    · obtain ⟨a, ha, hab⟩ := mo_bit.1 (h4 b hb)
      exact ⟨a, hin a ha, hab⟩
  · rintro ⟨⟨a0, h0⟩, h1, h2⟩
    -- all inner arcs
    have hall : ∃ q : List Ac, ∀ a, a ∈ q ↔ Inn (sub c l) j a := by
      refine ⟨(sub c l).filter (fun a => @decide (Inn (sub c l) j a) (Classical.propDecidable _)), fun a => ?_⟩
      rw [List.mem_filter]
      constructor
      · rintro ⟨_, h⟩
        exact @of_decide_eq_true _ (Classical.propDecidable _) h
      · intro h
        exact ⟨h.1, @decide_eq_true _ (Classical.propDecidable _) h⟩
    obtain ⟨q, hq⟩ := hall
    obtain ⟨p, hp, hqp, _⟩ := inn_loop (l := sub c l) (i := j) (q := q) fun a ha => (hq a).1 ha
    obtain ⟨hp1, hp2, hp3⟩ := sub_path.1 hp
    refine ⟨mk p, mo p, ⟨p, fun e => ?_, hp1, rfl, rfl⟩, hp2, hp3, fun b hb => ?_, fun b hb => ?_⟩
    · have := hqp a0 ((hq a0).2 h0)
      rw [e] at this
      cases this
    · obtain ⟨a, ha, hab⟩ := h1 b hb
      exact mk_bit.2 ⟨a, hqp a ((hq a).2 ha), hab⟩
    · obtain ⟨a, ha, hab⟩ := h2 b hb
      exact mo_bit.2 ⟨a, hqp a ((hq a).2 ha), hab⟩

end Go.Proofs.Ytalgbcndifaaiaa.Wd

namespace Go.Proofs.Ytalgbcndifaaiaa.Wd
set_option linter.unusedVariables false

/-- An endless path from i. -/
def Run (l : List Ac) (i : Nat) (s : Nat → Ac) : Prop := (s 0).f = i ∧ ∀ k, s k ∈ l ∧ (s k).t = (s (k + 1)).f
/-- This mark is met again and again. -/
def Inf (s : Nat → Ac) (b : Nat) : Prop := ∀ n, ∃ k, n ≤ k ∧ (s k).m.testBit b = true
/-- x holds just the marks that are met again and again. -/
def InfM (s : Nat → Ac) (x : Nat) : Prop := ∀ b, x.testBit b = true ↔ Inf s b

theorem max_of {α : Type} (l : List α) (P : α → Nat → Prop) (h : ∀ a ∈ l, ∃ n, P a n) (hm : ∀ a n m, P a n → n ≤ m → P a m) : ∃ n, ∀ a ∈ l, P a n := by
  induction l with
  | nil => exact ⟨0, fun a ha => by cases ha⟩
  | cons x l ih =>
    obtain ⟨n, hn⟩ := ih fun a ha => h a (by simp [ha])
    obtain ⟨m, hx⟩ := h x (by simp)
    refine ⟨max n m, fun a ha => ?_⟩
    rcases List.mem_cons.1 ha with rfl | ha
    · exact hm _ _ _ hx (by omega)
    · exact hm _ _ _ (hn a ha) (by omega)

/-- The arcs from a place on, as a path. -/
theorem run_path {l : List Ac} {i : Nat} {s : Nat → Ac} (h : Run l i s) (k n : Nat) : ∃ p, Path l (s k).f p (s (k + n)).f ∧ p.length = n ∧ ∀ a, a ∈ p ↔ ∃ j, k ≤ j ∧ j < k + n ∧ s j = a := by
  induction n with
  | zero => exact ⟨[], rfl, rfl, fun a => ⟨fun h => (by cases h), fun ⟨j, h1, h2, _⟩ => by omega⟩⟩
  | succ n ih =>
    obtain ⟨p, hp, hn, ha⟩ := ih
    refine ⟨p ++ [s (k + n)], hp.append ⟨(h.2 _).1, rfl, (h.2 (k + n)).2⟩, by simp [hn], fun a => ?_⟩
    rw [List.mem_append, ha a, List.mem_singleton]
    constructor
    · rintro (⟨j, h1, h2, h3⟩ | rfl)
      · exact ⟨j, h1, by omega, h3⟩
      · exact ⟨k + n, by omega, by omega, rfl⟩
    · rintro ⟨j, h1, h2, h3⟩
      by_cases e : j = k + n
      · exact .inr (by rw [← h3, e])
      · exact .inl ⟨j, h1, by omega, h3⟩

theorem run_loop {l : List Ac} {i : Nat} {s : Nat → Ac} (h : Run l i s) {x : Nat} (hx : InfM s x) : ∃ j y, Rc l i j ∧ Lp l j x y := by
  classical
  -- from some place on only arcs that come again and again
  have h1 : ∃ n0, ∀ a ∈ l, (∀ n, ∃ k, n ≤ k ∧ s k = a) ∨ ∀ k, n0 ≤ k → s k ≠ a := by
    refine max_of l (fun a n0 => (∀ n, ∃ k, n ≤ k ∧ s k = a) ∨ ∀ k, n0 ≤ k → s k ≠ a) (fun a _ => ?_) (fun a n m hp hnm => ?_)
    · by_cases ha : ∀ n, ∃ k, n ≤ k ∧ s k = a
      · exact ⟨0, .inl ha⟩
      · obtain ⟨n, hn⟩ := Classical.not_forall.1 ha
        exact ⟨n, .inr fun k hk e => hn ⟨k, hk, e⟩⟩
    · rcases hp with hp | hp
      · exact .inl hp
      · exact .inr fun k hk => hp k (by omega)
  obtain ⟨n0, h1⟩ := h1
  have h2 : ∀ k, n0 ≤ k → ∀ n, ∃ k', n ≤ k' ∧ s k' = s k := by
    intro k hk
    rcases h1 (s k) (h.2 k).1 with h3 | h3
    · exact h3
    · exact absurd rfl (h3 k hk)
  -- a place by which all of them have come
  have h3 : ∃ n1, ∀ a ∈ l, (∃ k, n0 ≤ k ∧ k < n1 ∧ s k = a) ∨ ∀ k, n0 ≤ k → s k ≠ a := by
    refine max_of l (fun a n1 => (∃ k, n0 ≤ k ∧ k < n1 ∧ s k = a) ∨ ∀ k, n0 ≤ k → s k ≠ a) (fun a ha => ?_) (fun a n m hp hnm => ?_)
    · rcases h1 a ha with h4 | h4
      · obtain ⟨k, hk, e⟩ := h4 n0
        exact ⟨k + 1, .inl ⟨k, hk, by omega, e⟩⟩
      · exact ⟨0, .inr h4⟩
    · rcases hp with ⟨k, hk, hk2, e⟩ | hp
      · exact .inl ⟨k, hk, by omega, e⟩
      · exact .inr hp
  obtain ⟨n1, h3⟩ := h3
  obtain ⟨k2, hk2, e2⟩ := h2 n0 (Nat.le_refl _) (n0 + n1 + 1)
  obtain ⟨p, hp, hlen, hpa⟩ := run_path h n0 (k2 - n0)
  rw [show n0 + (k2 - n0) = k2 from by omega, e2] at hp
  obtain ⟨q, hq, _, _⟩ := run_path h 0 n0
  rw [h.1] at hq
  refine ⟨(s n0).f, mo p, ⟨q, by simpa using hq⟩, p, fun e => by rw [e] at hlen; simp at hlen; omega, hp, ?_, rfl⟩
  apply Nat.eq_of_testBit_eq
  intro b
  rw [Bool.eq_iff_iff, hx b, mk_bit]
  constructor
  · rintro ⟨a, ha, hab⟩ n
    obtain ⟨j, hj1, hj2, rfl⟩ := (hpa a).1 ha
    obtain ⟨k', hk', e⟩ := h2 j hj1 n
    exact ⟨k', hk', by rw [e]; exact hab⟩
  · intro hb
    obtain ⟨k, hk, hkb⟩ := hb n0
    rcases h3 (s k) (h.2 k).1 with ⟨j, hj1, hj2, e⟩ | h4
    · exact ⟨s k, (hpa _).2 ⟨j, hj1, by omega, e⟩, hkb⟩
    · exact absurd rfl (h4 k hk)

theorem path_at {l : List Ac} {i j : Nat} {p : List Ac} (h : Path l i p j) {k : Nat} (hk : k < p.length) : p.getD k ac0 ∈ l ∧ (k = 0 → (p.getD k ac0).f = i) ∧ (k + 1 < p.length → (p.getD k ac0).t = (p.getD (k + 1) ac0).f) ∧ (k + 1 = p.length → (p.getD k ac0).t = j) := by
  induction p generalizing i k with
  | nil => simp at hk
  | cons a p ih =>
    obtain ⟨h1, h2, h3⟩ := h
    cases k with
    | zero =>
      refine ⟨by simpa using h1, fun _ => by simpa using h2, fun hk1 => ?_, fun hk1 => ?_⟩
      · cases p with
        | nil => simp at hk1
        | cons b p => simpa using h3.2.1.symm
      · cases p with
        | nil => exact (show a.t = j from h3)
        | cons b p => simp at hk1
    | succ k =>
      have hk' : k < p.length := by simpa using hk
      obtain ⟨a1, a2, a3, a4⟩ := ih h3 hk'
      refine ⟨by simpa using a1, fun e => by omega, fun hk1 => ?_, fun hk1 => ?_⟩
      · simpa using a3 (by simpa using hk1)
      · simpa using a4 (by simpa using hk1)

/-- The arcs of p, and then those of q for ever. -/
def lasso (p q : List Ac) (k : Nat) : Ac := if k < p.length then p.getD k ac0 else q.getD ((k - p.length) % q.length) ac0
theorem loop_run {l : List Ac} {i j x y : Nat} (hr : Rc l i j) (hl : Lp l j x y) : ∃ s, Run l i s ∧ InfM s x := by
  obtain ⟨p, hp⟩ := hr
  obtain ⟨q, hq0, hq, rfl, rfl⟩ := hl
  have hql : 0 < q.length := by
    cases q with
    | nil => exact absurd rfl hq0
    | cons a q => simp
  have hq1 := path_at hq hql
  refine ⟨lasso p q, ⟨?_, fun k => ?_⟩, fun b => ?_⟩
  · unfold lasso
    by_cases h : 0 < p.length
    · rw [if_pos h]; exact (path_at hp h).2.1 rfl
    · rw [if_neg h]
      have h0 : p = [] := List.eq_nil_of_length_eq_zero (by omega)
      subst h0
      have : i = j := hp
      subst this
      simpa using hq1.2.1 rfl
  · unfold lasso
    by_cases h : k < p.length
    · rw [if_pos h]
      obtain ⟨a1, a2, a3, a4⟩ := path_at hp h
      refine ⟨a1, ?_⟩
      by_cases h' : k + 1 < p.length
      · rw [if_pos h']; exact a3 h'
      · rw [if_neg h', a4 (by omega), show k + 1 - p.length = 0 from by omega, Nat.zero_mod]
        exact (hq1.2.1 rfl).symm
    · rw [if_neg h, if_neg (by omega)]
      have hm : (k - p.length) % q.length < q.length := Nat.mod_lt _ hql
      obtain ⟨a1, a2, a3, a4⟩ := path_at hq hm
      refine ⟨a1, ?_⟩
      rw [show k + 1 - p.length = (k - p.length) + 1 from by omega]
      by_cases h' : (k - p.length) % q.length + 1 < q.length
      · rw [a3 h', Nat.add_mod, Nat.mod_eq_of_lt (a := 1) (by omega), Nat.mod_eq_of_lt h']
      · have e1 : (k - p.length) % q.length + 1 = q.length := by omega
        have e2 : (k - p.length + 1) % q.length = 0 := by
          rw [← Nat.mod_add_mod, e1]
          exact Nat.mod_self _
        rw [a4 e1, e2]
        exact (hq1.2.1 rfl).symm
  · rw [mk_bit]
    constructor
    · rintro ⟨a, ha, hab⟩ n
      obtain ⟨k, hk, rfl⟩ := List.mem_iff_getElem.1 ha
      refine ⟨p.length + (n * q.length + k), ?_, ?_⟩
      · have : n * 1 ≤ n * q.length := Nat.mul_le_mul_left _ hql
        omega
      · unfold lasso
        rw [if_neg (by omega), Nat.add_sub_cancel_left, Nat.mul_comm n, Nat.mul_add_mod, Nat.mod_eq_of_lt hk, List.getD_eq_getElem?_getD, List.getElem?_eq_getElem hk]
        exact hab
    · intro hb
      obtain ⟨k, hk, hkb⟩ := hb p.length
      unfold lasso at hkb
      rw [if_neg (by omega)] at hkb
      have hm : (k - p.length) % q.length < q.length := Nat.mod_lt _ hql
      refine ⟨_, ?_, hkb⟩
      rw [List.getD_eq_getElem?_getD, List.getElem?_eq_getElem hm]
      exact List.getElem_mem hm

/-- There is always such a set of marks, if the marks are below 2 ^ n. -/
theorem inf_ex (s : Nat → Ac) (n : Nat) (h : ∀ k, (s k).m < 2 ^ n) : ∃ x, InfM s x ∧ x < 2 ^ n := by
  classical
  have key : ∀ n, ∃ x, x < 2 ^ n ∧ ∀ b, x.testBit b = true ↔ Inf s b ∧ b < n := by
    intro n
    induction n with
    | zero => exact ⟨0, by simp, fun b => by simp⟩
    | succ n ih =>
      obtain ⟨x, hx, hb⟩ := ih
      by_cases hi : Inf s n
      · refine ⟨x ||| 2 ^ n, Nat.or_lt_two_pow (by rw [Nat.pow_succ]; omega) (by rw [Nat.pow_succ]; have := Nat.two_pow_pos n; omega), fun b => ?_⟩
        rw [Nat.testBit_or, Bool.or_eq_true, hb b, Nat.testBit_two_pow, decide_eq_true_iff]
        constructor
        · rintro (⟨h1, h2⟩ | rfl)
          · exact ⟨h1, by omega⟩
          · exact ⟨hi, by omega⟩
        · rintro ⟨h1, h2⟩
          by_cases e : n = b
          · exact .inr e
          · exact .inl ⟨h1, by omega⟩
      · refine ⟨x, by rw [Nat.pow_succ]; omega, fun b => ?_⟩
        rw [hb b]
        constructor
        · rintro ⟨h1, h2⟩; exact ⟨h1, by omega⟩
        · rintro ⟨h1, h2⟩
          by_cases e : b = n
          · exact absurd (e ▸ h1) hi
          · exact ⟨h1, by omega⟩
  obtain ⟨x, hx, hb⟩ := key n
  refine ⟨x, fun b => ?_, hx⟩
  rw [hb b]
  constructor
  · exact fun h => h.1
  · intro hi
    refine ⟨hi, Nat.lt_of_not_le fun hle => ?_⟩
    obtain ⟨k, _, hk⟩ := hi 0
    have h2 : (s k).m < 2 ^ b := Nat.lt_of_lt_of_le (h k) (Nat.pow_le_pow_right (by omega) hle)
    rw [Nat.testBit_lt_two_pow h2] at hk
    cases hk

end Go.Proofs.Ytalgbcndifaaiaa.Wd

namespace Go.Proofs.Ytalgbcndifaaiaa.Wd
open Go.RowKit
set_option linter.unusedVariables false

theorem bool_info : (Try.prog.info? 4).map (fun i => (i.zero, i.size, i.bytes)) = some (some (.bool false), 1, 1) := by kernel_rfl

/-- The reachable states. -/
inductive Rch (st : List Int) (es : List Ed) : Nat → Prop
  | start (k s : Nat) : k < st.length → st.getD k 0 = (s : Int) → Rch st es s
  | edge (k a b : Nat) : k < es.length → (es.getD k ed0).f = (a : Int) → (es.getD k ed0).t = (b : Int) → Rch st es a → Rch st es b

def updB (F : Nat → Bool) (j i : Nat) : Bool := if i = j then true else F i
theorem updB_same (F : Nat → Bool) (j : Nat) : updB F j j = true := by unfold updB; rw [if_pos rfl]
theorem updB_mono {F : Nat → Bool} {j i : Nat} (h : F i = true) : updB F j i = true := by unfold updB; split <;> first | rfl | exact h
theorem updB_true {F : Nat → Bool} {j i : Nat} (h : updB F j i = true) : i = j ∨ F i = true := by
  unfold updB at h
  split at h
  · rename_i e; exact .inl e
  · exact .inr h
/-- How many of the first n are not there. -/
def cntF (F : Nat → Bool) : Nat → Nat
  | 0 => 0
  | n + 1 => (if F n = true then 0 else 1) + cntF F n
theorem cntF_far {F : Nat → Bool} {j : Nat} : ∀ n, n ≤ j → cntF (updB F j) n = cntF F n
  | 0, _ => rfl
  | n + 1, h => by
    unfold cntF
    rw [cntF_far n (by omega), show updB F j n = F n by unfold updB; rw [if_neg (by omega)]]
theorem cntF_set {F : Nat → Bool} {j : Nat} (h : F j = false) : ∀ n, j < n → cntF (updB F j) n + 1 = cntF F n
  | 0, hj => by omega
  | n + 1, hj => by
    unfold cntF
    by_cases e : j = n
    · subst e
      rw [cntF_far j (Nat.le_refl _), updB_same, h, if_pos rfl, if_neg (by decide)]
      omega
    · rw [show updB F j n = F n by unfold updB; rw [if_neg (fun x => e x.symm)], ← cntF_set h n (by omega)]
      omega
theorem cntF_le (F : Nat → Bool) (n : Nat) : cntF F n ≤ n := by
  induction n with
  | zero => exact Nat.le_refl _
  | succ n ih => unfold cntF; split <;> omega

def SoundF (st : List Int) (es : List Ed) (F : Nat → Bool) : Prop := ∀ i, F i = true → Rch st es i
def StartF (st : List Int) (F : Nat → Bool) (t : Nat) : Prop := ∀ k s : Nat, k < t → st.getD k 0 = (s : Int) → F s = true
def EdgeF (es : List Ed) (F : Nat → Bool) (t : Nat) : Prop := ∀ k a b : Nat, k < t → (es.getD k ed0).f = (a : Int) → (es.getD k ed0).t = (b : Int) → F a = true → F b = true
def RowF (w : World) (b S : Nat) (F : Nat → Bool) : Prop := w.rowIs b 4 S (fun i => .bool (F i))
theorem RowF.upd {w : World} {b S j : Nat} {F : Nat → Bool} (h : RowF w b S F) : RowF (w.setCell ⟨b, j, none⟩ (.bool true)) b S (updB F j) :=
  (World.rowIs.set h j (.bool true)).congr (fun i hi => by unfold updB; by_cases e : i = j <;> simp [e])
theorem RowF.cell {w : World} {b S i : Nat} {F : Nat → Bool} (h : RowF w b S F) (hi : i < S) : w.cell? ⟨b, i, none⟩ = some (.bool (F i)) := World.rowIs.cell h hi
theorem RowF.lt {w : World} {b S : Nat} {F : Nat → Bool} (h : RowF w b S F) : b < w.heap.size := World.rowIs.lt h
theorem RowF.free {w : World} {b S : Nat} {F : Nat → Bool} (h : RowF w b S F) (i : Nat) : w.frozen? ⟨b, i, none⟩ = false := World.rowIs.frozen h i
theorem RowF.alloc {w : World} {b S : Nat} {F : Nat → Bool} (h : RowF w b S F) (o : Obj) : RowF (w.alloc o) b S F := World.rowIs.alloc h o

theorem start_next {st : List Int} {F : Nat → Bool} {t j : Nat} (h : StartF st F t) (hj : st.getD t 0 = (j : Int)) : StartF st (updB F j) (t + 1) := by
  intro k s hk hs
  by_cases e : k = t
  · subst e
    obtain rfl : j = s := by omega
    exact updB_same F j
  · exact updB_mono (h k s (by omega) hs)
theorem sound_start {st : List Int} {es : List Ed} {F : Nat → Bool} {t j : Nat} (h : SoundF st es F) (ht : t < st.length) (hj : st.getD t 0 = (j : Int)) : SoundF st es (updB F j) := by
  intro i hi
  rcases updB_true hi with rfl | h2
  · exact .start t i ht hj
  · exact h i h2
theorem sound_edge {st : List Int} {es : List Ed} {F : Nat → Bool} {t a b : Nat} (h : SoundF st es F) (ht : t < es.length) (hf : (es.getD t ed0).f = (a : Int)) (hb : (es.getD t ed0).t = (b : Int)) (ha : F a = true) : SoundF st es (updB F b) := by
  intro i hi
  rcases updB_true hi with rfl | h2
  · exact .edge t a i ht hf hb (h a ha)
  · exact h i h2
theorem edge_next {es : List Ed} {F : Nat → Bool} {t a b : Nat} (h : EdgeF es F t) (hf : (es.getD t ed0).f = (a : Int)) (hb : (es.getD t ed0).t = (b : Int)) (hab : F a = true → F b = true) : EdgeF es F (t + 1) := by
  intro k x y hk hx hy h1
  by_cases e : k = t
  · subst e
    obtain rfl : a = x := by omega
    obtain rfl : b = y := by omega
    exact hab h1
  · exact h k x y (by omega) hx hy h1
theorem reach_done {st : List Int} {es : List Ed} {F : Nat → Bool} (h1 : SoundF st es F) (h2 : StartF st F st.length) (h3 : EdgeF es F es.length) (i : Nat) : F i = true ↔ Rch st es i := by
  refine ⟨h1 i, fun h => ?_⟩
  induction h with
  | start k s hk hs => exact h2 k s hk hs
  | edge k a b hk ha hb _ ih => exact h3 k a b hk ha hb ih

end Go.Proofs.Ytalgbcndifaaiaa.Wd

namespace Go.Proofs.Ytalgbcndifaaiaa.Wd
set_option linter.unusedVariables false

/-- Can it be reached from one of those? -/
def FromP (F0 : Nat → Bool) (n : Nat) (l : List Ac) (i : Nat) : Prop := ∃ j, j < n ∧ F0 j = true ∧ Rc l j i
/-- F: what has been met; L: what is still to be looked at; X: arcs that are still to be looked at. -/
structure Dfs (F0 : Nat → Bool) (n : Nat) (l : List Ac) (F : Nat → Bool) (L : List Nat) (X : Nat → Nat → Prop) : Prop where
  sound : ∀ i, i < n → F i = true → FromP F0 n l i
  start : ∀ i, i < n → F0 i = true → F i = true
  wait : ∀ x ∈ L, x < n ∧ F x = true
  step : ∀ a ∈ l, F a.f = true → a.f ∈ L ∨ F a.t = true ∨ X a.f a.t

theorem Dfs.init {F0 : Nat → Bool} {n : Nat} {l : List Ac} {L : List Nat} (hl : ∀ a ∈ l, a.f < n) (hL : ∀ x, x ∈ L ↔ x < n ∧ F0 x = true) : Dfs F0 n l F0 L (fun _ _ => False) :=
  ⟨fun i hi h => ⟨i, hi, h, Rc.refl _ _⟩, fun _ _ h => h, fun x hx => (hL x).1 hx, fun a ha h => .inl ((hL _).2 ⟨hl a ha, h⟩)⟩
theorem Dfs.pop {F0 : Nat → Bool} {n : Nat} {l : List Ac} {F : Nat → Bool} {L : List Nat} {i : Nat} {N : List Nat} (h : Dfs F0 n l F (L ++ [i]) (fun _ _ => False)) (hN : ∀ a ∈ l, a.f = i → a.t ∈ N) :
    i < n ∧ F i = true ∧ Dfs F0 n l F L (fun x y => x = i ∧ y ∈ N.drop 0) := by
  obtain ⟨h1, h2⟩ := h.wait i (by simp)
  refine ⟨h1, h2, h.sound, h.start, (fun x hx => h.wait x (by simp [hx])), fun a ha hf => ?_⟩
  rcases h.step a ha hf with h3 | h3 | h3
  · rcases List.mem_append.1 h3 with h3 | h3
    · exact .inl h3
    · have h4 : a.f = i := by simpa using h3
      exact .inr (.inr ⟨h4, hN a ha h4⟩)
  · exact .inr (.inl h3)
  · exact h3.elim
theorem drop_cons {N : List Nat} {u k : Nat} (hu : u < N.length) (hk : N.getD u 0 = k) : N.drop u = k :: N.drop (u + 1) := by
  rw [List.getD_eq_getElem?_getD, List.getElem?_eq_getElem hu] at hk
  rw [List.drop_eq_getElem_cons hu]
  exact congrArg (· :: N.drop (u + 1)) hk
theorem Dfs.seen {F0 : Nat → Bool} {n : Nat} {l : List Ac} {F : Nat → Bool} {L : List Nat} {i u k : Nat} {N : List Nat} (h : Dfs F0 n l F L (fun x y => x = i ∧ y ∈ N.drop u)) (hu : u < N.length) (hk : N.getD u 0 = k) (hF : F k = true) :
    Dfs F0 n l F L (fun x y => x = i ∧ y ∈ N.drop (u + 1)) := by
  refine ⟨h.sound, h.start, h.wait, fun a ha hf => ?_⟩
  rcases h.step a ha hf with h1 | h1 | ⟨h1, h2⟩
  · exact .inl h1
  · exact .inr (.inl h1)
  · rw [drop_cons hu hk] at h2
    rcases List.mem_cons.1 h2 with h2 | h2
    · exact .inr (.inl (by rw [h2]; exact hF))
    · exact .inr (.inr ⟨h1, h2⟩)
theorem Dfs.meet {F0 : Nat → Bool} {n : Nat} {l : List Ac} {F : Nat → Bool} {L : List Nat} {i u k : Nat} {N : List Nat} (h : Dfs F0 n l F L (fun x y => x = i ∧ y ∈ N.drop u)) (hu : u < N.length) (hk : N.getD u 0 = k) (hkn : k < n)
    (hi : i < n) (hFi : F i = true) (hN : ∀ y ∈ N, ∃ a ∈ l, a.f = i ∧ a.t = y) :
    Dfs F0 n l (updB F k) (L ++ [k]) (fun x y => x = i ∧ y ∈ N.drop (u + 1)) := by
  have hkN : k ∈ N := by
    rw [← hk, List.getD_eq_getElem?_getD, List.getElem?_eq_getElem hu]; exact List.getElem_mem hu
  obtain ⟨a0, ha0, hf0, ht0⟩ := hN k hkN
  refine ⟨fun j hj h1 => ?_, (fun j hj h1 => updB_mono (h.start j hj h1)), fun x hx => ?_, fun a ha hf => ?_⟩
  · rcases updB_true h1 with rfl | h1
    · obtain ⟨r, h2, h3, h4⟩ := h.sound i hi hFi
      exact ⟨r, h2, h3, by have := Rc.step (a := a0) (by rw [hf0]; exact h4) ha0; rwa [ht0] at this⟩
    · exact h.sound j hj h1
  · rcases List.mem_append.1 hx with hx | hx
    · exact ⟨(h.wait x hx).1, updB_mono (h.wait x hx).2⟩
    · have hx : x = k := by simpa using hx
      subst hx
      exact ⟨hkn, updB_same _ _⟩
  · rcases updB_true hf with hf | hf
    · exact .inl (by rw [hf]; simp)
    · rcases h.step a ha hf with h1 | h1 | ⟨h1, h2⟩
      · exact .inl (by simp [h1])
      · exact .inr (.inl (updB_mono h1))
      · rw [drop_cons hu hk] at h2
        rcases List.mem_cons.1 h2 with h2 | h2
        · exact .inr (.inl (by rw [h2]; exact updB_same _ _))
        · exact .inr (.inr ⟨h1, h2⟩)
theorem Dfs.out {F0 : Nat → Bool} {n : Nat} {l : List Ac} {F : Nat → Bool} {L : List Nat} {i u : Nat} {N : List Nat} (h : Dfs F0 n l F L (fun x y => x = i ∧ y ∈ N.drop u)) (hu : N.length ≤ u) : Dfs F0 n l F L (fun _ _ => False) := by
  refine ⟨h.sound, h.start, h.wait, fun a ha hf => ?_⟩
  rcases h.step a ha hf with h1 | h1 | ⟨_, h2⟩
  · exact .inl h1
  · exact .inr (.inl h1)
  · rw [List.drop_eq_nil_of_le hu] at h2
    cases h2
theorem Dfs.done {F0 : Nat → Bool} {n : Nat} {l : List Ac} {F : Nat → Bool} (h : Dfs F0 n l F [] (fun _ _ => False)) (hl : ∀ a ∈ l, a.f < n ∧ a.t < n) : ∀ i, i < n → (F i = true ↔ FromP F0 n l i) := by
  intro i hi
  refine ⟨h.sound i hi, ?_⟩
  rintro ⟨j, hj, h0, hr⟩
  refine hr.closed (F := fun x => F x = true) (h.start j hj h0) fun a ha hf => ?_
  rcases h.step a ha hf with h1 | h1 | h1
  · cases h1
  · exact h1
  · exact h1.elim

/-- Of the first k arcs the targets of those from s that are ok. -/
def nextL (c : Cd) (l : List Ac) (s k : Nat) : List Nat := ((l.take k).filter fun a => okA c a && decide (a.f = s)).map Ac.t
theorem nextL_zero (c : Cd) (l : List Ac) (s : Nat) : nextL c l s 0 = [] := rfl
theorem nextL_yes {c : Cd} {l : List Ac} {k : Nat} {x : Ac} (hk : k < l.length) (hx : l.getD k ac0 = x) (h : okA c x = true) : nextL c l x.f (k + 1) = nextL c l x.f k ++ [x.t] := by
  unfold nextL
  rw [List.take_succ_eq_append_getElem hk, List.filter_append, List.map_append]
  rw [List.getD_eq_getElem?_getD, List.getElem?_eq_getElem hk] at hx
  simp only [Option.getD_some] at hx
  rw [hx]
  simp [h]
theorem nextL_no {c : Cd} {l : List Ac} {s k : Nat} {x : Ac} (hk : k < l.length) (hx : l.getD k ac0 = x) (h : okA c x = false ∨ x.f ≠ s) : nextL c l s (k + 1) = nextL c l s k := by
  unfold nextL
  rw [List.take_succ_eq_append_getElem hk, List.filter_append, List.map_append]
  rw [List.getD_eq_getElem?_getD, List.getElem?_eq_getElem hk] at hx
  simp only [Option.getD_some] at hx
  rw [hx]
  rcases h with h | h
  · simp [h]
  · simp [h]
theorem nextL_len (c : Cd) (l : List Ac) (s k : Nat) : (nextL c l s k).length ≤ k := by
  unfold nextL
  rw [List.length_map]
  exact Nat.le_trans (List.length_filter_le _ _) (by rw [List.length_take]; omega)
theorem nextL_mem {c : Cd} {l : List Ac} {s k y : Nat} (hk : l.length ≤ k) : y ∈ nextL c l s k ↔ ∃ a ∈ sub c l, a.f = s ∧ a.t = y := by
  unfold nextL
  rw [List.take_of_length_le hk, List.mem_map]
  constructor
  · rintro ⟨a, ha, rfl⟩
    obtain ⟨h1, h2⟩ := List.mem_filter.1 ha
    rw [Bool.and_eq_true] at h2
    exact ⟨a, mem_sub.2 ⟨h1, h2.1⟩, of_decide_eq_true h2.2, rfl⟩
  · rintro ⟨a, ha, rfl, rfl⟩
    obtain ⟨h1, h2⟩ := mem_sub.1 ha
    exact ⟨a, List.mem_filter.2 ⟨h1, by rw [h2, decide_eq_true rfl]; rfl⟩, rfl⟩

/-- Those of the first k that are there. -/
def thereL (F : Nat → Bool) (k : Nat) : List Nat := (List.range k).filter fun i => F i
theorem thereL_yes {F : Nat → Bool} {k : Nat} (h : F k = true) : thereL F (k + 1) = thereL F k ++ [k] := by
  unfold thereL; rw [List.range_succ, List.filter_append]; simp [h]
theorem thereL_no {F : Nat → Bool} {k : Nat} (h : F k = false) : thereL F (k + 1) = thereL F k := by
  unfold thereL; rw [List.range_succ, List.filter_append]; simp [h]
theorem thereL_mem {F : Nat → Bool} {k x : Nat} : x ∈ thereL F k ↔ x < k ∧ F x = true := by
  unfold thereL; rw [List.mem_filter, List.mem_range]
theorem thereL_len (F : Nat → Bool) (k : Nat) : (thereL F k).length ≤ k := by
  unfold thereL; exact Nat.le_trans (List.length_filter_le _ _) (by simp)
theorem thereL_cnt (F : Nat → Bool) (k : Nat) : (thereL F k).length + cntF F k = k := by
  induction k with
  | zero => rfl
  | succ k ih =>
    cases h : F k
    · rw [thereL_no h]; unfold cntF; rw [if_neg (by rw [h]; decide)]; omega
    · rw [thereL_yes h, List.length_append]; unfold cntF; rw [if_pos h]; show _ + 1 + _ = _; omega

end Go.Proofs.Ytalgbcndifaaiaa.Wd
