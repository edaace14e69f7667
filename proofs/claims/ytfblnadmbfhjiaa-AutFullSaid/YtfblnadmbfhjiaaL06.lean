/-
  The automata of wide: their letters, and what Fill adds. No program is looked at here.
  The automata of wide are valid; so is what Fill makes of them, and it lacks no letter.
-/
import Derived.Test.YtfblnadmbfhjiaaL05
import Derived.Test.YtfblnadmbfhjiaaF05
namespace Go.Proofs.Ytfblnadmbfhjiaa.Wd
open Go Go.RowKit
set_option linter.unusedVariables false

theorem rowW_mem {c : Int} {G s k : Nat} {e : Ed} : e ∈ rowW c G s k ↔ ∃ l, l < k ∧ (0 < l ∨ s % G ≠ 0) ∧ e = ⟨s, s, c, l, 0⟩ := by
  induction k with
  | zero => simp [rowW]
  | succ k ih =>
    by_cases h : 0 < k ∨ s % G ≠ 0
    · rw [rowW_yes h, List.mem_append, ih, List.mem_singleton]
      constructor
      · rintro (⟨l, h1, h2, h3⟩ | h1)
        · exact ⟨l, by omega, h2, h3⟩
        · exact ⟨k, by omega, h, h1⟩
      · rintro ⟨l, h1, h2, h3⟩
        by_cases hl : l = k
        · subst hl; exact .inr h3
        · exact .inl ⟨l, by omega, h2, h3⟩
    · rw [rowW_no h, ih]
      constructor
      · rintro ⟨l, h1, h2, h3⟩
        exact ⟨l, by omega, h2, h3⟩
      · rintro ⟨l, h1, h2, h3⟩
        by_cases hl : l = k
        · subst hl; exact absurd h2 h
        · exact ⟨l, by omega, h2, h3⟩
theorem wideL_mem {c : Int} {N G S : Nat} {e : Ed} : e ∈ wideL c N G S ↔ ∃ s l, s < S ∧ l < N ∧ (0 < l ∨ s % G ≠ 0) ∧ e = ⟨s, s, c, l, 0⟩ := by
  induction S with
  | zero => simp [wideL]
  | succ S ih =>
    rw [wideL, List.mem_append, ih, rowW_mem]
    constructor
    · rintro (⟨s, l, h1, h2, h3, h4⟩ | ⟨l, h2, h3, h4⟩)
      · exact ⟨s, l, by omega, h2, h3, h4⟩
      · exact ⟨S, l, by omega, h2, h3, h4⟩
    · rintro ⟨s, l, h1, h2, h3, h4⟩
      by_cases hs : s = S
      · subst hs; exact .inr ⟨l, h2, h3, h4⟩
      · exact .inl ⟨s, l, by omega, h2, h3, h4⟩
/-- They come in the order of their states and letters. -/
def Ahead (e e' : Ed) : Prop := e.f < e'.f ∨ (e.f = e'.f ∧ e.b < e'.b)
theorem rowW_order (c : Int) (G s k : Nat) : (rowW c G s k).Pairwise Ahead := by
  induction k with
  | zero => simp [rowW]
  | succ k ih =>
    by_cases h : 0 < k ∨ s % G ≠ 0
    · rw [rowW_yes h, List.pairwise_append]
      refine ⟨ih, by simp, fun a ha b hb => ?_⟩
      obtain ⟨l, h1, _, rfl⟩ := rowW_mem.1 ha
      rw [List.mem_singleton] at hb
      subst hb
      exact .inr ⟨rfl, by show (l : Int) < (k : Int); omega⟩
    · rw [rowW_no h]; exact ih
theorem wideL_order (c : Int) (N G S : Nat) : (wideL c N G S).Pairwise Ahead := by
  induction S with
  | zero => simp [wideL]
  | succ S ih =>
    rw [wideL, List.pairwise_append]
    refine ⟨ih, rowW_order _ _ _ _, fun a ha b hb => ?_⟩
    obtain ⟨s, l, h1, _, _, rfl⟩ := wideL_mem.1 ha
    obtain ⟨l', _, _, rfl⟩ := rowW_mem.1 hb
    exact .inl (by show (s : Int) < (S : Int); omega)
theorem getD_mem {l : List Ed} {i : Nat} (h : i < l.length) : l.getD i ed0 ∈ l := by
  rw [List.getD_eq_getElem?_getD, List.getElem?_eq_getElem h]
  exact List.getElem_mem h
theorem order_at {l : List Ed} (h : l.Pairwise Ahead) {i j : Nat} (hij : i < j) (hj : j < l.length) : Ahead (l.getD i ed0) (l.getD j ed0) := by
  rw [List.getD_eq_getElem?_getD, List.getD_eq_getElem?_getD, List.getElem?_eq_getElem hj, List.getElem?_eq_getElem (Nat.lt_trans hij hj)]
  exact List.pairwise_iff_getElem.1 h i j (Nat.lt_trans hij hj) hj hij

theorem mask_int {p : Nat} : ((2 : Int) ^ p - 1) = ((2 ^ p - 1 : Nat) : Int) := by
  have := Nat.two_pow_pos p
  rw [Int.natCast_sub (by omega)]
  simp
/-- A letter against an edge of one letter. -/
theorem letB_one {p l k : Nat} {s t m : Int} (hp : p ≤ 6) (hl : l < 2 ^ p) : letB (l : Int) ⟨s, t, (2 : Int) ^ p - 1, k, m⟩ = decide (l = k) := by
  have h64 := (pow_six hp).2
  unfold letB
  rw [decide_eq_decide]
  show bits .and .i64 (l : Int) ((2 : Int) ^ p - 1) = (k : Int) ↔ _
  rw [mask_int, and_i64 _ _ (by omega) (by omega), Nat.and_two_pow_sub_one_eq_mod, Nat.mod_eq_of_lt hl]
  omega
theorem letB_all {p l : Nat} {s t m : Int} (hp : p ≤ 6) (hl : l < 2 ^ p) : letB (l : Int) ⟨s, t, 0, 0, m⟩ = true := by
  have h64 := (pow_six hp).2
  have h1 := and_i64 l 0 (by omega) (by omega)
  rw [Nat.and_zero] at h1
  exact decide_eq_true h1

theorem wide_from {c : Int} {N G S : Nat} : ∀ i, i < (wideL c N G S).length → ∃ f : Nat, ((wideL c N G S).getD i ed0).f = (f : Int) ∧ f < S := by
  intro i hi
  obtain ⟨s, l, h1, _, _, h4⟩ := wideL_mem.1 (getD_mem hi)
  exact ⟨s, by rw [h4], h1⟩
theorem wide_clash {p G S : Nat} (hp : p ≤ 6) : clashB p (wideL ((2 : Int) ^ p - 1) (2 ^ p) G S) (wideL ((2 : Int) ^ p - 1) (2 ^ p) G S).length = false := by
  rw [Bool.eq_false_iff]
  intro h
  obtain ⟨i, j, hij, hj, hf, l, hl, h1, h2⟩ := (clashB_iff p _ _ (fun i hi => (wide_from i hi).imp fun _ h => h.1)).1 h
  have ho := order_at (wideL_order _ _ _ _) hij hj
  obtain ⟨s, k, _, _, _, e1⟩ := wideL_mem.1 (getD_mem (Nat.lt_trans hij hj))
  obtain ⟨s', k', _, _, _, e2⟩ := wideL_mem.1 (getD_mem hj)
  rw [e1, letB_one hp hl] at h1
  rw [e2, letB_one hp hl] at h2
  have h3 := of_decide_eq_true h1
  have h4 := of_decide_eq_true h2
  rw [e1, e2] at ho hf
  rcases ho with h5 | ⟨_, h5⟩
  · exact absurd hf (Int.ne_of_lt h5)
  · have : (k : Int) < (k' : Int) := h5
    omega
theorem wide_sets {p G S : Nat} (hp : p ≤ 6) (s j : Nat) : (setsN p (wideL ((2 : Int) ^ p - 1) (2 ^ p) G S) (wideL ((2 : Int) ^ p - 1) (2 ^ p) G S).length s).testBit j = decide (s < S ∧ j < 2 ^ p ∧ (0 < j ∨ s % G ≠ 0)) := by
  rw [Bool.eq_iff_iff, setsN_bit, decide_eq_true_eq]
  constructor
  · rintro ⟨i, h1, h2, h3⟩
    obtain ⟨s', k, h4, h5, h6, e⟩ := wideL_mem.1 (getD_mem h1)
    rw [fitN_bit, Bool.and_eq_true] at h3
    have hj := of_decide_eq_true h3.1
    rw [e, letB_one hp hj] at h3
    have hk := of_decide_eq_true h3.2
    rw [e] at h2
    have hs : (s' : Int) = (s : Int) := h2
    obtain rfl : s' = s := by omega
    subst hk
    exact ⟨h4, hj, h6⟩
  · rintro ⟨h1, h2, h3⟩
    have hm : (⟨s, s, (2 : Int) ^ p - 1, j, 0⟩ : Ed) ∈ wideL ((2 : Int) ^ p - 1) (2 ^ p) G S := wideL_mem.2 ⟨s, j, h1, h2, h3, rfl⟩
    obtain ⟨i, hi, he⟩ := List.getElem_of_mem hm
    have hg : (wideL ((2 : Int) ^ p - 1) (2 ^ p) G S).getD i ed0 = ⟨s, s, (2 : Int) ^ p - 1, j, 0⟩ := by rw [List.getD_eq_getElem?_getD, List.getElem?_eq_getElem hi, he]; rfl
    refine ⟨i, hi, by rw [hg], ?_⟩
    rw [hg, fitN_bit, letB_one hp h2]
    simp [h2]
theorem fit_all {p : Nat} (hp : p ≤ 6) (j : Nat) : (fitN p ed0).testBit j = decide (j < 2 ^ p) := by
  rw [fitN_bit]
  by_cases h : j < 2 ^ p
  · rw [decide_eq_true h, letB_all (s := 0) (t := 0) (m := 0) hp h |> (fun e => (e : letB (j : Int) ed0 = true))]; rfl
  · rw [decide_eq_false h]; rfl
theorem wide_full {p G S : Nat} (hp : p ≤ 6) (hS : 1 ≤ S) : fullB p (wideL ((2 : Int) ^ p - 1) (2 ^ p) G S) S = false := by
  refine fullB_bad (s := 0) (by omega) fun h => ?_
  have h1 := wide_sets (G := G) (S := S) hp 0 0
  rw [h, fit_all hp, decide_eq_true (Nat.two_pow_pos p)] at h1
  have h2 := of_decide_eq_true h1.symm
  have h3 := h2.2.2
  rw [Nat.zero_mod] at h3
  omega
/-- What a state lacks: the letter 0 or nothing; the sink lacks all. -/
theorem wide_lack {p G S s : Nat} (hp : p ≤ 6) (hs : s < S) : diffN (fitN p ed0) (setX S (setsN p (wideL ((2 : Int) ^ p - 1) (2 ^ p) G S) (wideL ((2 : Int) ^ p - 1) (2 ^ p) G S).length) s) = if s % G = 0 then 1 else 0 := by
  apply Nat.eq_of_testBit_eq
  intro j
  rw [diffN_bit, fit_all hp]
  unfold setX
  rw [if_pos hs, wide_sets hp]
  have h2 := Nat.two_pow_pos p
  by_cases hg : s % G = 0
  · rw [if_pos hg, show (1 : Nat) = 2 ^ 0 from rfl, Nat.testBit_two_pow]
    by_cases hj : j = 0
    · subst hj; simp [h2, hs, hg]
    · rw [decide_eq_false (show ¬ 0 = j by omega)]
      by_cases hjp : j < 2 ^ p
      · simp [hjp, hs, hg]; omega
      · simp [hjp]
  · rw [if_neg hg, Nat.zero_testBit]
    by_cases hjp : j < 2 ^ p
    · simp [hjp, hs, hg]
    · simp [hjp]
theorem sink_lack {p S : Nat} (V : Nat → Nat) : diffN (fitN p ed0) (setX S V S) = fitN p ed0 := by
  unfold setX
  rw [if_neg (Nat.lt_irrefl S)]
  simp [diffN]
def cuT (x : Cu) : Nat × Nat × Nat := (x.c, x.b, x.l)
theorem cover_one (p : Nat) (hp : p ≤ 6) : (coverL 1 (allCubes p)).map cuT = [(2 ^ p - 1, 0, 1)] := by
  have : ∀ p : Fin 7, (coverL 1 (allCubes p.val)).map cuT = [(2 ^ p.val - 1, 0, 1)] := by decide +kernel
  exact this ⟨p, by omega⟩
theorem cover_all (p : Nat) (hp : p ≤ 6) : (coverL (fitN p ed0) (allCubes p)).map cuT = [(0, 0, fitN p ed0)] := by
  have : ∀ p : Fin 7, (coverL (fitN p.val ed0) (allCubes p.val)).map cuT = [(0, 0, fitN p.val ed0)] := by decide +kernel
  exact this ⟨p, by omega⟩
theorem toE_of {s S : Nat} {i : Int} {l : List Cu} {c b x : Nat} (h : l.map cuT = [(c, b, x)]) : l.map (toE s S i) = [⟨s, S, c, b, i⟩] := by
  obtain ⟨y, rfl, hy⟩ : ∃ y, l = [y] ∧ cuT y = (c, b, x) := by
    match l, h with
    | [y], h => exact ⟨y, rfl, by simpa using h⟩
  obtain ⟨yc, yb, yl⟩ := y
  injection hy with h1 h2
  injection h2 with h2 h3
  subst h1 h2
  rfl
/-- The states that lack a letter, among the first k. -/
def gapL (G k : Nat) : List Nat := (List.range k).filter fun s => decide (s % G = 0)
theorem wide_sink {p G S : Nat} (hp : p ≤ 6) (i : Int) (k : Nat) (hk : k ≤ S) : sinkL p S i (setX S (setsN p (wideL ((2 : Int) ^ p - 1) (2 ^ p) G S) (wideL ((2 : Int) ^ p - 1) (2 ^ p) G S).length)) k = (gapL G k).map fun s => ⟨s, S, (2 : Int) ^ p - 1, 0, i⟩ := by
  induction k with
  | zero => rfl
  | succ k ih =>
    rw [sinkL, ih (by omega)]
    unfold lackN gapL
    rw [wide_lack hp (by omega), List.range_succ, List.filter_append, List.map_append]
    congr 1
    by_cases hg : k % G = 0
    · rw [if_pos hg, toE_of (cover_one p hp), mask_int]
      simp [hg]
    · rw [if_neg hg, coverL_none]
      simp [hg]
theorem wide_sink_all {p G S : Nat} (hp : p ≤ 6) (i : Int) : sinkL p S i (setX S (setsN p (wideL ((2 : Int) ^ p - 1) (2 ^ p) G S) (wideL ((2 : Int) ^ p - 1) (2 ^ p) G S).length)) (S + 1) = ((gapL G S).map fun s => ⟨s, S, (2 : Int) ^ p - 1, 0, i⟩) ++ [⟨S, S, 0, 0, i⟩] := by
  rw [sinkL, wide_sink hp i S (Nat.le_refl S)]
  unfold lackN
  rw [sink_lack, toE_of (cover_all p hp)]
  rfl
/-- How many they are. -/
theorem gapL_len {G : Nat} (hG : 1 ≤ G) (k : Nat) : (gapL G k).length = (k + G - 1) / G := by
  induction k with
  | zero =>
    have : (0 + G - 1) / G = 0 := Nat.div_eq_of_lt (by omega)
    rw [this]; rfl
  | succ k ih =>
    have h : gapL G (k + 1) = gapL G k ++ (if k % G = 0 then [k] else []) := by
      unfold gapL
      rw [List.range_succ, List.filter_append]
      by_cases hg : k % G = 0 <;> simp [hg]
    rw [h, List.length_append, ih]
    have e1 := Nat.div_add_mod k G
    have hlt := Nat.mod_lt k (show 0 < G by omega)
    have a1 : (k + 1 + G - 1) / G = k / G + 1 := by
      rw [show k + 1 + G - 1 = k + G by omega, Nat.add_div_right _ (by omega)]
    rw [a1]
    obtain ⟨a, ha⟩ : ∃ a, k / G = a := ⟨_, rfl⟩
    obtain ⟨r, hr⟩ : ∃ r, k % G = r := ⟨_, rfl⟩
    rw [ha, hr] at e1
    rw [hr] at hlt
    rw [ha, hr]
    have m1 : (a + 1) * G = G * a + G := by rw [Nat.succ_mul, Nat.mul_comm]
    have m2 : (a + 1 + 1) * G = G * a + G + G := by rw [Nat.succ_mul, m1]
    by_cases hg : r = 0
    · rw [if_pos hg]
      have a2 : (k + G - 1) / G = a := Nat.div_eq_of_lt_le (by rw [Nat.mul_comm]; omega) (by rw [m1]; omega)
      rw [a2]; rfl
    · rw [if_neg hg]
      have a2 : (k + G - 1) / G = a + 1 := Nat.div_eq_of_lt_le (by rw [m1]; omega) (by rw [m2]; omega)
      rw [a2]; rfl

end Go.Proofs.Ytfblnadmbfhjiaa.Wd

namespace Go.Proofs.Ytfblnadmbfhjiaa.Wd
open Go Go.RowKit
set_option linter.unusedVariables false

theorem mask_andNot {p k : Nat} (hp : p ≤ 6) (hk : k < 2 ^ p) : bits .andNot .i64 (k : Int) ((2 : Int) ^ p - 1) = 0 := by
  have : ∀ p : Fin 7, ∀ k : Fin 64, k.val < 2 ^ p.val → bits .andNot .i64 (k.val : Int) (((2 ^ p.val - 1 : Nat)) : Int) = 0 := by decide +kernel
  have h64 := (pow_six hp).2
  rw [mask_int]
  exact this ⟨p, by omega⟩ ⟨k, by omega⟩ hk
theorem or_oth (K M : Int) : bits .or .i64 0 (othF K M) = othF K M := by
  unfold othF
  split <;> decide +kernel

theorem edB_of {P S M : Nat} {f t c b : Nat} {m : Int} (hf : f < S) (ht : t < S) (hc : (c : Int) < 2 ^ P) (hb : bits .andNot .i64 (b : Int) (c : Int) = 0) (hm : 0 ≤ m ∧ m < 2 ^ M) : edB P S M ⟨f, t, c, b, m⟩ = true := by
  unfold edB
  exact decide_eq_true ⟨⟨by show (0 : Int) ≤ (f : Int); omega, by show (f : Int) < (S : Int); omega⟩, ⟨by show (0 : Int) ≤ (t : Int); omega, by show (t : Int) < (S : Int); omega⟩, ⟨by show (0 : Int) ≤ (c : Int); omega, hc⟩, hb, hm⟩
theorem start_one {S : Nat} (hS : 1 ≤ S) : startB (S : Int) [0] = true := by
  unfold startB startP
  have e : (List.range [(0 : Int)].length) = [0] := rfl
  rw [e]
  simp [prv]
  omega
theorem mask_lt {p : Nat} : (((2 ^ p - 1 : Nat)) : Int) < 2 ^ p := by
  have := Nat.two_pow_pos p
  have h : ((2 : Int) ^ p) = ((2 ^ p : Nat) : Int) := by simp
  rw [h]
  omega

theorem aut_of {p S : Nat} {K M : Int} {st : List Int} {es : List Ed} (hp : p ≤ 6) (hS : S ≤ 3000) (h0 : 0 ≤ K) (h5 : K ≤ 5) (hM : marksB K M = true) (hst : startB (S : Int) st = true) (hl : es.length ≤ 40000) (he : ∀ e ∈ es, edB p S M.toNat e = true) : autB p S K M st es = true := by
  rw [autB_edges (by unfold headP; omega) hM hst, decide_eq_true hl]
  show edgesB (p : Int).toNat S M.toNat es = true
  rw [show (p : Int).toNat = p by omega]
  exact List.all_eq_true.2 he

theorem wide_valid {p S G : Nat} {K M : Int} (hp : p ≤ 6) (hS0 : 1 ≤ S) (hS : S ≤ 3000) (h0 : 0 ≤ K) (h5 : K ≤ 5) (hM : marksB K M = true) (hl : (wideL ((2 : Int) ^ p - 1) (2 ^ p) G S).length ≤ 40000) : autB p S K M [0] (wideL ((2 : Int) ^ p - 1) (2 ^ p) G S) = true := by
  refine aut_of hp hS h0 h5 hM (start_one hS0) hl fun e he => ?_
  obtain ⟨s, l, h1, h2, _, rfl⟩ := wideL_mem.1 he
  have hk := mask_andNot hp h2
  rw [mask_int] at hk ⊢
  have h2p : (0 : Int) < 2 ^ M.toNat := by
    have : ((2 : Int) ^ M.toNat) = ((2 ^ M.toNat : Nat) : Int) := by simp
    rw [this]
    have := Nat.two_pow_pos M.toNat
    omega
  exact edB_of h1 h1 mask_lt hk ⟨by decide, h2p⟩

/-- What Fill makes of it. -/
def fullL (p S G : Nat) (K M : Int) : List Ed := (wideL ((2 : Int) ^ p - 1) (2 ^ p) G S).map (orE (othF K M)) ++ (((gapL G S).map fun (s : Nat) => (⟨s, S, (2 : Int) ^ p - 1, 0, infF K M⟩ : Ed)) ++ [⟨S, S, 0, 0, infF K M⟩])
theorem fill_wide {p S G : Nat} {K M : Int} (hp : p ≤ 6) : fillL p S K M (wideL ((2 : Int) ^ p - 1) (2 ^ p) G S) = fullL p S G K M := by
  unfold fillL fullL
  rw [wide_sink_all hp]
theorem full_len {p S G : Nat} {K M : Int} (hG : 1 ≤ G) : (fullL p S G K M).length = (wideL ((2 : Int) ^ p - 1) (2 ^ p) G S).length + (S + G - 1) / G + 1 := by
  unfold fullL
  rw [List.length_append, List.length_append, List.length_map, List.length_map, gapL_len hG, List.length_singleton]
  omega
theorem gap_mem {G k s : Nat} : s ∈ gapL G k ↔ s < k ∧ s % G = 0 := by
  unfold gapL
  rw [List.mem_filter, List.mem_range, decide_eq_true_eq]
theorem full_mem {p S G : Nat} {K M : Int} {e : Ed} : e ∈ fullL p S G K M ↔ (∃ s l : Nat, s < S ∧ l < 2 ^ p ∧ (0 < l ∨ s % G ≠ 0) ∧ e = ⟨s, s, (2 : Int) ^ p - 1, l, othF K M⟩) ∨ (∃ s : Nat, s < S ∧ s % G = 0 ∧ e = ⟨s, S, (2 : Int) ^ p - 1, 0, infF K M⟩) ∨ e = ⟨S, S, 0, 0, infF K M⟩ := by
  unfold fullL
  rw [List.mem_append, List.mem_append, List.mem_map, List.mem_map, List.mem_singleton]
  constructor
  · rintro (⟨e', h1, rfl⟩ | ⟨s, h1, rfl⟩ | h1)
    · obtain ⟨s, l, h2, h3, h4, rfl⟩ := wideL_mem.1 h1
      refine .inl ⟨s, l, h2, h3, h4, ?_⟩
      unfold orE
      rw [or_oth]
    · obtain ⟨h2, h3⟩ := gap_mem.1 h1
      exact .inr (.inl ⟨s, h2, h3, rfl⟩)
    · exact .inr (.inr h1)
  · rintro (⟨s, l, h2, h3, h4, rfl⟩ | ⟨s, h2, h3, rfl⟩ | h1)
    · refine .inl ⟨⟨s, s, (2 : Int) ^ p - 1, l, 0⟩, wideL_mem.2 ⟨s, l, h2, h3, h4, rfl⟩, ?_⟩
      unfold orE
      rw [or_oth]
    · exact .inr (.inl ⟨s, gap_mem.2 ⟨h2, h3⟩, rfl⟩)
    · exact .inr (.inr h1)

/-- The marks that it uses are marks of it. -/
theorem marks_fit {K M : Int} (h0 : 0 ≤ K) (h5 : K ≤ 5) (hM : marksB K M = true) : marksB K (M + addF K M) = true ∧ (0 ≤ othF K M ∧ othF K M < 2 ^ (M + addF K M).toNat) ∧ (0 ≤ infF K M ∧ infF K M < 2 ^ (M + addF K M).toNat) := by
  have hr := marksB_few hM
  have hk : K = 0 ∨ K = 1 ∨ K = 2 ∨ K = 3 ∨ K = 4 ∨ K = 5 := by omega
  have key : ∀ K : Fin 6, ∀ m : Fin 41, marksB (K.val : Int) (m.val : Int) = true → marksB (K.val : Int) ((m.val : Int) + addF K.val m.val) = true ∧ (0 ≤ othF K.val m.val ∧ othF K.val m.val < 2 ^ ((m.val : Int) + addF K.val m.val).toNat) ∧ (0 ≤ infF K.val m.val ∧ infF K.val m.val < 2 ^ ((m.val : Int) + addF K.val m.val).toNat) := by decide +kernel
  obtain ⟨m, rfl⟩ := Int.eq_ofNat_of_zero_le hr.1
  obtain ⟨k, rfl⟩ := Int.eq_ofNat_of_zero_le h0
  exact key ⟨k, by omega⟩ ⟨m, by omega⟩ hM

theorem full_valid {p S G : Nat} {K M : Int} (hp : p ≤ 6) (hS0 : 1 ≤ S) (hS : S < 3000) (h0 : 0 ≤ K) (h5 : K ≤ 5) (hM : marksB K M = true) (hl : (fullL p S G K M).length ≤ 40000) : autB p ((S : Int) + 1) K (M + addF K M) [0] (fullL p S G K M) = true := by
  obtain ⟨m1, m2, m3⟩ := marks_fit h0 h5 hM
  have hst := start_one (S := S + 1) (by omega)
  have e1 : ((S + 1 : Nat) : Int) = (S : Int) + 1 := by omega
  rw [← e1]
  refine aut_of hp (by omega) h0 h5 m1 hst hl fun e he => ?_
  rcases full_mem.1 he with ⟨s, l, h2, h3, _, rfl⟩ | ⟨s, h2, _, rfl⟩ | rfl
  · have hk := mask_andNot hp h3
    rw [mask_int] at hk ⊢
    exact edB_of (by omega) (by omega) mask_lt hk m2
  · have hk := mask_andNot (k := 0) hp (Nat.two_pow_pos p)
    rw [mask_int] at hk ⊢
    exact edB_of (t := S) (b := 0) (by omega) (by omega) mask_lt hk m3
  · have h2p : ((0 : Nat) : Int) < 2 ^ p := by
      have : ((2 : Int) ^ p) = ((2 ^ p : Nat) : Int) := by simp
      rw [this]
      have := Nat.two_pow_pos p
      omega
    exact edB_of (f := S) (t := S) (c := 0) (b := 0) (by omega) (by omega) h2p (by decide +kernel) m3

theorem full_whole {p S G : Nat} {K M : Int} (hp : p ≤ 6) : fullB p (fullL p S G K M) (S + 1) = true := by
  refine (fullB_iff hp _).2 fun s hs l hl => ?_
  have key : ∀ e : Ed, e ∈ fullL p S G K M → e.f = (s : Int) → letB (l : Int) e = true → ∃ i, i < (fullL p S G K M).length ∧ ((fullL p S G K M).getD i ed0).f = (s : Int) ∧ letB (l : Int) ((fullL p S G K M).getD i ed0) = true := by
    intro e he hf hb
    obtain ⟨i, hi, h⟩ := List.getElem_of_mem he
    have hg : (fullL p S G K M).getD i ed0 = e := by rw [List.getD_eq_getElem?_getD, List.getElem?_eq_getElem hi, h]; rfl
    exact ⟨i, hi, by rw [hg]; exact hf, by rw [hg]; exact hb⟩
  by_cases h : s = S
  · subst h
    exact key ⟨s, s, 0, 0, infF K M⟩ (full_mem.2 (.inr (.inr rfl))) rfl (letB_all hp hl)
  · by_cases h2 : 0 < l ∨ s % G ≠ 0
    · exact key ⟨s, s, (2 : Int) ^ p - 1, l, othF K M⟩ (full_mem.2 (.inl ⟨s, l, by omega, hl, h2, rfl⟩)) rfl (by rw [letB_one hp hl]; simp)
    · obtain rfl : l = 0 := by omega
      have hz := letB_one (k := 0) (s := s) (t := S) (m := infF K M) hp hl
      exact key ⟨s, S, (2 : Int) ^ p - 1, 0, infF K M⟩ (full_mem.2 (.inr (.inl ⟨s, by omega, by omega, rfl⟩))) rfl (hz.trans (by simp))

end Go.Proofs.Ytfblnadmbfhjiaa.Wd
