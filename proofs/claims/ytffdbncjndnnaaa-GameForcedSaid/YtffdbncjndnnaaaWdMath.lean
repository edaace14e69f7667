/-
  Plain facts on ultimately periodic words: the least eventual period of a loop, and that a normal form is determined by the letters alone. No program in it.
-/
namespace Go.Proofs.Ytffdbncjndnnaaa.Wd

/-- The letter at position k of the word of the stem s and the loop l. -/
def at_ (s l : List Int) (k : Nat) : Int := if k < s.length then s.getD k 0 else l.getD ((k - s.length) % l.length) 0

/-- From m on, f repeats after p. -/
def Ev (f : Nat → Int) (m p : Nat) : Prop := 0 < p ∧ ∀ n, m ≤ n → f (n + p) = f n

/-- The list l is its first p elements, repeated. -/
def Per (l : List Int) (p : Nat) : Prop := l.length % p = 0 ∧ ∀ i, p ≤ i → i < l.length → l.getD i 0 = l.getD (i - p) 0

/-- The least such p. -/
def Least (l : List Int) (p : Nat) : Prop := 1 ≤ p ∧ p ≤ l.length ∧ Per l p ∧ ∀ q, 1 ≤ q → q < p → ¬ Per l q

/-- s and l are the normal form of the letters f. -/
def NF (f : Nat → Int) (s l : List Int) : Prop :=
  (∀ k, at_ s l k = f k) ∧ 0 < l.length ∧ (∀ m p, Ev f m p → l.length ≤ p) ∧ ∀ m, Ev f m l.length → s.length ≤ m

theorem at_lt {s l : List Int} {k : Nat} (h : k < s.length) : at_ s l k = s.getD k 0 := by unfold at_; rw [if_pos h]
theorem at_ge {s l : List Int} {k : Nat} (h : s.length ≤ k) : at_ s l k = l.getD ((k - s.length) % l.length) 0 := by unfold at_; rw [if_neg (by omega)]
theorem at_add {s l : List Int} (i : Nat) : at_ s l (s.length + i) = l.getD (i % l.length) 0 := by
  rw [at_ge (by omega)]; congr 2; omega

theorem Ev.mul {f : Nat → Int} {m p : Nat} (h : Ev f m p) (n : Nat) (hn : m ≤ n) : ∀ k, f (n + p * k) = f n := by
  intro k
  induction k with
  | zero => simp
  | succ k ih =>
    rw [Nat.mul_succ, ← Nat.add_assoc, h.2 _ (by omega), ih]
theorem Ev.mono {f : Nat → Int} {m m' p : Nat} (h : Ev f m p) (hm : m ≤ m') : Ev f m' p := ⟨h.1, fun n hn => h.2 n (by omega)⟩
theorem Ev.sub {f : Nat → Int} {m p q : Nat} (hp : Ev f m p) (hq : Ev f m q) (h : q < p) : Ev f m (p - q) :=
  ⟨by omega, fun n hn => by
    rw [← hq.2 (n + (p - q)) (by omega), show n + (p - q) + q = n + p from by omega, hp.2 n hn]⟩
theorem Ev.gcd {f : Nat → Int} {m : Nat} : ∀ N p q, p + q ≤ N → Ev f m p → Ev f m q → Ev f m (Nat.gcd p q) := by
  intro N
  induction N with
  | zero => intro p q h hp _; have := hp.1; omega
  | succ N ih =>
    intro p q h hp hq
    have h1 := hp.1
    have h2 := hq.1
    rcases Nat.lt_trichotomy p q with hl | he | hg
    · have := ih p (q - p) (by omega) hp (hq.sub hp hl)
      rwa [Nat.gcd_sub_self_right (by omega)] at this
    · subst he; rw [Nat.gcd_self]; exact hp
    · have := ih (p - q) q (by omega) (hp.sub hq hg) hq
      rwa [Nat.gcd_sub_self_left (by omega)] at this

theorem ev_at (s l : List Int) (hl : 0 < l.length) : Ev (at_ s l) s.length l.length :=
  ⟨hl, fun n hn => by
    rw [at_ge (by omega), at_ge hn, show n + l.length - s.length = (n - s.length) + l.length from by omega, Nat.add_mod_right]⟩

theorem mod_step (l : List Int) (p : Nat) (hp : 0 < p) (h : Per l p) : ∀ i, i < l.length → l.getD i 0 = l.getD (i % p) 0 := by
  intro i
  induction i using Nat.strongRecOn with
  | ind i ih =>
    intro hi
    rcases Nat.lt_or_ge i p with hl | hg
    · rw [Nat.mod_eq_of_lt hl]
    · rw [h.2 i hg hi, ih (i - p) (by omega) (by omega), Nat.mod_eq_sub_mod hg]

/-- The least period of the loop is the least eventual period of the word. -/
theorem least_ev {s l : List Int} {P : Nat} (hP : Least l P) : ∀ m p, Ev (at_ s l) m p → P ≤ p := by
  intro m p h
  have hl : 0 < l.length := by have := hP.1; have := hP.2.1; omega
  have hq : Ev (at_ s l) (max m s.length) l.length := (ev_at s l hl).mono (by omega)
  have hg := Ev.gcd _ p l.length (Nat.le_refl _) (h.mono (m' := max m s.length) (by omega)) hq
  have hgp := Nat.gcd_le_left (m := p) l.length h.1
  have hgd : Nat.gcd p l.length ∣ l.length := Nat.gcd_dvd_right _ _
  generalize Nat.gcd p l.length = g at hg hgp hgd
  have hper : Per l g := by
    refine ⟨Nat.mod_eq_zero_of_dvd hgd, fun i hgi hil => ?_⟩
    have key : ∀ j, j < l.length → at_ s l (s.length + j + l.length * (max m s.length)) = l.getD j 0 := by
      intro j hj
      rw [(ev_at s l hl).mul (s.length + j) (by omega), at_add, Nat.mod_eq_of_lt hj]
    have hbig : max m s.length ≤ l.length * (max m s.length) := Nat.le_mul_of_pos_left _ hl
    rw [← key i hil, ← key (i - g) (by omega), ← hg.2 (s.length + (i - g) + l.length * (max m s.length)) (by omega)]
    congr 1
    omega
  rcases Nat.lt_or_ge g P with hlt | hge
  · exact absurd hper (hP.2.2.2 g hg.1 hlt)
  · omega

/-- Cutting the loop to its period keeps the letters. -/
theorem at_take {s l : List Int} {P : Nat} (hP : Least l P) (k : Nat) : at_ s (l.take P) k = at_ s l k := by
  have h1 := hP.1
  have h2 := hP.2.1
  unfold at_
  by_cases hk : k < s.length
  · rw [if_pos hk, if_pos hk]
  · rw [if_neg hk, if_neg hk]
    have hlen : (l.take P).length = P := by rw [List.length_take]; omega
    have hd : P ∣ l.length := Nat.dvd_of_mod_eq_zero hP.2.2.1.1
    have hlt : (k - s.length) % l.length < l.length := Nat.mod_lt _ (by omega)
    rw [mod_step l P (by omega) hP.2.2.1 _ hlt, Nat.mod_mod_of_dvd _ hd, hlen]
    have hlt' : (k - s.length) % P < P := Nat.mod_lt _ (by omega)
    simp only [List.getD_eq_getElem?_getD, List.getElem?_take]
    rw [if_pos hlt']

/-- A step back: the last letter of the stem goes to the front of the loop. -/
theorem at_step (s l : List Int) (x : Int) (k : Nat) : at_ s (x :: l) k = at_ (s ++ [x]) (l ++ [x]) k := by
  rcases Nat.lt_trichotomy k s.length with hk | hk | hk
  · rw [at_lt hk, at_lt (by simp; omega)]
    simp only [List.getD_eq_getElem?_getD, List.getElem?_append_left hk]
  · subst hk
    rw [at_ge (by omega), at_lt (by simp)]
    simp
  · rw [at_ge (by omega), at_ge (by simp; omega)]
    simp only [List.length_append, List.length_cons, List.length_nil, Nat.zero_add]
    obtain ⟨d, hd⟩ : ∃ d, k = s.length + 1 + d := ⟨k - s.length - 1, by omega⟩
    subst hd
    rw [show s.length + 1 + d - s.length = d + 1 from by omega, show s.length + 1 + d - (s.length + 1) = d from by omega]
    have hm : d % (l.length + 1) < l.length + 1 := Nat.mod_lt _ (by omega)
    rcases Nat.lt_or_ge (d % (l.length + 1)) l.length with h | h
    · rw [Nat.add_mod d 1]
      rcases Nat.eq_zero_or_pos l.length with h0 | h0
      · omega
      · rw [Nat.mod_eq_of_lt (show 1 < l.length + 1 by omega), Nat.mod_eq_of_lt (show d % (l.length + 1) + 1 < l.length + 1 by omega)]
        simp only [List.getD_eq_getElem?_getD, List.getElem?_cons_succ, List.getElem?_append_left h]
    · have he : d % (l.length + 1) = l.length := by omega
      have he' : (d + 1) % (l.length + 1) = 0 := by
        rw [Nat.add_mod, he]
        rcases Nat.eq_zero_or_pos l.length with h0 | h0
        · rw [h0]
        · rw [Nat.mod_eq_of_lt (show 1 < l.length + 1 by omega), Nat.mod_self]
      rw [he, he']
      simp

/-- When is a stem and a loop of the least length the normal form: the stem is empty, or its last letter is not the loop's. -/
theorem nf_of {f : Nat → Int} {s l : List Int} (hf : ∀ k, at_ s l k = f k) (hl : 0 < l.length) (hp : ∀ m p, Ev f m p → l.length ≤ p)
    (hs : s = [] ∨ s.getD (s.length - 1) 0 ≠ l.getD (l.length - 1) 0) : NF f s l := by
  refine ⟨hf, hl, hp, fun m hm => ?_⟩
  rcases Nat.lt_or_ge m s.length with h | h
  · exfalso
    rcases hs with rfl | hs
    · simp at h
    · apply hs
      have := hm.2 (s.length - 1) (by omega)
      rw [← hf, ← hf, show s.length - 1 + l.length = s.length + (l.length - 1) from by omega, at_add, at_lt (by omega), Nat.mod_eq_of_lt (by omega)] at this
      exact this.symm
  · exact h

theorem NF.unique {f : Nat → Int} {s l s' l' : List Int} (h : NF f s l) (h' : NF f s' l') : s = s' ∧ l = l' := by
  have e1 := ev_at s l h.2.1
  have e2 := ev_at s' l' h'.2.1
  have f1 : at_ s l = f := funext h.1
  have f2 : at_ s' l' = f := funext h'.1
  rw [f1] at e1
  rw [f2] at e2
  have hl : l.length = l'.length := Nat.le_antisymm (h.2.2.1 _ _ e2) (h'.2.2.1 _ _ e1)
  have hs : s.length = s'.length := Nat.le_antisymm (h.2.2.2 _ (by rw [hl]; exact e2)) (h'.2.2.2 _ (by rw [← hl]; exact e1))
  have hl0 := h.2.1
  constructor
  · apply List.ext_getElem hs
    intro i h1 h2
    have a := h.1 i
    have b := h'.1 i
    rw [at_lt h1] at a
    rw [at_lt h2] at b
    have := a.trans b.symm
    simpa [List.getD_eq_getElem?_getD, List.getElem?_eq_getElem h1, List.getElem?_eq_getElem h2] using this
  · apply List.ext_getElem hl
    intro i h1 h2
    have a := h.1 (s.length + i)
    have b := h'.1 (s.length + i)
    rw [at_add, Nat.mod_eq_of_lt h1, hs] at a
    rw [hs, at_add, Nat.mod_eq_of_lt h2] at b
    have := a.trans b.symm
    simpa [List.getD_eq_getElem?_getD, List.getElem?_eq_getElem h1, List.getElem?_eq_getElem h2] using this

/-- Two words with the same letters up to where both repeat together have the same letters. -/
theorem alike {s l s' l' : List Int} (hl : 0 < l.length) (hl' : 0 < l'.length)
    (h : ∀ k, k < max s.length s'.length + l.length * l'.length → at_ s l k = at_ s' l' k) : at_ s l = at_ s' l' := by
  funext k
  induction k using Nat.strongRecOn with
  | ind k ih =>
    rcases Nat.lt_or_ge k (max s.length s'.length + l.length * l'.length) with hk | hk
    · exact h k hk
    · have hp : 0 < l.length * l'.length := Nat.mul_pos hl hl'
      obtain ⟨d, rfl⟩ : ∃ d, k = d + l.length * l'.length := ⟨k - l.length * l'.length, by omega⟩
      rw [(ev_at s l hl).mul d (by omega)]
      have := (ev_at s' l' hl').mul d (by omega) l.length
      rw [Nat.mul_comm l.length l'.length, this]
      exact ih d (by omega)

end Go.Proofs.Ytffdbncjndnnaaa.Wd
