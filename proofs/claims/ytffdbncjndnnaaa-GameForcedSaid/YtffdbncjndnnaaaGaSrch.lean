/-
  A search from a set, backwards over the moves: what holds between its steps.
-/
import Derived.Test.YtffdbncjndnnaaaGaKit
namespace Go.Proofs.Ytffdbncjndnnaaa.Wd
open Go.RowKit
set_option linter.unusedVariables false
set_option linter.unusedSimpArgs false

def updN {α : Type} (f : Nat → α) (v : Nat) (x : α) (u : Nat) : α := if u = v then x else f u
theorem updN_same {α : Type} (f : Nat → α) (v : Nat) (x : α) : updN f v x v = x := if_pos rfl
theorem updN_other {α : Type} (f : Nat → α) {v u : Nat} (x : α) (h : u ≠ v) : updN f v x u = f u := if_neg h
/-- The pair (w, v) is done too. -/
def updE (E : Nat → Nat → Bool) (w v : Nat) (y u : Nat) : Bool := if y = w ∧ u = v then true else E y u
/-- How many moves of v are done. -/
def cntE (X : Nat → List Int) (E : Nat → Nat → Bool) (v : Nat) : Nat := (X v).countP fun y => E y.toNat v

theorem countP_upd {w : Nat} {p : Nat → Bool} (hp : p w = false) : ∀ {l : List Int}, l.Nodup → (∀ y ∈ l, 0 ≤ y) → (w : Int) ∈ l → (l.countP fun y => if y.toNat = w then true else p y.toNat) = (l.countP fun y => p y.toNat) + 1
  | [], _, _, h => by cases h
  | y :: l, hnd, hpos, h => by
    obtain ⟨h1, h2⟩ := List.nodup_cons.1 hnd
    have hy := hpos y (List.mem_cons_self ..)
    by_cases e : y = (w : Int)
    · subst e
      have : (l.countP fun y => if y.toNat = w then true else p y.toNat) = l.countP fun y => p y.toNat := by
        refine List.countP_congr fun z hz => ?_
        have hz0 := hpos z (List.mem_cons_of_mem _ hz)
        have hne : z.toNat ≠ w := fun e => h1 (by rw [← e, Int.toNat_of_nonneg hz0]; exact hz)
        rw [if_neg hne]
      rw [List.countP_cons, List.countP_cons, this]
      simp [hp]
    · have hm : (w : Int) ∈ l := by
        rcases List.mem_cons.1 h with h | h
        · exact absurd h.symm e
        · exact h
      have ih := countP_upd hp h2 (fun z hz => hpos z (List.mem_cons_of_mem _ hz)) hm
      rw [List.countP_cons, List.countP_cons, ih, if_neg (show ¬ y.toNat = w by omega)]
      omega

theorem nodup_len : ∀ (n : Nat) (L : List Nat), L.Nodup → (∀ v ∈ L, v < n) → L.length ≤ n
  | 0, L, _, h => by
    cases L with
    | nil => simp
    | cons v L => exact absurd (h v (List.mem_cons_self ..)) (by omega)
  | n + 1, L, hnd, h => by
    have h1 := nodup_len n (L.erase n) (hnd.erase n) (fun v hv => by
      have := (List.Nodup.mem_erase_iff hnd).1 hv
      have := h v this.2
      omega)
    have h2 := List.length_erase (a := n) (l := L)
    split at h2 <;> omega

/-- own: whose turn it is at v is the player's. -/
structure Srch (own : Nat → Bool) (X : Nat → List Int) (T : Nat → Bool) (n : Nat) (E : Nat → Nat → Bool) (h k : Nat) (D M : Nat → Int) (L : List Nat) : Prop where
  nd : L.Nodup
  lt : ∀ v ∈ L, v < n
  mem : ∀ v, v < n → (0 ≤ D v ↔ v ∈ L)
  rng : ∀ v, v < n → -1 ≤ D v
  top : ∀ i, i < L.length → D (L.getD i 0) ≤ i
  srt : ∀ i j, i ≤ j → j < L.length → D (L.getD i 0) ≤ D (L.getD j 0)
  bnd : ∀ i j, h ≤ j → i < L.length → j < L.length → D (L.getD i 0) ≤ D (L.getD j 0) + 1
  mis : ∀ v, v < n → M v = (if own v then 1 else ((X v).length : Int)) - cntE X E v
  zero : ∀ v, v < n → (T v = true ↔ D v = 0)
  nf : ∀ v, v < n → D v = -1 → 1 ≤ M v
  own1 : ∀ v, v < n → own v = true → 0 < D v → ∃ y ∈ X v, D y.toNat = D v - 1
  own2 : ∀ v, v < n → own v = true → 0 < D v → ∀ y ∈ X v, 0 ≤ D y.toNat → D v - 1 ≤ D y.toNat
  oth1 : ∀ v, v < n → own v = false → 0 < D v → (∀ y ∈ X v, 0 ≤ D y.toNat ∧ D y.toNat ≤ D v - 1) ∧ ∃ y ∈ X v, D y.toNat = D v - 1
  old : ∀ i, i < h → i < L.length → ∀ v, v < n → ((L.getD i 0 : Nat) : Int) ∈ X v → E (L.getD i 0) v = true
  new : ∀ y v, E y v = true → ∃ i, i < k ∧ i < L.length ∧ L.getD i 0 = y

/-- The lists of successors are as they should be. -/
structure Rows1 (X : Nat → List Int) (n : Nat) : Prop where
  nd : ∀ v, v < n → (X v).Nodup
  rg : ∀ v, v < n → ∀ y ∈ X v, 0 ≤ y ∧ y < n
  ne : ∀ v, v < n → 1 ≤ (X v).length

theorem getD_inj {L : List Nat} (hnd : L.Nodup) {i j : Nat} (hi : i < L.length) (hj : j < L.length) (h : L.getD i 0 = L.getD j 0) : i = j := by
  simp only [List.getD_eq_getElem?_getD, List.getElem?_eq_getElem hi, List.getElem?_eq_getElem hj, Option.getD_some] at h
  exact (List.getElem_inj hnd).1 h
theorem getD_in {L : List Nat} {i : Nat} (hi : i < L.length) : L.getD i 0 ∈ L := by
  simp only [List.getD_eq_getElem?_getD, List.getElem?_eq_getElem hi, Option.getD_some]
  exact List.getElem_mem hi
theorem in_getD {L : List Nat} {v : Nat} (h : v ∈ L) : ∃ i, i < L.length ∧ L.getD i 0 = v := by
  obtain ⟨i, hi, e⟩ := List.getElem_of_mem h
  exact ⟨i, hi, by simp [List.getD_eq_getElem?_getD, List.getElem?_eq_getElem hi, e]⟩
theorem getD_app {L : List Nat} {v i : Nat} (hi : i < L.length) : (L ++ [v]).getD i 0 = L.getD i 0 := by
  simp [List.getD_eq_getElem?_getD, List.getElem?_append_left hi]
theorem getD_last {L : List Nat} {v : Nat} : (L ++ [v]).getD L.length 0 = v := by
  simp [List.getD_eq_getElem?_getD]

section
variable {own : Nat → Bool} {X : Nat → List Int} {T : Nat → Bool} {n : Nat} {E : Nat → Nat → Bool} {h k : Nat} {D M : Nat → Int} {L : List Nat}
theorem Srch.len (s : Srch own X T n E h k D M L) : L.length ≤ n := nodup_len n L s.nd s.lt
/-- The round of place h begins. -/
theorem Srch.enter (s : Srch own X T n E h h D M L) : Srch own X T n E h (h + 1) D M L :=
  { s with new := fun y v he => by obtain ⟨i, h1, h2⟩ := s.new y v he; exact ⟨i, by omega, h2⟩ }
theorem Srch.fresh (s : Srch own X T n E h h D M L) (hh : h < L.length) (v : Nat) : E (L.getD h 0) v = false := by
  cases he : E (L.getD h 0) v
  · rfl
  · obtain ⟨i, h1, h2, h3⟩ := s.new _ v he
    have := getD_inj s.nd h2 hh h3
    omega
/-- The round of place h is over. -/
theorem Srch.turn (s : Srch own X T n E h (h + 1) D M L) (hall : ∀ v, v < n → ((L.getD h 0 : Nat) : Int) ∈ X v → E (L.getD h 0) v = true) : Srch own X T n E (h + 1) (h + 1) D M L :=
  { s with
    bnd := fun i j h1 h2 h3 => s.bnd i j (by omega) h2 h3
    old := fun i h1 h2 v hv hm => by
      by_cases e : i = h
      · subst e; exact hall v hv hm
      · exact s.old i (by omega) h2 v hv hm }

theorem cntE_upd (hX : Rows1 X n) {w v : Nat} (hv : v < n) (hm : (w : Int) ∈ X v) (he : E w v = false) (u : Nat) : cntE X (updE E w v) u = if u = v then cntE X E v + 1 else cntE X E u := by
  by_cases e : u = v
  · subst e
    rw [if_pos rfl]
    have h1 := countP_upd (p := fun y => E y u) he (hX.nd u hv) (fun y hy => (hX.rg u hv y hy).1) hm
    unfold cntE
    rw [← h1]
    refine List.countP_congr fun y hy => ?_
    unfold updE
    by_cases e2 : y.toNat = w
    · rw [if_pos ⟨e2, rfl⟩, if_pos e2]
    · rw [if_neg (fun hh => e2 hh.1), if_neg e2]
  · rw [if_neg e]
    unfold cntE
    refine List.countP_congr fun y hy => ?_
    unfold updE
    rw [if_neg (fun hh => e hh.2)]

theorem Srch.mis' (s : Srch own X T n E h k D M L) (hX : Rows1 X n) {w v : Nat} (hv : v < n) (hm : (w : Int) ∈ X v) (he : E w v = false) :
    ∀ u, u < n → updN M v (M v - 1) u = (if own u then 1 else ((X u).length : Int)) - cntE X (updE E w v) u := fun u hu => by
  rw [cntE_upd hX hv hm he u]
  by_cases e : u = v
  · subst e
    rw [updN_same, if_pos rfl, s.mis u hu]
    omega
  · rw [updN_other _ _ e, if_neg e, s.mis u hu]
theorem Srch.new' (s : Srch own X T n E h (h + 1) D M L) (hh : h < L.length) {w v : Nat} (hw : L.getD h 0 = w) : ∀ y u, updE E w v y u = true → ∃ i, i < h + 1 ∧ i < L.length ∧ L.getD i 0 = y := fun y u he => by
  unfold updE at he
  split at he
  · rename_i e
    exact ⟨h, by omega, hh, by rw [hw, e.1]⟩
  · exact s.new y u he
theorem updE_mono {w v y u : Nat} (he : E y u = true) : updE E w v y u = true := by
  unfold updE
  split
  · rfl
  · exact he

/-- A move is done, and nothing is found. -/
theorem Srch.skip (s : Srch own X T n E h (h + 1) D M L) (hX : Rows1 X n) (hh : h < L.length) {w v : Nat} (hw : L.getD h 0 = w) (hv : v < n) (hm : (w : Int) ∈ X v) (he : E w v = false) (hno : M v - 1 ≠ 0 ∨ D v ≠ -1) :
    Srch own X T n (updE E w v) h (h + 1) D (updN M v (M v - 1)) L :=
  { s with
    mis := s.mis' hX hv hm he
    nf := fun u hu hd => by
      by_cases e : u = v
      · subst e
        rw [updN_same]
        have := s.nf u hu hd
        rcases hno with h1 | h1
        · omega
        · exact absurd hd h1
      · rw [updN_other _ _ e]
        exact s.nf u hu hd
    old := fun i h1 h2 u hu hm2 => updE_mono (s.old i h1 h2 u hu hm2)
    new := s.new' hh hw }

/-- What is found lies at places up to h. -/
theorem Srch.seen (s : Srch own X T n E h (h + 1) D M L) (hh : h < L.length) {y u : Nat} (he : E y u = true) (hn : n = n) : y ∈ L ∧ D y ≤ D (L.getD h 0) := by
  obtain ⟨i, h1, h2, h3⟩ := s.new y u he
  exact ⟨by rw [← h3]; exact getD_in h2, by rw [← h3]; exact s.srt i h (by omega) hh⟩

/-- A move is done, and its position is found. -/
theorem Srch.find (s : Srch own X T n E h (h + 1) D M L) (hX : Rows1 X n) (hh : h < L.length) {w v : Nat} (hw : L.getD h 0 = w) (hv : v < n) (hm : (w : Int) ∈ X v) (he : E w v = false) (h0 : M v - 1 = 0) (hd : D v = -1) :
    Srch own X T n (updE E w v) h (h + 1) (updN D v (D w + 1)) (updN M v (M v - 1)) (L ++ [v]) := by
  have hwL : w ∈ L := by rw [← hw]; exact getD_in hh
  have hwn := s.lt w hwL
  have hwD := (s.mem w hwn).2 hwL
  have hvL : v ∉ L := fun hv2 => by have := (s.mem v hv).2 hv2; omega
  have hne : ∀ u, u ∈ L → u ≠ v := fun u hu e => hvL (e ▸ hu)
  have hk : ∀ i, i < L.length → updN D v (D w + 1) (L.getD i 0) = D (L.getD i 0) := fun i hi => updN_other _ _ (hne _ (getD_in hi))
  have hb : ∀ i, i < L.length → D (L.getD i 0) ≤ D w + 1 := fun i hi => by rw [← hw]; exact s.bnd i h (Nat.le_refl _) hi hh
  have hlen := s.len
  have htop := s.top h hh
  rw [hw] at htop
  have hmis := s.mis' hX hv hm he v hv
  rw [updN_same] at hmis
  have hup : ∀ y : Int, 0 ≤ D y.toNat → updN D v (D w + 1) y.toNat = D y.toNat := fun y hy => updN_other _ _ (fun e => by rw [e, hd] at hy; omega)
  have hold : ∀ y ∈ X v, 0 ≤ D y.toNat → E y.toNat v = false → D w ≤ D y.toNat := fun y hy hy0 hey => by
    have hyr := hX.rg v hv y hy
    obtain ⟨i, hi, e⟩ := in_getD ((s.mem y.toNat (by omega)).1 hy0)
    by_cases hlt : i < h
    · have := s.old i hlt hi v hv (by rw [e, Int.toNat_of_nonneg hyr.1]; exact hy)
      rw [e, hey] at this
      cases this
    · rw [← e, ← hw]
      exact s.srt h i (by omega) hi
  refine ⟨?_, ?_, ?_, ?_, ?_, ?_, ?_, s.mis' hX hv hm he, ?_, ?_, ?_, ?_, ?_, ?_, ?_⟩
  · rw [List.nodup_append]
    refine ⟨s.nd, by simp, fun a ha b hb => ?_⟩
    rw [List.mem_singleton] at hb
    subst hb
    exact hne a ha
  · intro u hu
    rcases List.mem_append.1 hu with hu | hu
    · exact s.lt u hu
    · rw [List.mem_singleton] at hu; omega
  · intro u hu
    by_cases e : u = v
    · subst e
      rw [updN_same]
      exact ⟨fun _ => by simp, fun _ => by omega⟩
    · rw [updN_other _ _ e, s.mem u hu]
      simp [e]
  · intro u hu
    by_cases e : u = v
    · subst e; rw [updN_same]; omega
    · rw [updN_other _ _ e]; exact s.rng u hu
  · intro i hi
    rw [List.length_append, List.length_singleton] at hi
    by_cases e : i < L.length
    · rw [getD_app e, hk i e]; exact s.top i e
    · obtain rfl : i = L.length := by omega
      rw [getD_last, updN_same]
      omega
  · intro i j hij hj
    rw [List.length_append, List.length_singleton] at hj
    by_cases e : j < L.length
    · rw [getD_app e, getD_app (show i < L.length by omega), hk j e, hk i (by omega)]; exact s.srt i j hij e
    · obtain rfl : j = L.length := by omega
      rw [getD_last, updN_same]
      by_cases e2 : i < L.length
      · rw [getD_app e2, hk i e2]; exact hb i e2
      · obtain rfl : i = L.length := by omega
        rw [getD_last, updN_same]
        omega
  · intro i j hj hi hj2
    rw [List.length_append, List.length_singleton] at hi hj2
    have hge : D w ≤ updN D v (D w + 1) ((L ++ [v]).getD j 0) := by
      by_cases e : j < L.length
      · rw [getD_app e, hk j e, ← hw]; exact s.srt h j hj e
      · obtain rfl : j = L.length := by omega
        rw [getD_last, updN_same]; omega
    by_cases e2 : i < L.length
    · rw [getD_app e2, hk i e2]; have := hb i e2; omega
    · obtain rfl : i = L.length := by omega
      rw [getD_last, updN_same]; omega
  · intro u hu
    by_cases e : u = v
    · subst e
      rw [updN_same, s.zero u hu]
      omega
    · rw [updN_other _ _ e]; exact s.zero u hu
  · intro u hu hdu
    by_cases e : u = v
    · subst e; rw [updN_same] at hdu; omega
    · rw [updN_other _ _ e] at hdu ⊢; exact s.nf u hu hdu
  · intro u hu ho hdu
    by_cases e : u = v
    · subst e
      rw [updN_same]
      refine ⟨w, hm, ?_⟩
      rw [show ((w : Int)).toNat = w by omega, updN_other _ _ (hne w hwL)]
      omega
    · rw [updN_other _ _ e] at hdu ⊢
      obtain ⟨y, hy, hy2⟩ := s.own1 u hu ho hdu
      exact ⟨y, hy, by rw [hup y (by omega)]; exact hy2⟩
  · intro u hu ho hdu y hy hy0
    by_cases e : u = v
    · subst e
      rw [updN_same]
      by_cases e2 : y.toNat = u
      · rw [e2, updN_same]; omega
      · rw [updN_other _ _ e2] at hy0 ⊢
        have hyr := hX.rg u hu y hy
        by_cases e3 : y.toNat = w
        · rw [e3]; omega
        · have : D w ≤ D y.toNat := hold y hy hy0 (by
            cases hey : E y.toNat u
            · rfl
            · rw [s.mis u hu, if_pos ho] at h0
              have : 0 < cntE X E u := by
                unfold cntE
                exact List.countP_pos_iff.2 ⟨y, hy, hey⟩
              omega)
          omega
    · rw [updN_other _ _ e] at hdu ⊢
      by_cases e2 : y.toNat = v
      · rw [e2, updN_same]
        obtain ⟨i, hi, e3⟩ := in_getD ((s.mem u hu).1 (by omega))
        have := hb i hi
        rw [e3] at this
        omega
      · rw [updN_other _ _ e2] at hy0 ⊢
        exact s.own2 u hu ho hdu y hy hy0
  · intro u hu ho hdu
    by_cases e : u = v
    · subst e
      rw [updN_same]
      rw [if_neg (by rw [ho]; simp)] at hmis
      have hfull : (X u).countP (fun y => updE E w u y.toNat u) = (X u).length := by
        have : cntE X (updE E w u) u = (X u).countP fun y => updE E w u y.toNat u := rfl
        omega
      have hall := List.countP_eq_length.1 hfull
      refine ⟨fun y hy => ?_, w, hm, ?_⟩
      · have h1 := hall y hy
        obtain ⟨i, hi1, hi2, hi3⟩ := s.new' (v := u) hh hw y.toNat u h1
        have hyL : y.toNat ∈ L := by rw [← hi3]; exact getD_in hi2
        rw [updN_other _ _ (hne _ hyL)]
        have h2 := s.srt i h (by omega) hh
        rw [hi3, hw] at h2
        exact ⟨(s.mem _ (s.lt _ hyL)).2 hyL, by omega⟩
      · rw [show ((w : Int)).toNat = w by omega, updN_other _ _ (hne w hwL)]
        omega
    · rw [updN_other _ _ e] at hdu ⊢
      obtain ⟨h1, y, hy, hy2⟩ := s.oth1 u hu ho hdu
      exact ⟨fun y hy => by rw [hup y (h1 y hy).1]; exact h1 y hy, y, hy, by rw [hup y (h1 y hy).1]; exact hy2⟩
  · intro i h1 h2 u hu hm2
    rw [getD_app (show i < L.length by omega)] at hm2 ⊢
    exact updE_mono (s.old i h1 (by omega) u hu hm2)
  · intro y u he2
    obtain ⟨i, h1, h2, h3⟩ := s.new' hh hw y u he2
    exact ⟨i, h1, by rw [List.length_append]; omega, by rw [getD_app h2]; exact h3⟩

/-- All that is found has been looked at. -/
theorem Srch.over (s : Srch own X T n E h k D M L) (hX : Rows1 X n) (hh : L.length ≤ h) :
    (∀ v, v < n → D v ≤ n) ∧ (∀ v, v < n → own v = true → D v ≠ 0 → ∀ y ∈ X v, 0 ≤ D y.toNat → 0 < D v ∧ D v - 1 ≤ D y.toNat) ∧ (∀ v, v < n → own v = false → D v = -1 → ∃ y ∈ X v, D y.toNat = -1) := by
  have hE : ∀ v, v < n → ∀ y ∈ X v, 0 ≤ D y.toNat → E y.toNat v = true := fun v hv y hy hy0 => by
    have hyr := hX.rg v hv y hy
    obtain ⟨i, hi, e⟩ := in_getD ((s.mem y.toNat (by omega)).1 hy0)
    have := s.old i (by omega) hi v hv (by rw [e, Int.toNat_of_nonneg hyr.1]; exact hy)
    rwa [e] at this
  refine ⟨fun v hv => ?_, fun v hv ho hd y hy hy0 => ?_, fun v hv ho hd => ?_⟩
  · have hr := s.rng v hv
    by_cases h0 : 0 ≤ D v
    · obtain ⟨i, hi, e⟩ := in_getD ((s.mem v hv).1 h0)
      have := s.top i hi
      rw [e] at this
      have := s.len
      omega
    · omega
  · have hr := s.rng v hv
    have hpos : 0 < D v := by
      by_cases hm : D v = -1
      · have h1 := s.nf v hv hm
        rw [s.mis v hv, if_pos ho] at h1
        have : 0 < cntE X E v := by
          unfold cntE
          exact List.countP_pos_iff.2 ⟨y, hy, hE v hv y hy hy0⟩
        omega
      · omega
    exact ⟨hpos, s.own2 v hv ho hpos y hy hy0⟩
  · have h1 := s.nf v hv hd
    rw [s.mis v hv, if_neg (by rw [ho]; simp)] at h1
    have h2 : ¬ (X v).countP (fun y => E y.toNat v) = (X v).length := by
      have : cntE X E v = (X v).countP fun y => E y.toNat v := rfl
      omega
    rw [List.countP_eq_length] at h2
    have h3 : ∃ y ∈ X v, E y.toNat v = false := by
      refine Classical.byContradiction fun hc => h2 fun y hy => ?_
      cases hey : E y.toNat v
      · exact absurd ⟨y, hy, hey⟩ hc
      · rfl
    obtain ⟨y, hy, hey⟩ := h3
    have hyr := hX.rg v hv y hy
    have h4 := s.rng y.toNat (by omega)
    refine ⟨y, hy, ?_⟩
    by_cases h5 : 0 ≤ D y.toNat
    · rw [hE v hv y hy h5] at hey; cases hey
    · omega

/-- The search begins. -/
theorem Srch.start (hX : Rows1 X n) (hD : ∀ v, v < n → D v = if T v then 0 else -1) (hM : ∀ v, v < n → M v = if own v then 1 else ((X v).length : Int)) : Srch own X T n (fun _ _ => false) 0 0 D M ((List.range n).filter T) := by
  have hmem : ∀ v, v ∈ (List.range n).filter T ↔ v < n ∧ T v = true := fun v => by rw [List.mem_filter, List.mem_range]
  have hz : ∀ i, i < ((List.range n).filter T).length → D (((List.range n).filter T).getD i 0) = 0 := fun i hi => by
    obtain ⟨h1, h2⟩ := (hmem _).1 (getD_in hi)
    rw [hD _ h1, h2]; rfl
  have hc : ∀ v, cntE X (fun _ _ => false) v = 0 := fun v => by simp [cntE]
  have hnot : ∀ v, v < n → ¬ 0 < D v := fun v hv hp => by
    rw [hD v hv] at hp
    cases hT : T v <;> rw [hT] at hp <;> simp at hp
  refine ⟨List.nodup_range.filter _, fun v hv => ((hmem v).1 hv).1, fun v hv => ?_, fun v hv => ?_, fun i hi => by rw [hz i hi]; omega, fun i j hij hj => by rw [hz i (by omega), hz j hj]; omega, fun i j _ hi hj => by rw [hz i hi, hz j hj]; omega,
    fun v hv => by rw [hc v, hM v hv]; simp, fun v hv => ?_, fun v hv _ => ?_, fun v hv _ hp => absurd hp (hnot v hv), fun v hv _ hp => absurd hp (hnot v hv), fun v hv _ hp => absurd hp (hnot v hv), fun i hi => absurd hi (by omega), fun y v he => by cases he⟩
  · rw [hmem, hD v hv]
    cases hT : T v <;> simp [hv]
  · rw [hD v hv]
    cases T v <;> simp
  · rw [hD v hv]
    cases T v <;> simp
  · rw [hM v hv]
    have := hX.ne v hv
    split <;> omega
end

end Go.Proofs.Ytffdbncjndnnaaa.Wd
