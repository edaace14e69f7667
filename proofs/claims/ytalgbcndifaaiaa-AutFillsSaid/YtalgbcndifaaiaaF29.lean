/-
  The strongly connected parts: what holds on the way; rows of arcs. No function is walked here.
-/
import Derived.Test.YtalgbcndifaaiaaF28
namespace Go.Proofs.Ytalgbcndifaaiaa.Wd
open Go.RowKit Go.Deep
set_option linter.unusedVariables false

/-- The nodes below t have a number; those with one number can be reached from each other. -/
structure PInv (s : List Ac) (n : Nat) (O : Nat → Int) (m t : Nat) : Prop where
  range : ∀ j, j < n → O j = -1 ∨ (0 ≤ O j ∧ O j < m)
  done : ∀ j, j < t → j < n → 0 ≤ O j
  eqv : ∀ j k, j < n → k < n → 0 ≤ O j → (O j = O k ↔ Eqv s j k)
  few : m ≤ t
theorem PInv.start (s : List Ac) (n : Nat) : PInv s n (fun _ => -1) 0 0 := ⟨fun _ _ => .inl rfl, fun _ h => by omega, fun _ _ _ _ h => by omega, Nat.le_refl _⟩
theorem PInv.skip {s : List Ac} {n : Nat} {O : Nat → Int} {m t : Nat} (h : PInv s n O m t) (ht : 0 ≤ O t) : PInv s n O m (t + 1) :=
  ⟨h.range, (fun j hj hn => by
    by_cases e : j = t
    · rw [e]; exact ht
    · exact h.done j (by omega) hn), h.eqv, by have := h.few; omega⟩
/-- The part of i gets the number m. -/
def partO (F1 F2 : Nat → Bool) (m : Nat) (O : Nat → Int) (u j : Nat) : Int := if j < u ∧ F1 j = true ∧ F2 j = true then (m : Int) else O j
theorem PInv.step {s : List Ac} {n : Nat} {O : Nat → Int} {m t : Nat} {F1 F2 : Nat → Bool} (h : PInv s n O m t) (htn : t < n) (ht : O t = -1) (h1 : ∀ j, j < n → (F1 j = true ↔ Rc s t j)) (h2 : ∀ j, j < n → (F2 j = true ↔ Rc s j t)) :
    PInv s n (partO F1 F2 m O n) (m + 1) (t + 1) := by
  have key : ∀ j, j < n → ((j < n ∧ F1 j = true ∧ F2 j = true) ↔ Eqv s t j) := fun j hj => by
    rw [h1 j hj, h2 j hj]
    exact ⟨fun x => ⟨x.2.1, x.2.2⟩, fun x => ⟨hj, x.1, x.2⟩⟩
  refine ⟨fun j hj => ?_, fun j hj hjn => ?_, fun j k hj hk h0 => ?_, by have := h.few; omega⟩
  · unfold partO
    split
    · right; omega
    · rcases h.range j hj with h3 | h3
      · exact .inl h3
      · right; omega
  · unfold partO
    split
    · omega
    · rename_i hne
      by_cases e : j = t
      · subst e
        exact absurd ((key j hjn).2 (Eqv.refl s j)) hne
      · exact h.done j (by omega) hjn
  · unfold partO at h0 ⊢
    by_cases c1 : j < n ∧ F1 j = true ∧ F2 j = true
    · rw [if_pos c1]
      have e1 := (key j hj).1 c1
      by_cases c2 : k < n ∧ F1 k = true ∧ F2 k = true
      · rw [if_pos c2]
        exact ⟨fun _ => e1.symm.trans ((key k hk).1 c2), fun _ => rfl⟩
      · rw [if_neg c2]
        refine ⟨fun e => ?_, fun e => absurd ((key k hk).2 (e1.trans e)) c2⟩
        rcases h.range k hk with h3 | h3 <;> omega
    · rw [if_neg c1] at h0 ⊢
      by_cases c2 : k < n ∧ F1 k = true ∧ F2 k = true
      · rw [if_pos c2]
        refine ⟨fun e => ?_, fun e => ?_⟩
        · rcases h.range j hj with h3 | h3 <;> omega
        · have e2 := (key k hk).1 c2
          have h4 := (h.eqv j t hj htn h0).2 (e.trans e2.symm)
          omega
      · rw [if_neg c2]
        exact h.eqv j k hj hk h0

/-- What parts comes to: the numbers, how many there are. -/
structure PSpec (s : List Ac) (n : Nat) (O : Nat → Nat) (m : Nat) : Prop where
  range : ∀ j, j < n → O j < m
  eqv : ∀ j k, j < n → k < n → (O j = O k ↔ Eqv s j k)
  few : m ≤ n
theorem PInv.out {s : List Ac} {n : Nat} {O : Nat → Int} {m : Nat} (h : PInv s n O m n) : PSpec s n (fun j => (O j).toNat) m := by
  refine ⟨fun j hj => ?_, fun j k hj hk => ?_, h.few⟩
  · have := h.done j hj hj
    rcases h.range j hj with h3 | h3
    · omega
    · show (O j).toNat < m; omega
  · have h1 := h.done j hj hj
    have h2 := h.done k hk hk
    rw [← h.eqv j k hj hk h1]
    show (O j).toNat = (O k).toNat ↔ _
    omega

/-- Of the first k arcs those within the part p. -/
def innL (c : Cd) (O : Nat → Nat) (l : List Ac) (p k : Nat) : List Ac := (l.take k).filter fun a => okA c a && (decide (O a.f = O a.t) && decide (O a.f = p))
theorem innL_yes {c : Cd} {O : Nat → Nat} {l : List Ac} {k : Nat} {x : Ac} (hk : k < l.length) (hx : l.getD k ac0 = x) (h : okA c x = true) (h2 : O x.f = O x.t) : innL c O l (O x.f) (k + 1) = innL c O l (O x.f) k ++ [x] := by
  unfold innL
  rw [List.take_succ_eq_append_getElem hk, List.filter_append]
  rw [List.getD_eq_getElem?_getD, List.getElem?_eq_getElem hk] at hx
  simp only [Option.getD_some] at hx
  rw [hx]
  simp [h, h2]
theorem innL_no {c : Cd} {O : Nat → Nat} {l : List Ac} {p k : Nat} {x : Ac} (hk : k < l.length) (hx : l.getD k ac0 = x) (h : okA c x = false ∨ O x.f ≠ O x.t ∨ O x.f ≠ p) : innL c O l p (k + 1) = innL c O l p k := by
  unfold innL
  rw [List.take_succ_eq_append_getElem hk, List.filter_append]
  rw [List.getD_eq_getElem?_getD, List.getElem?_eq_getElem hk] at hx
  simp only [Option.getD_some] at hx
  rw [hx]
  rcases h with h | h | h <;> simp [h]
theorem innL_len (c : Cd) (O : Nat → Nat) (l : List Ac) (p k : Nat) : (innL c O l p k).length ≤ k := by
  unfold innL
  exact Nat.le_trans (List.length_filter_le _ _) (by rw [List.length_take]; omega)
theorem innL_mem {c : Cd} {O : Nat → Nat} {l : List Ac} {p k : Nat} (hk : l.length ≤ k) {a : Ac} : a ∈ innL c O l p k ↔ a ∈ sub c l ∧ O a.f = p ∧ O a.t = p := by
  unfold innL
  rw [List.take_of_length_le hk, List.mem_filter, mem_sub, Bool.and_eq_true, Bool.and_eq_true, decide_eq_true_iff, decide_eq_true_iff]
  constructor
  · rintro ⟨h1, h2, h3, h4⟩; exact ⟨⟨h1, h2⟩, h4, by rw [← h3]; exact h4⟩
  · rintro ⟨⟨h1, h2⟩, h3, h4⟩; exact ⟨h1, h2, by rw [h3, h4], h3⟩

/-- The first m cells of a block. -/
def CellsGe (w : World) (b m : Nat) (V : Nat → Value) : Prop := ∃ (c : Array Value) (t : TypeId), w.heap[b]? = some (.cells c t (0, 0)) ∧ m ≤ c.size ∧ ∀ i, i < m → c[i]? = some (V i)
namespace CellsGe
variable {w w' : World} {b m : Nat} {V V' : Nat → Value}
theorem cell (h : CellsGe w b m V) {i : Nat} (hi : i < m) : w.cell? ⟨b, i, none⟩ = some (V i) := by
  obtain ⟨c, t, hb, _, hc⟩ := h
  simp [World.cell?, hb, hc i hi]
theorem free (h : CellsGe w b m V) (i : Nat) : w.frozen? ⟨b, i, none⟩ = false := by
  obtain ⟨c, t, hb, _, _⟩ := h
  simp [World.frozen?, hb]
theorem lt (h : CellsGe w b m V) : b < w.heap.size := by
  obtain ⟨c, t, hb, _, _⟩ := h
  exact (Array.getElem?_eq_some_iff.1 hb).1
theorem of_block (h : CellsGe w b m V) (e : w'.heap[b]? = w.heap[b]?) : CellsGe w' b m V := by
  obtain ⟨c, t, hb, hn, hc⟩ := h
  exact ⟨c, t, e.trans hb, hn, hc⟩
theorem congr (h : CellsGe w b m V) (e : ∀ i, i < m → V i = V' i) : CellsGe w b m V' := by
  obtain ⟨c, t, hb, hn, hc⟩ := h
  exact ⟨c, t, hb, hn, fun i hi => by rw [hc i hi, e i hi]⟩
theorem set (h : CellsGe w b m V) (i : Nat) (v : Value) : CellsGe (w.setCell ⟨b, i, none⟩ v) b m (putV V i v) := by
  obtain ⟨c, t, hb, hn, hc⟩ := h
  refine ⟨c.setIfInBounds i v, t, ?_, by simpa using hn, fun j hj => ?_⟩
  · simp [World.setCell, Array.getElem?_modify, hb]
  · rw [Array.getElem?_setIfInBounds]
    unfold putV
    by_cases e : j = i
    · subst e
      rw [if_pos rfl, if_pos (by omega), if_pos rfl]
    · rw [if_neg (fun h => e h.symm), if_neg e]
      exact hc j hj
theorem of_own {B n : Nat} {e : TypeId} {v : Value} {xs : List Value} (h : w.ownsRow B e 1 v n xs) (hn : 0 < n) (hV : ∀ i, i < n → xs[i]? = some (V i)) : ∃ g cap, v = .slice (some ⟨g, 0, none⟩) n cap ∧ B ≤ g ∧ CellsGe w g n V := by
  rcases h.2 with ⟨_, h0⟩ | ⟨g, cap', cur, hv, hb, hg, h1, h2, h3, h4⟩
  · omega
  · refine ⟨g, cap', hv, hb, cur, e, hg, by omega, fun i hi => ?_⟩
    have h5 : (cur.toList.take (n * 1))[i]? = some (V i) := by rw [h4]; exact hV i hi
    rw [List.getElem?_take, if_pos (by omega), Array.getElem?_toList] at h5
    exact h5
theorem of_row {t : TypeId} (h : w.rowIs b t m V) : CellsGe w b m V := by
  obtain ⟨c, h1, h2, h3⟩ := h
  exact ⟨c, t, h1, by omega, h3⟩
end CellsGe

/-- S rows of arcs, own to the walk, each in a block of its own. -/
structure RowsA (B S : Nat) (w : World) (V : Nat → Value) (L : Nat → List Ac) : Prop where
  own : ∀ s, s < S → w.ownsRow B 63 4 (V s) (L s).length (acsV (L s))
  apt : ∀ s s', s < S → s' < S → s ≠ s' → Apt (V s) (V s')
theorem RowsA.start (B S : Nat) (w : World) : RowsA B S w (fun _ => .slice none 0 0) (fun _ => []) := ⟨fun s _ => World.ownsRow_nil _ _ _ _, fun _ _ _ _ _ => .inl rfl⟩
theorem RowsA.below {B S : Nat} {w w' : World} {V : Nat → Value} {L : Nat → List Ac} (h : RowsA B S w V L) (hb : Below w.heap.size w w') : RowsA B S w' V L := ⟨fun s hs => own_keep (h.own s hs) hb, h.apt⟩
theorem RowsA.put {B S : Nat} {w : World} {V : Nat → Value} {L : Nat → List Ac} (h : RowsA B S w V L) {a : Addr} (ha : a.block < B) (v : Value) : RowsA B S (w.setCell a v) V L := ⟨fun s hs => ownsRow_setCell_below (h.own s hs) ha v, h.apt⟩
theorem RowsA.lists {B S : Nat} {w : World} {V : Nat → Value} {L L' : Nat → List Ac} (h : RowsA B S w V L) (e : ∀ s, s < S → L s = L' s) : RowsA B S w V L' := ⟨fun s hs => by rw [← e s hs]; exact h.own s hs, h.apt⟩
def putA (L : Nat → List Ac) (f : Nat) (l : List Ac) (j : Nat) : List Ac := if j = f then l else L j
theorem RowsA.grow {B S f : Nat} {w w2 : World} {V : Nat → Value} {L : Nat → List Ac} {v v' : Value} {l : List Ac} {x : Ac} (h : RowsA B S w V L) (hf : f < S) (hl : V f = v ∧ L f = l)
    (hown : w2.ownsRow B 63 4 v' (l.length + 1) (acsV l ++ acV x)) (hg : w.grownBy w2 v.ownBlock) (hat : v'.ownBlock = v.ownBlock ∨ v'.ownBlock = some w.heap.size) :
    RowsA B S w2 (putV V f v') (putA L f (l ++ [x])) := by
  obtain ⟨rfl, rfl⟩ := hl
  refine ⟨fun s hs => ?_, fun s s' hs hs' hne => ?_⟩
  · unfold putV putA
    by_cases e : s = f
    · rw [if_pos e, if_pos e, List.length_append, acsV_snoc]; exact hown
    · rw [if_neg e, if_neg e]; exact (apt_grow (h.own s hs) (h.apt s f hs hf e) hg hat).1
  · unfold putV
    by_cases e : s = f
    · rw [if_pos e, if_neg (fun e' => hne (e.trans e'.symm))]
      exact (apt_grow (h.own s' hs') (h.apt s' f hs' hf (fun e' => hne (e.trans e'.symm))) hg hat).2.symm
    · rw [if_neg e]
      by_cases e' : s' = f
      · rw [if_pos e']; exact (apt_grow (h.own s hs) (h.apt s f hs hf e) hg hat).2
      · rw [if_neg e']; exact h.apt s s' hs hs' hne

/-- The numbers of the parts in memory; the arcs within them. -/
def OfAt (w : World) (lo hi bo n : Nat) (O : Nat → Nat) : Prop := lo ≤ bo ∧ bo < hi ∧ ∀ i, i < n → w.cell? ⟨bo, i, none⟩ = some (.int .i64 (O i : Nat))
def WithAt (w : World) (lo hi : Nat) (A : Option Addr) (m : Nat) (L : Nat → List Ac) : Prop :=
  0 < m → ∃ bw, A = some ⟨bw, 0, none⟩ ∧ lo ≤ bw ∧ bw < hi ∧ ∀ k, k < m → ∃ Ak ck, w.cell? ⟨bw, k, none⟩ = some (.slice Ak (L k).length ck) ∧ ArcsIn w lo hi Ak (L k).length (L k)
theorem OfAt.kept {w w' : World} {lo hi bo n : Nat} {O : Nat → Nat} (h : OfAt w lo hi bo n O) (hk : KeptIn lo hi w w') : OfAt w' lo hi bo n O := ⟨h.1, h.2.1, fun i hi => (World.cell?_of_block (a := ⟨bo, i, none⟩) (hk bo h.1 h.2.1)).trans (h.2.2 i hi)⟩
theorem WithAt.kept {w w' : World} {lo hi m : Nat} {A : Option Addr} {L : Nat → List Ac} (h : WithAt w lo hi A m L) (hk : KeptIn lo hi w w') : WithAt w' lo hi A m L := fun hm => by
  obtain ⟨bw, e, h1, h2, hc⟩ := h hm
  refine ⟨bw, e, h1, h2, fun k hkm => ?_⟩
  obtain ⟨Ak, ck, h3, h4⟩ := hc k hkm
  exact ⟨Ak, ck, (World.cell?_of_block (a := ⟨bw, k, none⟩) (hk bw h1 h2)).trans h3, h4.kept hk⟩
theorem KeptIn.below {lo hi : Nat} {w w' : World} (h : Below hi w w') : KeptIn lo hi w w' := fun j _ hj => h.block j hj
theorem WithAt.of_rows {w : World} {lo B bw m : Nat} {V : Nat → Value} {L : Nat → List Ac} (hc : CellsGe w bw m V) (hr : RowsA B m w V L) (h1 : lo ≤ bw) (h2 : lo ≤ B) : WithAt w lo w.heap.size (some ⟨bw, 0, none⟩) m L := fun hm => by
  refine ⟨bw, rfl, h1, hc.lt, fun k hk => ?_⟩
  have hown := hr.own k hk
  obtain ⟨A, c, hv, _⟩ := own_any hown
  refine ⟨A, c, by rw [hc.cell hk, hv], ?_⟩
  rw [hv] at hown
  exact (ArcsIn.of_own hown rfl).wide h2 (Nat.le_refl _)

end Go.Proofs.Ytalgbcndifaaiaa.Wd
