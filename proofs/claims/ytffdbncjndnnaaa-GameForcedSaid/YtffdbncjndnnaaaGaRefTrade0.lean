/-
  What holds while the two lists of a game are copied in any order.
-/
import Derived.Test.YtffdbncjndnnaaaGaSubM
namespace Go.Proofs.Ytffdbncjndnnaaa.Wd
open Go.RowKit
set_option linter.unusedVariables false

/-- Two rows and a box, each there or not. -/
structure Tw (s : Nat) (w1 W : World) (pa pb pc : Bool) (xa xb : Value) (la lb : List Int) (bd : Nat) : Prop where
  size : s ≤ W.heap.size
  below : Below s w1 W
  a : pa = true → W.ownsRow s 3 1 xa la.length (la.map (Value.int .i64))
  b : pb = true → W.ownsRow s 3 1 xb lb.length (lb.map (Value.int .i64))
  c : pc = true → W.heap[bd]? = some (.cells #[.slice none 0 0, .slice none 0 0, .slice none 0 0] 25 (0, 0)) ∧ s ≤ bd
  ab : pa = true → pb = true → Apt xa xb
  ca : pc = true → pa = true → xa.ownBlock ≠ some bd
  cb : pc = true → pb = true → xb.ownBlock ≠ some bd
section
variable {s : Nat} {w1 W w2 : World} {pa pb pc : Bool} {xa xb : Value} {la lb : List Int} {bd : Nat}
theorem Tw.swap (h : Tw s w1 W pa pb pc xa xb la lb bd) : Tw s w1 W pb pa pc xb xa lb la bd := ⟨h.size, h.below, h.b, h.a, h.c, fun h1 h2 => (h.ab h2 h1).symm, h.cb, h.ca⟩
theorem Tw.start (w1 : World) : Tw w1.heap.size w1 w1.drew false false false (.slice none 0 0) (.slice none 0 0) [] [] 0 :=
  ⟨Nat.le_refl _, (Below.refl _ _).drew, fun h => Bool.noConfusion h, fun h => Bool.noConfusion h, fun h => Bool.noConfusion h, fun h => Bool.noConfusion h, fun h => Bool.noConfusion h, fun h => Bool.noConfusion h⟩
theorem Tw.mkA (h : Tw s w1 W false pb pc xa xb la lb bd) : Tw s w1 (W.alloc (.cells #[] 3)) true pb pc (.slice (some ⟨W.heap.size, 0, none⟩) 0 0) xb [] lb bd := by
  have hb : Below W.heap.size W (W.alloc (.cells #[] 3)) := (Below.refl _ _).alloc (Nat.le_refl _) _
  have hs := h.size
  have hnew : W.heap.size = W.heap.size := rfl
  refine ⟨by rw [World.size_alloc]; omega, h.below.alloc hs _, fun _ => own_mono (lit0 W) hs, fun hp => own_keep (h.b hp) hb, fun hp => ⟨(hb.block _ (lt_of_heap (h.c hp).1)).trans (h.c hp).1, (h.c hp).2⟩, fun _ hp => (apt_new (h.b hp) (.inr ⟨_, rfl, Nat.le_refl _⟩)).symm, fun hp _ e => ?_, h.cb⟩
  have := lt_of_heap (h.c hp).1
  injection e with e
  have e2 : W.heap.size = bd := e
  omega
theorem Tw.growA {v' : Value} {l : List Int} {n : Nat} (h : Tw s w1 W true pb pc xa xb [] lb bd) (hl : l.length = n) (hown : w2.ownsRow s 3 1 v' (0 + n) ([] ++ l.map (Value.int .i64))) (hg : W.grownBy w2 xa.ownBlock) (hat : v'.ownBlock = xa.ownBlock ∨ v'.ownBlock = some W.heap.size) :
    Tw s w1 w2 true pb pc v' xb l lb bd := by
  subst hl
  rw [Nat.zero_add, List.nil_append] at hown
  have hb : Below s W w2 := below_own (h.a rfl) hg h.size
  refine ⟨Nat.le_trans h.size hg.size, h.below.trans hb, fun _ => hown, fun hp => (apt_grow (h.b hp) (h.ab rfl hp).symm hg hat).1, fun hp => ⟨(hg.block _ (lt_of_heap (h.c hp).1) (fun e => h.ca hp rfl e.symm)).trans (h.c hp).1, (h.c hp).2⟩, fun _ hp => (apt_grow (h.b hp) (h.ab rfl hp).symm hg hat).2.symm, fun hp _ e => ?_, h.cb⟩
  rcases hat with h1 | h1
  · exact h.ca hp rfl (h1 ▸ e)
  · rw [h1] at e
    injection e with e
    have := lt_of_heap (h.c hp).1
    omega
theorem Tw.mkC (h : Tw s w1 W pa pb false xa xb la lb bd) : Tw s w1 (W.alloc (.cells #[.slice none 0 0, .slice none 0 0, .slice none 0 0] 25)) pa pb true xa xb la lb W.heap.size := by
  have hb : Below W.heap.size W (W.alloc (.cells #[.slice none 0 0, .slice none 0 0, .slice none 0 0] 25)) := (Below.refl _ _).alloc (Nat.le_refl _) _
  have hs := h.size
  have far : ∀ (x : Value) n xs, W.ownsRow s 3 1 x n xs → x.ownBlock ≠ some W.heap.size := fun x n xs hx e => by
    have := (hx.lt _ e).2
    omega
  exact ⟨by rw [World.size_alloc]; omega, h.below.alloc hs _, fun hp => own_keep (h.a hp) hb, fun hp => own_keep (h.b hp) hb, fun _ => ⟨by rw [al_at, if_pos rfl], hs⟩, h.ab, fun _ hp => far _ _ _ (h.a hp), fun _ hp => far _ _ _ (h.b hp)⟩
/-- Both lists are there, and the box is written. -/
theorem Tw.done {G : Gm} (h : Tw s w1 W true true true xa xb G.O G.P bd) (v2 : Value) (hv : v2 = .slice none 0 0) :
    ∃ V, Bld s bd (((W.setCell ⟨bd, 0, none⟩ xa).setCell ⟨bd, 1, none⟩ xb).setCell ⟨bd, 2, none⟩ v2) V ⟨G.O, G.P, []⟩ := by
  subst hv
  have hc := (h.c rfl).1
  have ha := own_put' (own_put' (own_put' (h.a rfl) (a := ⟨bd, 0, none⟩) (h.ca rfl rfl) xa) (a := ⟨bd, 1, none⟩) (h.ca rfl rfl) xb) (a := ⟨bd, 2, none⟩) (h.ca rfl rfl) (.slice none 0 0)
  have hb := own_put' (own_put' (own_put' (h.b rfl) (a := ⟨bd, 0, none⟩) (h.cb rfl rfl) xa) (a := ⟨bd, 1, none⟩) (h.cb rfl rfl) xb) (a := ⟨bd, 2, none⟩) (h.cb rfl rfl) (.slice none 0 0)
  have hap := h.ab rfl rfl
  refine ⟨fun i => if i = 0 then xa else if i = 1 then xb else .slice none 0 0, ⟨⟨fun i hi => ?_, fun i j hi hj hne => ?_⟩, ⟨_, set_at (set_at (set_at hc xa) xb) (.slice none 0 0), rfl, rfl, rfl⟩, fun i hi => ?_⟩⟩
  · have hi3 : i = 0 ∨ i = 1 ∨ i = 2 := by simp at hi; omega
    rcases hi3 with rfl | rfl | rfl
    · rw [gL0, List.length_map]; exact ha
    · rw [gL1, List.length_map]; exact hb
    · rw [gL2]; exact World.ownsRow_nil _ _ _ _
  · have hi3 : i = 0 ∨ i = 1 ∨ i = 2 := by simp at hi; omega
    have hj3 : j = 0 ∨ j = 1 ∨ j = 2 := by simp at hj; omega
    rcases hi3 with rfl | rfl | rfl <;> rcases hj3 with rfl | rfl | rfl
    · exact absurd rfl hne
    · exact hap
    · exact Apt.symm (.inl rfl)
    · exact hap.symm
    · exact absurd rfl hne
    · exact Apt.symm (.inl rfl)
    · exact .inl rfl
    · exact .inl rfl
    · exact absurd rfl hne
  · have hi3 : i = 0 ∨ i = 1 ∨ i = 2 := by simp at hi; omega
    rcases hi3 with rfl | rfl | rfl
    · exact h.ca rfl rfl
    · exact h.cb rfl rfl
    · intro e; cases e
end

theorem lit0' (w : World) : (w.alloc (.cells #[] 3)).ownsRow w.heap.size 3 1 (.slice (some ⟨w.heap.size, 0, none⟩) 0 0) 0 [] := World.ownsRow_lit (size := 1) w #[] 0 (Nat.le_refl _) (by decide) rfl
/-- A row of successors was made beside the rows of the game that is built. -/
theorem Bld.beside {B bd : Nat} {w w2 : World} {V : Nat → Value} {H : Gm} {l : List Int} {n : Nat} {v3 : Value} (h : Bld B bd w V H) (hz : B ≤ w.heap.size) (hl : l.length = n) (hown : w2.ownsRow w.heap.size 3 1 v3 (0 + n) ([] ++ l.map (Value.int .i64)))
    (hg : (w.alloc (.cells #[] 3)).grownBy w2 (Value.slice (some ⟨w.heap.size, 0, none⟩) 0 0).ownBlock) :
    ∃ A3 c3, v3 = .slice A3 n c3 ∧ Below w.heap.size w w2 ∧ Bld B bd w2 V H ∧ Bes B bd w2 V (3 + H.X.length) (.slice A3 n c3) l := by
  subst hl
  rw [Nat.zero_add, List.nil_append] at hown
  obtain ⟨A3, c3, rfl, _⟩ := own_slice hown
  have hb3 : Below w.heap.size w w2 := ((Below.refl _ _).alloc (Nat.le_refl _) _).trans (below_own (lit0' w) hg (by rw [World.size_alloc]; omega))
  have hnew : (Value.slice A3 l.length c3).ownBlock = none ∨ ∃ b, (Value.slice A3 l.length c3).ownBlock = some b ∧ w.heap.size ≤ b := by
    rcases ho : (Value.slice A3 l.length c3).ownBlock with _ | b
    · exact .inl rfl
    · exact .inr ⟨b, rfl, (hown.lt b ho).1⟩
  refine ⟨A3, c3, rfl, hb3, h.below hb3, own_mono hown hz, fun s hs => apt_new (h.fam.own s hs) hnew, fun e => ?_⟩
  rcases hnew with e1 | ⟨b, e1, hle⟩
  · rw [e1] at e; cases e
  · rw [e1] at e
    injection e with e
    have := h.lt
    omega
/-- A row of one number, just made. -/
theorem Bld.lit {B bd : Nat} {w : World} {V : Nat → Value} {H : Gm} (h : Bld B bd w V H) (hz : B ≤ w.heap.size) (u : Int) :
    Bld B bd (w.alloc (.cells #[.int .i64 u] 3)) V H ∧ Bes B bd (w.alloc (.cells #[.int .i64 u] 3)) V (3 + H.X.length) (.slice (some ⟨w.heap.size, 0, none⟩) 1 1) [u] := by
  have hb : Below w.heap.size w (w.alloc (.cells #[.int .i64 u] 3)) := (Below.refl _ _).alloc (Nat.le_refl _) _
  refine ⟨h.below hb, World.ownsRow_lit (size := 1) w #[.int .i64 u] 1 hz (by decide) rfl, fun s hs => apt_new (h.fam.own s hs) (.inr ⟨_, rfl, Nat.le_refl _⟩), fun e => ?_⟩
  injection e with e
  have e2 : w.heap.size = bd := e
  have := h.lt
  omega

theorem val_new' (w : World) {s : Nat} (h : w.heap.size = s) (x : Value) (t : TypeId) : ∀ j u, [x][j]? = some u → (w.alloc (.cells #[x] t)).cell? ((⟨s, 0, none⟩ : Addr).add j) = some u := by
  subst h
  exact val_new w x t

end Go.Proofs.Ytffdbncjndnnaaa.Wd
