/-
  A word's box while a text is read: what lies in it, and that it grows letter by letter.
-/
import Derived.Test.YteidikkeoaolgaaDoorWdAppend
import Derived.Test.YteidikkeoaolgaaDoorWdPrint
namespace Go.Proofs.YteidikkeoaolgaaDoor.Wd
open Go.RowKit
set_option linter.unusedVariables false

/-- Block b holds a word of the stem S and the loop L: at place 0 the stem still grows, behind it the loop. -/
structure RdS (b : Nat) (w : World) (p : Nat) (A : Option Addr) (n c : Nat) (B : Option Addr) (m d : Nat) (S L : List Int) : Prop where
  size : b < w.heap.size
  hn : n = S.length
  hm : m = L.length
  hc : n ≤ c
  hd : m ≤ d
  c0 : w.cell? ⟨b, 0, none⟩ = some (.slice A n c)
  c1 : w.cell? ⟨b, 1, none⟩ = some (.slice B m d)
  f0 : w.frozen? ⟨b, 0, none⟩ = false
  f1 : w.frozen? ⟨b, 1, none⟩ = false
  zero : p = 0 → w.ownsRow (b + 1) 3 1 (.slice A n c) n (S.map (Value.int .i64)) ∧ B = none ∧ m = 0 ∧ d = 0
  more : p ≠ 0 → ∃ B1, b < B1 ∧ B1 ≤ w.heap.size ∧ IntsAt w B1 A n S ∧ w.ownsRow B1 3 1 (.slice B m d) m (L.map (Value.int .i64))

theorem own_below {B : Nat} {e : TypeId} {k : Nat} {v : Value} {n : Nat} {xs : List Value} {w w' : World} (h : w.ownsRow B e k v n xs) (hb : Below w.heap.size w w') : w'.ownsRow B e k v n xs :=
  h.kept (row := none) ⟨hb.os, hb.tape, hb.output, hb.size, fun j hj _ => hb.block j hj⟩ (by cases hv : v.ownBlock <;> simp)

section
variable {b p n c m d : Nat} {A B : Option Addr} {S L : List Int} {w w' : World}

theorem RdS.start (w : World) : RdS w.heap.size (w.alloc (.cells #[.slice none 0 0, .slice none 0 0] 24)) 0 none 0 0 none 0 0 [] [] where
  size := by simp
  hn := rfl
  hm := rfl
  hc := Nat.le_refl _
  hd := Nat.le_refl _
  c0 := by rw [box_last]; rfl
  c1 := by rw [box_last]; rfl
  f0 := box_last_free _ _ _ _
  f1 := box_last_free _ _ _ _
  zero := fun _ => ⟨World.ownsRow_nil _ _ _ _, rfl, rfl, rfl⟩
  more := fun h => absurd rfl h

theorem RdS.below (h : RdS b w p A n c B m d S L) (hb : Below w.heap.size w w') : RdS b w' p A n c B m d S L where
  size := Nat.lt_of_lt_of_le h.size hb.size
  hn := h.hn
  hm := h.hm
  hc := h.hc
  hd := h.hd
  c0 := (hb.cell h.size).trans h.c0
  c1 := (hb.cell h.size).trans h.c1
  f0 := (hb.frozen h.size).trans h.f0
  f1 := (hb.frozen h.size).trans h.f1
  zero := fun e => ⟨own_below (h.zero e).1 hb, (h.zero e).2⟩
  more := fun e => by
    obtain ⟨B1, h1, h2, h3, h4⟩ := h.more e
    exact ⟨B1, h1, Nat.le_trans h2 hb.size, h3.below (hb.mono h2), own_below h4 hb⟩

theorem RdS.opened (h : RdS b w 0 A n c B m d S L) : RdS b w 1 A n c B m d S L where
  size := h.size
  hn := h.hn
  hm := h.hm
  hc := h.hc
  hd := h.hd
  c0 := h.c0
  c1 := h.c1
  f0 := h.f0
  f1 := h.f1
  zero := fun e => by cases e
  more := fun _ => by
    obtain ⟨h1, rfl, rfl, rfl⟩ := h.zero rfl
    have hL : L = [] := List.eq_nil_of_length_eq_zero h.hm.symm
    subst hL
    exact ⟨w.heap.size, h.size, Nat.le_refl _, (Ints.of_own h1).atB (Nat.le_refl _), World.ownsRow_nil _ _ _ _⟩

theorem RdS.closed (h : RdS b w 1 A n c B m d S L) : RdS b w 2 A n c B m d S L where
  size := h.size
  hn := h.hn
  hm := h.hm
  hc := h.hc
  hd := h.hd
  c0 := h.c0
  c1 := h.c1
  f0 := h.f0
  f1 := h.f1
  zero := fun e => by cases e
  more := fun _ => h.more (by decide)

/-- What both slices hold, at the end. -/
theorem RdS.ints (h : RdS b w p A n c B m d S L) : Ints w A n S ∧ Ints w B m L := by
  by_cases e : p = 0
  · obtain ⟨h1, rfl, rfl, rfl⟩ := h.zero e
    have hL : L = [] := List.eq_nil_of_length_eq_zero h.hm.symm
    subst hL
    exact ⟨Ints.of_own h1, Ints.none_⟩
  · obtain ⟨B1, h1, h2, h3, h4⟩ := h.more e
    refine ⟨⟨h3.1, fun hn => ?_⟩, Ints.of_own h4⟩
    obtain ⟨g, off, e, hlt, hc⟩ := h3.2 hn
    exact ⟨g, off, e, by omega, hc⟩

/-- A letter behind the stem. -/
theorem RdS.put0 {w1 w2 : World} {A' : Option Addr} {c' : Nat} {x : Int} (h : RdS b w 0 A n c B m d S L) (hb : Below w.heap.size w w1)
    (hown : w2.ownsRow (b + 1) 3 1 (.slice A' (n + 1) c') (n + 1) (S.map (Value.int .i64) ++ [x].map (Value.int .i64))) (hgrow : w1.grownBy w2 (Value.slice A n c).ownBlock) :
    RdS b (w2.setCell ⟨b, 0, none⟩ (.slice A' (n + 1) c')) 0 A' (n + 1) c' B m d (S ++ [x]) L ∧ Below b w (w2.setCell ⟨b, 0, none⟩ (.slice A' (n + 1) c')) := by
  have hs : b + 1 ≤ w1.heap.size := Nat.le_trans h.size hb.size
  have h0 := h.below hb
  have hbel : Below (b + 1) w1 w2 := below_own (h0.zero rfl).1 hgrow hs
  have hlt : b < w2.heap.size := Nat.lt_of_lt_of_le hs hbel.size
  have g0 := (hbel.cell (p := ⟨b, 0, none⟩) (Nat.lt_succ_self b)).trans h0.c0
  have g1 := (hbel.cell (p := ⟨b, 1, none⟩) (Nat.lt_succ_self b)).trans h0.c1
  have g2 := (hbel.frozen (p := ⟨b, 0, none⟩) (Nat.lt_succ_self b)).trans h0.f0
  have g3 := (hbel.frozen (p := ⟨b, 1, none⟩) (Nat.lt_succ_self b)).trans h0.f1
  obtain ⟨_, _, hce, hcc⟩ := own_slice hown
  refine ⟨⟨by simpa [World.setCell] using hlt, by rw [List.length_append, h.hn]; rfl, h.hm, ?_, h.hd, World.cell?_setCell_same _ _ _ g0, (World.cell?_setCell_other w2 ⟨b, 0, none⟩ ⟨b, 1, none⟩ _ (by simp)).trans g1, by simp [go_sem, g2], by simp [go_sem, g3], fun _ => ⟨?_, (h.zero rfl).2⟩, fun e => absurd rfl e⟩, ?_⟩
  · cases hce
    exact hcc
  · rw [List.map_append]
    exact ownsRow_setCell_below hown (Nat.lt_succ_self b) _
  · have t1 : Below b w w1 := hb.mono (by have := h.size; omega)
    have t2 : Below b w1 w2 := hbel.mono (by omega)
    exact (t1.trans t2).setCell (p := ⟨b, 0, none⟩) (Nat.le_refl _) _

/-- A letter behind the loop. -/
theorem RdS.put1 {w1 w2 : World} {B1 : Nat} {B' : Option Addr} {d' : Nat} {x : Int} (h : RdS b w 1 A n c B m d S L) (hB1 : b < B1) (hB2 : B1 ≤ w.heap.size) (hI : IntsAt w B1 A n S) (hrow : w.ownsRow B1 3 1 (.slice B m d) m (L.map (Value.int .i64))) (hb : Below w.heap.size w w1)
    (hown : w2.ownsRow B1 3 1 (.slice B' (m + 1) d') (m + 1) (L.map (Value.int .i64) ++ [x].map (Value.int .i64))) (hgrow : w1.grownBy w2 (Value.slice B m d).ownBlock) :
    RdS b (w2.setCell ⟨b, 1, none⟩ (.slice B' (m + 1) d')) 1 A n c B' (m + 1) d' S (L ++ [x]) ∧ Below b w (w2.setCell ⟨b, 1, none⟩ (.slice B' (m + 1) d')) := by
  have hs : B1 ≤ w1.heap.size := Nat.le_trans hB2 hb.size
  have h0 := h.below hb
  have hbel : Below B1 w1 w2 := below_own (own_below hrow hb) hgrow hs
  have hlt : b < w2.heap.size := Nat.lt_of_lt_of_le h0.size hbel.size
  have g0 := (hbel.cell (p := ⟨b, 0, none⟩) hB1).trans h0.c0
  have g1 := (hbel.cell (p := ⟨b, 1, none⟩) hB1).trans h0.c1
  have g2 := (hbel.frozen (p := ⟨b, 0, none⟩) hB1).trans h0.f0
  have g3 := (hbel.frozen (p := ⟨b, 1, none⟩) hB1).trans h0.f1
  obtain ⟨_, _, hce, hcc⟩ := own_slice hown
  refine ⟨⟨by simpa [World.setCell] using hlt, h.hn, by rw [List.length_append, h.hm]; rfl, h.hc, ?_, (World.cell?_setCell_other w2 ⟨b, 1, none⟩ ⟨b, 0, none⟩ _ (by simp)).trans g0, World.cell?_setCell_same _ _ _ g1, by simp [go_sem, g2], by simp [go_sem, g3], (fun e => by cases e), fun _ => ⟨B1, hB1, by have := hbel.size; simp [World.setCell]; omega, ⟨hI.1, fun hn => ?_⟩, ?_⟩⟩, ?_⟩
  · cases hce
    exact hcc
  · obtain ⟨g, off, e, hl, hc⟩ := ((hI.below (hb.mono hB2)).below hbel).2 hn
    refine ⟨g, off, e, hl, fun j hj => (World.cell?_setCell_other w2 ⟨b, 1, none⟩ _ _ ?_).trans (hc j hj)⟩
    intro he
    have hx := hc j hj
    rw [← he, g1] at hx
    injection hx with hx
    cases hx
  · rw [List.map_append]
    exact ownsRow_setCell_below hown hB1 _
  · have t1 : Below b w w1 := hb.mono (by have := h.size; omega)
    have t2 : Below b w1 w2 := hbel.mono (by omega)
    exact (t1.trans t2).setCell (p := ⟨b, 1, none⟩) (Nat.le_refl _) _
end

end Go.Proofs.YteidikkeoaolgaaDoor.Wd
