/-
  Trade of package game.
-/
import Derived.Test.YtffdbncjndnnaaaGaSubM
namespace Go.Proofs.Ytffdbncjndnnaaa.Wd
open Go.RowKit
set_option linter.unusedVariables false
set_option linter.unusedSimpArgs false

/-- Is the choice of position v one that player p makes? -/
def chB (G : Gm) (ch : List Int) (p : Int) (v : Nat) : Bool := decide (G.O.getD v 0 = p) && !decide (ch.getD v 0 = -1)
/-- The successors of position v behind the trade. -/
def rowT (G : Gm) (ch : List Int) (p : Int) (v : Nat) : List Int := if chB G ch p v then [ch.getD v 0] else G.X.getD v []
/-- Is the choice of position v valid? -/
def okT (G : Gm) (ch : List Int) (p : Int) (v : Nat) : Bool := !chB G ch p v || hasB (G.X.getD v []) (ch.getD v 0)
def tradeF (G : Gm) (ch : List Int) (p : Int) : Gm := ⟨G.O, G.P, (List.range G.X.length).map (rowT G ch p)⟩
def tradeG (G : Gm) (ch : List Int) (p : Int) : Gm := if gmB G then (if plB p then (if ch.length = G.X.length then (if allB G.X.length (okT G ch p) then tradeF G ch p else gm0) else gm0) else gm0) else gm0
def tradeC (G : Gm) (ch : List Int) (p : Int) : Int := if gmB G then (if plB p then (if ch.length = G.X.length then (if allB G.X.length (okT G ch p) then 0 else 6) else 2) else 6) else 1
theorem trade_bad {G : Gm} {ch : List Int} {p : Int} (h : gmB G = false) : tradeG G ch p = gm0 ∧ tradeC G ch p = 1 := by unfold tradeG tradeC; rw [h]; exact ⟨rfl, rfl⟩
theorem trade_pl {G : Gm} {ch : List Int} {p : Int} (h : gmB G = true) (h2 : plB p = false) : tradeG G ch p = gm0 ∧ tradeC G ch p = 6 := by unfold tradeG tradeC; rw [h, h2]; exact ⟨rfl, rfl⟩
theorem trade_dim {G : Gm} {ch : List Int} {p : Int} (h : gmB G = true) (h2 : plB p = true) (h3 : ¬ ch.length = G.X.length) : tradeG G ch p = gm0 ∧ tradeC G ch p = 2 := by
  unfold tradeG tradeC
  rw [h, h2, if_pos rfl, if_pos rfl, if_pos rfl, if_pos rfl, if_neg h3, if_neg h3]
  exact ⟨rfl, rfl⟩
theorem trade_no {G : Gm} {ch : List Int} {p : Int} (h : gmB G = true) (h2 : plB p = true) (h3 : ch.length = G.X.length) (h4 : allB G.X.length (okT G ch p) = false) : tradeG G ch p = gm0 ∧ tradeC G ch p = 6 := by
  unfold tradeG tradeC
  rw [h, h2, if_pos rfl, if_pos rfl, if_pos rfl, if_pos rfl, if_pos h3, if_pos h3, h4]
  exact ⟨rfl, rfl⟩
theorem trade_good {G : Gm} {ch : List Int} {p : Int} (h : gmB G = true) (h2 : plB p = true) (h3 : ch.length = G.X.length) (h4 : allB G.X.length (okT G ch p) = true) : tradeG G ch p = tradeF G ch p ∧ tradeC G ch p = 0 := by
  unfold tradeG tradeC
  rw [h, h2, if_pos rfl, if_pos rfl, if_pos rfl, if_pos rfl, if_pos h3, if_pos h3, h4]
  exact ⟨rfl, rfl⟩
theorem tradeF_len (G : Gm) (ch : List Int) (p : Int) : (tradeF G ch p).X.length = G.X.length := by simp [tradeF]
theorem tradeF_at (G : Gm) (ch : List Int) (p : Int) {v : Nat} (h : v < G.X.length) : (tradeF G ch p).X.getD v [] = rowT G ch p v := by
  simp [tradeF, List.getD_eq_getElem?_getD, h]

/-- While Trade runs: the copy, whose rows below j are traded. -/
structure TrS (s n j : Nat) (G : Gm) (ch : List Int) (q : Int) (W w : World) (b1 b2 b3 bd : Nat) : Prop where
  below : Below s W w
  box : w.heap[bd]? = some (.cells #[.slice (some ⟨b1, 0, none⟩) n n, .slice (some ⟨b2, 0, none⟩) n n, .slice (some ⟨b3, 0, none⟩) n n] 25 (0, 0))
  o : w.rowIs b1 3 n (fun i => .int .i64 (G.O.getD i 0))
  p : w.rowIs b2 3 n (fun i => .int .i64 (G.P.getD i 0))
  x : ∃ V, w.rowIs b3 22 n V ∧ ∀ i, i < n → ∃ bi l, l = (if i < j then rowT G ch q i else G.X.getD i []) ∧ V i = .slice (some ⟨bi, 0, none⟩) l.length l.length ∧ s + 6 ≤ bi ∧ w.heap[bi]? = some (.cells (l.map (Value.int .i64)).toArray 3 (0, 0))
  ne : b1 ≠ b2 ∧ b1 ≠ b3 ∧ b2 ≠ b3 ∧ bd ≠ b3
  ge : s + 2 ≤ b1 ∧ s + 2 ≤ b2 ∧ s + 2 ≤ b3 ∧ s + 2 ≤ bd
  lt : b1 < s + 6 ∧ b2 < s + 6 ∧ b3 < s + 6
theorem Cop.trs {n : Nat} {G : Gm} {ch : List Int} {q : Int} {W w : World} {b1 b2 b3 : Nat} (h : Cop W.heap.size n G w b1 b2 b3) (hb : Below W.heap.size W w) :
    TrS W.heap.size n 0 G ch q W (w.alloc (.cells #[.slice (some ⟨b1, 0, none⟩) n n, .slice (some ⟨b2, 0, none⟩) n n, .slice (some ⟨b3, 0, none⟩) n n] 25)) b1 b2 b3 w.heap.size := by
  have hz := h.size
  obtain ⟨e1, e2, e3⟩ := h.ne
  obtain ⟨l1, l2, l3⟩ := h.lt
  obtain ⟨g1, g2, g3⟩ := h.ge
  refine ⟨hb.alloc (by omega) _, by rw [al_at, if_pos rfl], h.o.alloc _, h.p.alloc _, ⟨_, h.x.alloc _, fun i hi => ⟨W.heap.size + 6 + i, G.X.getD i [], by rw [if_neg (by omega)], ?_, by omega, ?_⟩⟩, ⟨e1, e2, e3, by omega⟩, ⟨g1, g2, g3, by omega⟩, h.lt⟩
  · unfold rowV
    rw [if_pos hi]
  · rw [al_at, if_neg (by omega)]
    exact h.rows i hi
theorem TrS.skip {s n j : Nat} {G : Gm} {ch : List Int} {q : Int} {W w : World} {b1 b2 b3 bd : Nat} (h : TrS s n j G ch q W w b1 b2 b3 bd) (hc : chB G ch q j = false) : TrS s n (j + 1) G ch q W w b1 b2 b3 bd := by
  obtain ⟨V, hv, hr⟩ := h.x
  refine ⟨h.below, h.box, h.o, h.p, ⟨V, hv, fun i hi => ?_⟩, h.ne, h.ge, h.lt⟩
  obtain ⟨bi, l, e1, e2, e3, e4⟩ := hr i hi
  refine ⟨bi, l, e1.trans ?_, e2, e3, e4⟩
  by_cases e : i < j
  · rw [if_pos e, if_pos (show i < j + 1 by omega)]
  · rw [if_neg e]
    by_cases e' : i < j + 1
    · rw [if_pos e']
      obtain rfl : i = j := by omega
      unfold rowT
      rw [hc]
      rfl
    · rw [if_neg e']
theorem TrS.next {s n j : Nat} {G : Gm} {ch : List Int} {q : Int} {W w : World} {b1 b2 b3 bd : Nat} (h : TrS s n j G ch q W w b1 b2 b3 bd) (hc : chB G ch q j = true) {u : Int} (hu : u = ch.getD j 0) :
    TrS s n (j + 1) G ch q W ((w.setCell ⟨b3, j, none⟩ (.slice (some ⟨w.heap.size, 0, none⟩) 1 1)).alloc (.cells #[.int .i64 u] 3)) b1 b2 b3 bd := by
  obtain ⟨V, hv, hr⟩ := h.x
  obtain ⟨e1, e2, e3, e4⟩ := h.ne
  obtain ⟨g1, g2, g3, g4⟩ := h.ge
  obtain ⟨l1, l2, l3⟩ := h.lt
  have key : ∀ k, k ≠ b3 → k < w.heap.size → ((w.setCell ⟨b3, j, none⟩ (.slice (some ⟨w.heap.size, 0, none⟩) 1 1)).alloc (.cells #[.int .i64 u] 3)).heap[k]? = w.heap[k]? := fun k h1 h2 => by
    rw [al_at, if_neg (by rw [size_set]; omega), set_far _ _ _ h1]
  have hs := h.below.size
  have hsz : s ≤ w.heap.size := by have := hv.lt; omega
  refine ⟨(h.below.setCell (by show s ≤ b3; omega) _).alloc (by rw [size_set]; exact hsz) _, (key _ e4 (lt_of_heap h.box)).trans h.box, h.o.of_block (key _ e2 h.o.lt), h.p.of_block (key _ e3 h.p.lt), ⟨_, (hv.set j _).alloc _, fun i hi => ?_⟩, h.ne, h.ge, h.lt⟩
  obtain ⟨bi, l, c1, c2, c3, c4⟩ := hr i hi
  by_cases e : i = j
  · subst e
    have hvl := hv.lt
    refine ⟨w.heap.size, [u], ?_, by rw [if_pos rfl]; rfl, ?_, ?_⟩
    · rw [if_pos (show i < i + 1 by omega)]
      unfold rowT
      rw [hc, hu]
      rfl
    · have := lt_of_heap c4
      omega
    · rw [al_at, if_pos (by rw [size_set])]
      rfl
  · refine ⟨bi, l, c1.trans ?_, by rw [if_neg e]; exact c2, c3, (key _ (by omega) (lt_of_heap c4)).trans c4⟩
    by_cases e' : i < j
    · rw [if_pos e', if_pos (show i < j + 1 by omega)]
    · rw [if_neg e', if_neg (show ¬ i < j + 1 by omega)]
theorem TrS.game {s n : Nat} {G : Gm} {ch : List Int} {q : Int} {W w w' : World} {b1 b2 b3 bd : Nat} (h : TrS s n n G ch q W w b1 b2 b3 bd) (ho : G.O.length = n) (hp : G.P.length = n) (hx : G.X.length = n) (hk : ∀ k, s ≤ k → w'.heap[k]? = w.heap[k]?) :
    GameAt w' (.agg #[.slice (some ⟨b1, 0, none⟩) n n, .slice (some ⟨b2, 0, none⟩) n n, .slice (some ⟨b3, 0, none⟩) n n]) (tradeF G ch q) := by
  obtain ⟨g1, g2, g3, g4⟩ := h.ge
  obtain ⟨V, hv, hr⟩ := h.x
  have hv' := hv.of_block (hk _ (by omega))
  refine ⟨_, _, _, _, _, _, _, _, _, rfl, ⟨Ints.of_row (t := 3) (h.o.of_block (hk _ (by omega))) ho, Ints.of_row (t := 3) (h.p.of_block (hk _ (by omega))) hp, by rw [tradeF_len, hx], fun h0 => ⟨b3, 0, rfl, hv'.lt, fun j hj => ?_⟩⟩⟩
  obtain ⟨bi, l, c1, c2, c3, c4⟩ := hr j hj
  rw [if_pos hj] at c1
  rw [tradeF_at _ _ _ (by omega), ← c1, Nat.zero_add, hv'.cell hj, c2]
  exact ⟨_, _, rfl, Ints.of_heap ((hk _ (by omega)).trans c4)⟩

end Go.Proofs.Ytffdbncjndnnaaa.Wd
