/-
  Dual of package game.
-/
import Derived.Test.YtffdbncjndnnaaaGaCopied
import Derived.Test.YtffdbncjndnnaaaGaHas
namespace Go.Proofs.Ytffdbncjndnnaaa.Wd
open Go.RowKit
set_option linter.unusedVariables false
set_option linter.unusedSimpArgs false

def dualF (G : Gm) : Gm := ⟨G.O.map fun x => 1 - x, G.P.map fun x => x + 1, G.X⟩
def dualG (G : Gm) : Gm := if gmB G then (if hasB G.P 60 then gm0 else dualF G) else gm0
def dualC (G : Gm) : Int := if gmB G then (if hasB G.P 60 then 3 else 0) else 1
/-- A game and an error code come back. -/
def OutG (w w' : World) (H : Gm) (code : Int) (e : Ending) : Prop := ∃ v, e = .returned (.tuple #[v, .int .i64 code]) ∧ GameAt w' v H ∧ Below w.heap.size w w'

theorem dualG_bad {G : Gm} (h : gmB G = false) : dualG G = gm0 ∧ dualC G = 1 := by unfold dualG dualC; rw [h]; exact ⟨rfl, rfl⟩
theorem dualG_full {G : Gm} (h : gmB G = true) (h2 : hasB G.P 60 = true) : dualG G = gm0 ∧ dualC G = 3 := by unfold dualG dualC; rw [h, h2]; exact ⟨rfl, rfl⟩
theorem dualG_good {G : Gm} (h : gmB G = true) (h2 : hasB G.P 60 = false) : dualG G = dualF G ∧ dualC G = 0 := by unfold dualG dualC; rw [h, h2]; exact ⟨rfl, rfl⟩

/-- The two boxes in a later world. -/
theorem two_read {w W : World} {a p x : Value} (h : Below (two w #[a, p, x]).heap.size (two w #[a, p, x]) W) :
    (W.cell? ⟨w.heap.size, 0, none⟩ = some a ∧ W.cell? ⟨w.heap.size, 1, none⟩ = some p ∧ W.cell? ⟨w.heap.size, 2, none⟩ = some x) ∧
    (W.cell? ⟨w.heap.size + 1, 0, none⟩ = some (.slice none 0 0) ∧ W.cell? ⟨w.heap.size + 1, 1, none⟩ = some (.slice none 0 0) ∧ W.cell? ⟨w.heap.size + 1, 2, none⟩ = some (.slice none 0 0)) ∧
    (W.frozen? ⟨w.heap.size + 1, 0, none⟩ = false ∧ W.frozen? ⟨w.heap.size + 1, 1, none⟩ = false ∧ W.frozen? ⟨w.heap.size + 1, 2, none⟩ = false) ∧ w.heap.size + 1 < W.heap.size := by
  have hz := two_size w #[a, p, x]
  have hs := h.size
  refine ⟨⟨?_, ?_, ?_⟩, ⟨?_, ?_, ?_⟩, ⟨?_, ?_, ?_⟩, by omega⟩
  · exact (h.cell (p := ⟨w.heap.size, 0, none⟩) (by show w.heap.size < _; omega)).trans (two_first _ _ 0)
  · exact (h.cell (p := ⟨w.heap.size, 1, none⟩) (by show w.heap.size < _; omega)).trans (two_first _ _ 1)
  · exact (h.cell (p := ⟨w.heap.size, 2, none⟩) (by show w.heap.size < _; omega)).trans (two_first _ _ 2)
  · exact (h.cell (p := ⟨w.heap.size + 1, 0, none⟩) (by show w.heap.size + 1 < _; omega)).trans (two_last _ _ 0)
  · exact (h.cell (p := ⟨w.heap.size + 1, 1, none⟩) (by show w.heap.size + 1 < _; omega)).trans (two_last _ _ 1)
  · exact (h.cell (p := ⟨w.heap.size + 1, 2, none⟩) (by show w.heap.size + 1 < _; omega)).trans (two_last _ _ 2)
  · exact (h.frozen (p := ⟨w.heap.size + 1, 0, none⟩) (by show w.heap.size + 1 < _; omega)).trans (two_free _ _ 0)
  · exact (h.frozen (p := ⟨w.heap.size + 1, 1, none⟩) (by show w.heap.size + 1 < _; omega)).trans (two_free _ _ 1)
  · exact (h.frozen (p := ⟨w.heap.size + 1, 2, none⟩) (by show w.heap.size + 1 < _; omega)).trans (two_free _ _ 2)
/-- The three cells of the result are written: everything below w stands. -/
theorem three_below {w W : World} (h : Below w.heap.size w W) (u0 u1 u2 : Value) : Below w.heap.size w (((W.setCell ⟨w.heap.size + 1, 0, none⟩ u0).setCell ⟨w.heap.size + 1, 1, none⟩ u1).setCell ⟨w.heap.size + 1, 2, none⟩ u2) :=
  ((h.setCell (by show w.heap.size ≤ w.heap.size + 1; omega) _).setCell (by show w.heap.size ≤ w.heap.size + 1; omega) _).setCell (by show w.heap.size ≤ w.heap.size + 1; omega) _
theorem two_trans {w W : World} {g : Array Value} (h : Below (two w g).heap.size (two w g) W) : Below w.heap.size w W := (two_below w g).trans (h.mono (by rw [two_size]; omega))

theorem gmB_len {G : Gm} (h : gmB G = true) (v : Nat) : (G.X.getD v []).length ≤ 64 := by
  by_cases hv : v < G.X.length
  · exact (succB_true (posB_true ((gmB_true h).2.2.2 v hv)).2.2.2).2.1
  · simp [List.getD_eq_getElem?_getD, List.getElem?_eq_none (show G.X.length ≤ v by omega)]

/-- While Dual runs: the copy, of which the owners and the priorities below j are turned. -/
structure DuS (s n j : Nat) (G : Gm) (W w : World) (b1 b2 b3 bd : Nat) : Prop where
  below : Below s W w
  box : w.heap[bd]? = some (.cells #[.slice (some ⟨b1, 0, none⟩) n n, .slice (some ⟨b2, 0, none⟩) n n, .slice (some ⟨b3, 0, none⟩) n n] 25 (0, 0))
  o : w.rowIs b1 3 n (fun i => .int .i64 (if i < j then 1 - G.O.getD i 0 else G.O.getD i 0))
  p : w.rowIs b2 3 n (fun i => .int .i64 (if i < j then G.P.getD i 0 + 1 else G.P.getD i 0))
  x : w.rowIs b3 22 n (rowV s G.X n)
  rows : ∀ i, i < n → w.heap[s + 6 + i]? = some (.cells ((G.X.getD i []).map (Value.int .i64)).toArray 3 (0, 0))
  ne : b1 ≠ b2 ∧ b1 ≠ b3 ∧ b2 ≠ b3 ∧ bd ≠ b1 ∧ bd ≠ b2
  ge : s + 2 ≤ b1 ∧ s + 2 ≤ b2 ∧ s + 2 ≤ b3
  lt : b1 < s + 6 ∧ b2 < s + 6 ∧ b3 < s + 6

theorem Cop.dus {n : Nat} {G : Gm} {W w : World} {b1 b2 b3 : Nat} (h : Cop W.heap.size n G w b1 b2 b3) (hb : Below W.heap.size W w) :
    DuS W.heap.size n 0 G W (w.alloc (.cells #[.slice (some ⟨b1, 0, none⟩) n n, .slice (some ⟨b2, 0, none⟩) n n, .slice (some ⟨b3, 0, none⟩) n n] 25)) b1 b2 b3 w.heap.size := by
  have hz := h.size
  obtain ⟨e1, e2, e3⟩ := h.ne
  obtain ⟨l1, l2, l3⟩ := h.lt
  refine ⟨hb.alloc (by omega) _, by rw [al_at, if_pos rfl], (h.o.alloc _).congr (fun i _ => by rw [if_neg (by omega)]), (h.p.alloc _).congr (fun i _ => by rw [if_neg (by omega)]), h.x.alloc _, fun i hi => ?_, ⟨e1, e2, e3, by omega, by omega⟩, h.ge, h.lt⟩
  rw [al_at, if_neg (by omega)]
  exact h.rows i hi
theorem DuS.next {s n j : Nat} {G : Gm} {W w : World} {b1 b2 b3 bd : Nat} (h : DuS s n j G W w b1 b2 b3 bd) {u v : Int} (hu : u = 1 - G.O.getD j 0) (hv : v = G.P.getD j 0 + 1) :
    DuS s n (j + 1) G W ((w.setCell ⟨b1, j, none⟩ (.int .i64 u)).setCell ⟨b2, j, none⟩ (.int .i64 v)) b1 b2 b3 bd := by
  obtain ⟨e1, e2, e3, e4, e5⟩ := h.ne
  obtain ⟨l1, l2, l3⟩ := h.lt
  obtain ⟨g1, g2, g3⟩ := h.ge
  have key : ∀ k, k ≠ b1 → k ≠ b2 → ((w.setCell ⟨b1, j, none⟩ (.int .i64 u)).setCell ⟨b2, j, none⟩ (.int .i64 v)).heap[k]? = w.heap[k]? := fun k h1 h2 => by rw [set_far _ _ _ h2, set_far _ _ _ h1]
  refine ⟨(h.below.setCell (by show s ≤ b1; omega) _).setCell (by show s ≤ b2; omega) _, (key _ e4 e5).trans h.box, ?_, ?_, h.x.of_block (key _ (Ne.symm e2) (Ne.symm e3)), fun i hi => (key _ (by omega) (by omega)).trans (h.rows i hi), h.ne, h.ge, h.lt⟩
  · refine ((h.o.set j (.int .i64 u)).setOther (a := ⟨b2, j, none⟩) e1 _).congr fun i _ => ?_
    by_cases e : i = j
    · subst e; rw [if_pos rfl, if_pos (by omega), hu]
    · rw [if_neg e]
      by_cases e' : i < j
      · rw [if_pos e', if_pos (by omega)]
      · rw [if_neg e', if_neg (by omega)]
  · refine ((h.p.setOther (a := ⟨b1, j, none⟩) (Ne.symm e1) _).set j (.int .i64 v)).congr fun i _ => ?_
    by_cases e : i = j
    · subst e; rw [if_pos rfl, if_pos (by omega), hv]
    · rw [if_neg e]
      by_cases e' : i < j
      · rw [if_pos e', if_pos (by omega)]
      · rw [if_neg e', if_neg (by omega)]
theorem DuS.drew {s n j : Nat} {G : Gm} {W w : World} {b1 b2 b3 bd : Nat} (h : DuS s n j G W w b1 b2 b3 bd) : DuS s n j G W w.drew b1 b2 b3 bd := ⟨h.below.drew, h.box, h.o.drew, h.p.drew, h.x.drew, h.rows, h.ne, h.ge, h.lt⟩
theorem Lists.of_rows {s n b : Nat} {X : List (List Int)} {w : World} {t : TypeId} (hx : w.rowIs b t n (rowV s X n)) (hr : ∀ i, i < n → w.heap[s + 6 + i]? = some (.cells ((X.getD i []).map (Value.int .i64)).toArray 3 (0, 0))) (hn : X.length = n) : ListsAt w (some ⟨b, 0, none⟩) n X :=
  ⟨hn, fun h0 => ⟨b, 0, rfl, hx.lt, fun j hj => ⟨some ⟨s + 6 + j, 0, none⟩, (X.getD j []).length, by
    rw [Nat.zero_add, hx.cell hj]
    unfold rowV
    rw [if_pos hj], Ints.of_heap (hr j hj)⟩⟩⟩
theorem DuS.game {s n : Nat} {G : Gm} {W w w' : World} {b1 b2 b3 bd : Nat} (h : DuS s n n G W w b1 b2 b3 bd) (ho : G.O.length = n) (hp : G.P.length = n) (hx : G.X.length = n) (hk : ∀ k, s ≤ k → w'.heap[k]? = w.heap[k]?) :
    GameAt w' (.agg #[.slice (some ⟨b1, 0, none⟩) n n, .slice (some ⟨b2, 0, none⟩) n n, .slice (some ⟨b3, 0, none⟩) n n]) (dualF G) := by
  obtain ⟨g1, g2, g3⟩ := h.ge
  refine ⟨_, _, _, _, _, _, _, _, _, rfl, ⟨Ints.of_row (t := 3) ((h.o.of_block (hk _ (by omega))).congr fun i hi => ?_) (by simp [dualF, ho]), Ints.of_row (t := 3) ((h.p.of_block (hk _ (by omega))).congr fun i hi => ?_) (by simp [dualF, hp]), Lists.of_rows (h.x.of_block (hk _ (by omega))) (fun i hi => (hk _ (by omega)).trans (h.rows i hi)) hx⟩⟩
  · rw [if_pos hi]
    simp [dualF, List.getD_eq_getElem?_getD, List.getElem?_eq_getElem (show i < G.O.length by omega)]
  · rw [if_pos hi]
    simp [dualF, List.getD_eq_getElem?_getD, List.getElem?_eq_getElem (show i < G.P.length by omega)]

set_option maxRecDepth 100000 in
set_option maxHeartbeats 4000000 in
theorem gdual_any (a p x : Option Addr) (n c m d k e : Nat) (G : Gm) (w : World) (h : GameIn w a n p m x k G) (hm : m ≤ 17592186044416) (hk : k ≤ 17592186044416) (hl : ∀ v, (G.X.getD v []).length ≤ 17592186044416) :
    Calls Try.prog 17 #[.agg #[.slice a n c, .slice p m d, .slice x k e]] w fun r w' => OutG w w' (dualG G) (dualC G) r := by
  have HV := Lib.hid (valid_any a p x n c m d k e G (two w #[.slice a n c, .slice p m d, .slice x k e]) (h.below (two_below w _)) hk hl)
  obtain ⟨vb, hvb, HVB⟩ : ∃ vb, gmB G = vb ∧ Hid (gmB G = vb) := ⟨_, rfl, rfl⟩
  rw [hvb] at HV
  clear hvb
  have H0 := Lib.hid h
  have HLEN := Lib.hid hl
  have HHP := Lib.hid (fun W (hW : Below (two w #[.slice a n c, .slice p m d, .slice x k e]).heap.size (two w #[.slice a n c, .slice p m d, .slice x k e]) W) => contains_any p m d G.P 60 W ((h.below (two_below w _)).below hW).p hm)
  clear h hl
  unfold two at HV
  cases vb
  · have HD := Lib.hid (dualG_bad HVB.out)
    go_enter Try.func17, Try.ntmps17
    go_wp2_with fail
    refine HV.out.mono ?_
    rintro r w1 ⟨rfl, hb1⟩
    have hb1' : Below (two w #[.slice a n c, .slice p m d, .slice x k e]).heap.size (two w #[.slice a n c, .slice p m d, .slice x k e]) w1 := hb1
    have HB1 := Lib.hid (two_trans hb1')
    obtain ⟨⟨q0, q1, q2⟩, ⟨r0, r1, r2⟩, ⟨f0, f1, f2⟩, hz⟩ := two_read hb1'
    clear hb1 hb1'
    go_wp2_with fail
    obtain ⟨x0, x1, x2⟩ := cells3g r0 r1 r2 (.slice none 0 0) (.slice none 0 0) (.slice none 0 0)
    refine bodyPost_ret (v := .tuple #[.agg #[.slice none 0 0, .slice none 0 0, .slice none 0 0], .int .i64 1]) (by simp [results, Try.results17, go_sem, x0, x1, x2]) rfl ?_
    rw [HD.out.1, HD.out.2]
    exact ⟨_, rfl, GameAt.zero _, three_below HB1.out _ _ _⟩
  obtain ⟨fb, hfb, HFB⟩ : ∃ fb, hasB G.P 60 = fb ∧ Hid (hasB G.P 60 = fb) := ⟨_, rfl, rfl⟩
  rw [hfb] at HHP
  clear hfb
  cases fb
  rotate_left
  · have HD := Lib.hid (dualG_full HVB.out HFB.out)
    go_enter Try.func17, Try.ntmps17
    go_wp2_with fail
    refine HV.out.mono ?_
    rintro r w1 ⟨rfl, hb1⟩
    have hb1' : Below (two w #[.slice a n c, .slice p m d, .slice x k e]).heap.size (two w #[.slice a n c, .slice p m d, .slice x k e]) w1 := hb1
    have HB1 := Lib.hid (two_trans hb1')
    have HC1 := Lib.hid (HHP.out _ hb1')
    obtain ⟨⟨q0, q1, q2⟩, ⟨r0, r1, r2⟩, ⟨f0, f1, f2⟩, hz⟩ := two_read hb1'
    clear hb1 hb1'
    go_wp2_with fail
    refine HC1.out.mono ?_
    rintro r w2 ⟨rfl, rfl⟩
    go_wp2_with fail
    obtain ⟨x0, x1, x2⟩ := cells3g r0 r1 r2 (.slice none 0 0) (.slice none 0 0) (.slice none 0 0)
    refine bodyPost_ret (v := .tuple #[.agg #[.slice none 0 0, .slice none 0 0, .slice none 0 0], .int .i64 3]) (by simp [results, Try.results17, go_sem, x0, x1, x2]) rfl ?_
    rw [HD.out.1, HD.out.2]
    exact ⟨_, rfl, GameAt.zero _, three_below HB1.out _ _ _⟩
  · have HD := Lib.hid (dualG_good HVB.out HFB.out)
    obtain ⟨hg1, hg2, hg3, hg4⟩ := gmB_true HVB.out
    have hxl := H0.out.x.1
    have hol := H0.out.o.1
    have hpl := H0.out.p.1
    obtain rfl : n = k := by omega
    obtain rfl : m = n := by omega
    have hk0 : (0 : Int) ≤ (m : Int) := by omega
    have HPOS := Lib.hid hg4
    have HLENS := Lib.hid (show G.O.length = m ∧ G.P.length = m ∧ G.X.length = m from ⟨hol, hpl, hxl⟩)
    clear hg4
    go_enter Try.func17, Try.ntmps17
    go_wp2_with fail
    refine HV.out.mono ?_
    rintro r w1 ⟨rfl, hb1⟩
    have hb1' : Below (two w #[.slice a m c, .slice p m d, .slice x m e]).heap.size (two w #[.slice a m c, .slice p m d, .slice x m e]) w1 := hb1
    have HB1 := Lib.hid (two_trans hb1')
    have HC1 := Lib.hid (HHP.out _ hb1')
    have HCP := Lib.hid (copied_game a p x m c d e G w1 (H0.out.below HB1.out) (by omega) (fun v => by have := gmB_len HVB.out v; omega))
    obtain ⟨⟨q0, q1, q2⟩, ⟨r0, r1, r2⟩, ⟨f0, f1, f2⟩, hz⟩ := two_read hb1'
    clear hb1 hb1'
    go_wp2_with fail
    refine HC1.out.mono ?_
    rintro r w2 ⟨rfl, rfl⟩
    go_wp2_with fail
    refine HCP.out.mono ?_
    rintro r w3 ⟨b1, b2, b3, rfl, hcop, hb3⟩
    have HS := Lib.hid (hcop.dus hb3)
    have hw3 : w1.heap.size + 6 + m = w3.heap.size := hcop.size.symm
    clear hcop hb3
    go_wp2_with fail
    generalize w3.heap.size = bd at *
    clear hw3
    go_loopg [19] m (fun g i wx => ∃ j : Nat, j + g = m ∧ i = .int .i64 j ∧ Hid (DuS w1.heap.size m j G w1 wx b1 b2 b3 bd))
    case atStart => exact ⟨0, by omega, rfl, HS.out⟩
    case round =>
      obtain ⟨j, hjg, rfl, HX⟩ := hrel
      have hj0 : (0 : Int) ≤ (j : Int) := by omega
      have g0 : wr.cell? ⟨bd, 0, none⟩ = some (.slice (some ⟨b1, 0, none⟩) m m) := cell_of_heap HX.out.box 0
      have g1 : wr.cell? ⟨bd, 1, none⟩ = some (.slice (some ⟨b2, 0, none⟩) m m) := cell_of_heap HX.out.box 1
      have g2 : wr.cell? ⟨bd, 2, none⟩ = some (.slice (some ⟨b3, 0, none⟩) m m) := cell_of_heap HX.out.box 2
      cases gk with
      | zero =>
        obtain rfl : m = j := by omega
        have s0 : wr.cell? ⟨w.heap.size + 1, 0, none⟩ = some (.slice none 0 0) := (HX.out.below.cell (p := ⟨w.heap.size + 1, 0, none⟩) hz).trans r0
        have s1 : wr.cell? ⟨w.heap.size + 1, 1, none⟩ = some (.slice none 0 0) := (HX.out.below.cell (p := ⟨w.heap.size + 1, 1, none⟩) hz).trans r1
        have s2 : wr.cell? ⟨w.heap.size + 1, 2, none⟩ = some (.slice none 0 0) := (HX.out.below.cell (p := ⟨w.heap.size + 1, 2, none⟩) hz).trans r2
        have e0 : wr.frozen? ⟨w.heap.size + 1, 0, none⟩ = false := (HX.out.below.frozen (p := ⟨w.heap.size + 1, 0, none⟩) hz).trans f0
        have e1 : wr.frozen? ⟨w.heap.size + 1, 1, none⟩ = false := (HX.out.below.frozen (p := ⟨w.heap.size + 1, 1, none⟩) hz).trans f1
        have e2 : wr.frozen? ⟨w.heap.size + 1, 2, none⟩ = false := (HX.out.below.frozen (p := ⟨w.heap.size + 1, 2, none⟩) hz).trans f2
        clear q0 q1 q2 r0 r1 r2 f0 f1 f2
        go_wp2_with fail
        obtain ⟨x0, x1, x2⟩ := cells3g s0 s1 s2 (.slice (some ⟨b1, 0, none⟩) m m) (.slice (some ⟨b2, 0, none⟩) m m) (.slice (some ⟨b3, 0, none⟩) m m)
        refine bodyPost_ret (v := .tuple #[.agg #[.slice (some ⟨b1, 0, none⟩) m m, .slice (some ⟨b2, 0, none⟩) m m, .slice (some ⟨b3, 0, none⟩) m m], .int .i64 0]) (by simp [results, Try.results17, go_sem, x0, x1, x2]) rfl ?_
        rw [HD.out.1, HD.out.2]
        refine ⟨_, rfl, ?_, three_below (HB1.out.trans (HX.out.below.mono HB1.out.size)) _ _ _⟩
        exact HX.out.game HLENS.out.1 HLENS.out.2.1 HLENS.out.2.2 (fun k hk => by rw [set_far _ _ _ (by show k ≠ w.heap.size + 1; omega), set_far _ _ _ (by show k ≠ w.heap.size + 1; omega), set_far _ _ _ (by show k ≠ w.heap.size + 1; omega)])
      | succ g =>
        have hjl : j < m := by omega
        have hjl2 : (j : Int) < (m : Int) := by omega
        have k1 := HX.out.o.cell hjl
        have k2 := HX.out.p.cell hjl
        rw [if_neg (by omega)] at k1 k2
        have z1 := HX.out.o.frozen j
        have z2 := HX.out.p.frozen j
        have hne : b1 ≠ b2 := HX.out.ne.1
        have hne2 : b2 ≠ b1 := Ne.symm hne
        have hne3 : bd ≠ b1 := HX.out.ne.2.2.2.1
        have hne4 : bd ≠ b2 := HX.out.ne.2.2.2.2
        have hne5 : b1 ≠ bd := Ne.symm hne3
        have hpj := posB_true (HPOS.out j (by omega))
        have hov : 0 ≤ G.O.getD j 0 ∧ G.O.getD j 0 ≤ 1 := by omega
        have hpv : 0 ≤ G.P.getD j 0 ∧ G.P.getD j 0 ≤ 60 := ⟨hpj.2.1, hpj.2.2.1⟩
        clear hpj
        have HNX := Lib.hid (fun (u v : Int) (hu : u = 1 - G.O.getD j 0) (hv : v = G.P.getD j 0 + 1) => HX.out.next hu hv)
        generalize G.O.getD j 0 = o at *
        generalize G.P.getD j 0 = q at *
        obtain ⟨ho0, ho1⟩ := hov
        obtain ⟨hp0, hp1⟩ := hpv
        go_wp2_with fail
        go_region
        go_wp2_with fail
        go_roundg g
        case measure => omega
        case rel => exact ⟨j + 1, by omega, by go_num, (HNX.out _ _ rfl rfl).drew⟩

end Go.Proofs.Ytffdbncjndnnaaa.Wd
