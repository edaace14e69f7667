/-
  The walker of the example automaton: read and union.
  The walker of the example automaton: walk, over any word of the letters 0 and 1.
  The edges from a state with a letter: Step of aut, Out of the reference.
  Step of package aut, for all automata.
  fitting of package aut: the letters of an edge as a set of bits.
  lettersOf of package aut: for each state the letters of its edges.
  Deterministic and Complete of package aut, for all automata.
  Letters and edges: when two edges have a letter in common, and what the sets of letters say. No program is looked at here.
-/
import Derived.Test.YtalgbcndifaaiaaF21
import Derived.Maps.OwnSet
import Derived.Test.YtalgbcndifaaiaaAuVal2
import Derived.Test.YtalgbcndifaaiaaAtAgain
import Derived.Test.YtalgbcndifaaiaaWdKit
import Derived.Test.YtalgbcndifaaiaaAuRef
import Derived.Laws.Bits64b
import Derived.Deep.OwnRows
import Derived.Laws.BitsLemmas
namespace Go.Proofs.Ytalgbcndifaaiaa.Wd
open Go.RowKit
set_option linter.unusedVariables false

/-- Ints outside block r. -/
def IntsN (r : Nat) (w : World) (A : Option Addr) (n : Nat) (xs : List Int) : Prop :=
  xs.length = n ∧ (0 < n → ∃ b off, A = some ⟨b, off, none⟩ ∧ (b < w.heap.size ∧ b ≠ r) ∧ ∀ j, j < n → w.cell? ⟨b, off + j, none⟩ = some (.int .i64 (xs.getD j 0)))
theorem IntsN.grown {r n : Nat} {w w' : World} {A : Option Addr} {xs : List Int} (h : IntsN r w A n xs) (hb : w.grownBy w' (some r)) : IntsN r w' A n xs := ⟨h.1, fun hn => by
  obtain ⟨b, off, e, hlt, hc⟩ := h.2 hn
  exact ⟨b, off, e, ⟨Nat.lt_of_lt_of_le hlt.1 hb.size, hlt.2⟩, fun j hj => (hb.cell_far ⟨b, off + j, none⟩ hlt.1 (fun e => hlt.2 (by cases e; rfl))).trans (hc j hj)⟩⟩
theorem IntsN.below {r n : Nat} {w w' : World} {A : Option Addr} {xs : List Int} (h : IntsN r w A n xs) (hb : Below w.heap.size w w') : IntsN r w' A n xs := h.grown (grown_of hb)

/-- Is there a letter 1? -/
def oneL (xs : List Int) : Int := if 1 ∈ xs then 1 else 0
theorem oneL_cases (xs : List Int) : oneL xs = 0 ∨ oneL xs = 1 := by unfold oneL; split; exact .inr rfl; exact .inl rfl
theorem or_table : ∀ a : Fin 2, ∀ b : Fin 2, bits .or .i64 ((a.val : Nat) : Int) ((b.val : Nat) : Int) = ((max a.val b.val : Nat) : Int) := by decide +kernel
theorem oneL_snoc {xs : List Int} {l : Int} (hl : l = 0 ∨ l = 1) : bits .or .i64 (oneL xs) l = oneL (xs ++ [l]) := by
  unfold oneL
  by_cases h : (1 : Int) ∈ xs
  · rw [if_pos h, if_pos (by simp [h])]
    rcases hl with rfl | rfl
    · exact or_table 1 0
    · exact or_table 1 1
  · rw [if_neg h]
    rcases hl with rfl | rfl
    · rw [if_neg (by simp [h])]
      exact or_table 0 0
    · rw [if_pos (by simp)]
      exact or_table 0 1

set_option maxRecDepth 100000 in
set_option maxHeartbeats 4000000 in
theorem read_ag (r s e o g c : Nat) (A : Option Addr) (n d : Nat) (xs : List Int) (w : World) (h : Wk w r s e o g c) (hx : IntsN r w A n xs) (hl : ∀ x ∈ xs, x = 0 ∨ x = 1) (hn : n ≤ 100000) :
    Calls Try.prog 54 #[.pointer (some ⟨r, 0, none⟩), .slice A n d] w fun x w' => StepR w w' r s e o g c (oneL xs) x := by
  have HW := Lib.hid h
  have HX := Lib.hid hx
  have HL := Lib.hid hl
  have hxl := Lib.hid hx.1
  clear h hx hl
  go_enter Try.func54, Try.ntmps54
  go_wp2_with fail
  go_loopg [5, 10] n (fun q m i wx => ∃ t : Nat, t + q = n ∧ i = .int .i64 t ∧ m = .int .i64 (oneL (xs.take t)) ∧ Hid (Wk wx r s e o g c) ∧ Hid (w.grownBy wx (some r)))
  case atStart => exact ⟨0, by omega, rfl, rfl, HW, World.grownBy.refl w _⟩
  case round =>
    obtain ⟨t, htq, rfl, rfl, HWr, HBr⟩ := hrel
    have hti : (0 : Int) ≤ (t : Int) := by omega
    cases gk with
    | zero =>
      obtain rfl : n = t := by omega
      have HT := Lib.hid (List.take_of_length_le (l := xs) (i := n) (by have := hxl.out; omega))
      go_wp2_with fail
      go_ret
      exact ⟨ret_int (by rw [HT.out]), HWr.out, HBr.out⟩
    | succ q =>
      have ht1 : t < n := by omega
      have hti2 : (t : Int) < (n : Int) := by omega
      obtain ⟨bA, oA, hAe, ⟨hlt, _⟩, hcell⟩ := (HX.out.grown HBr.out).2 (by omega)
      subst hAe
      have hct := hcell t ht1
      have hmem : xs.getD t 0 = 0 ∨ xs.getD t 0 = 1 := by
        have ht2 : t < xs.length := by have := hxl.out; omega
        rw [List.getD_eq_getElem?_getD, List.getElem?_eq_getElem ht2]
        exact HL.out _ (List.getElem_mem ht2)
      have hsn : xs.take (t + 1) = xs.take t ++ [xs.getD t 0] := by
        have ht2 : t < xs.length := by have := hxl.out; omega
        rw [List.take_succ_eq_append_getElem ht2, List.getD_eq_getElem?_getD, List.getElem?_eq_getElem ht2]
        rfl
      generalize xs.getD t 0 = l at *
      have hor := oneL_snoc (xs := xs.take t) hmem
      rw [← hsn] at hor
      have HST := Lib.hid (show Calls Try.prog 76 #[.pointer (some ⟨r, 0, none⟩), .int .i64 l] wr fun x w' => StepR wr w' r s e o g c l x from by
        rcases hmem with rfl | rfl
        · exact step_zero r s e o g c wr HWr.out
        · exact step_one r s e o g c wr HWr.out)
      obtain ⟨M, hM⟩ : ∃ M, oneL (xs.take t) = M := ⟨_, rfl⟩
      rw [hM] at hor
      rw [hM]
      clear hM hsn hmem hcell
      go_wp2_with fail
      refine HST.out.mono ?_
      rintro x w1 ⟨rfl, hw1, hb1⟩
      have HW1 := Lib.hid hw1
      have HB1 := Lib.hid (HBr.out.trans hb1)
      clear hw1 hb1
      go_wp2_with fail
      go_roundg q
      case measure => omega
      case rel => exact ⟨t + 1, by omega, by go_num, by first | rfl | rw [hor], HW1, HB1⟩

theorem union_one (a : Addr) (d : Nat) (x : Int) (w : World) (hc : w.cell? a = some (.int .i64 x)) (hs : a.spot = none) (hx : x = 0 ∨ x = 1) :
    Calls Try.prog 55 #[.slice (some a) 1 d] w fun e w' => e = .returned (.int .i64 x) ∧ w = w' := by
  obtain ⟨b, o, sp⟩ := a
  simp only at hs
  subst hs
  have hor : bits .or .i64 0 x = x := by rcases hx with rfl | rfl <;> decide
  go_enter Try.func55, Try.ntmps55
  go_wp2_with fail
  refine wp_loop_rounds 2 ?_
  rw [rounds_succ]
  go_wp2_with fail
  rw [rounds_succ]
  go_wp2_with fail
  go_ret
  exact ⟨rfl, rfl⟩

end Go.Proofs.Ytalgbcndifaaiaa.Wd

namespace Go.Proofs.Ytalgbcndifaaiaa.Wd
open Go.RowKit Go.Maps
set_option linter.unusedVariables false

theorem map_below {w1 w2 : World} {o : Obj} (hg : (w1.alloc o).grownBy w2 (some w1.heap.size)) : Below w1.heap.size w1 w2 :=
  ((Below.refl _ _).alloc (Nat.le_refl _) o).grown hg (by simp) (fun k hk => by cases hk; exact Nat.le_refl _)

theorem ints_one (w : World) (x : Int) (t : TypeId) : Ints (w.alloc (.cells #[.int .i64 x] t)) (some ⟨w.heap.size, 0, none⟩) 1 [x] := one_new w w.heap.size rfl x t

theorem lawInt : Keyed Try.prog 3 := int_keyed Try.underlying3
theorem zeroInt (w : World) : (zeroValue 3).run Try.prog w = .ok (.int .i64 0) w := by kernel_rfl
theorem keyInt0 : keyOf Try.prog 3 (.int .i64 0) = some (.int .i64 0) := keyOf_int_mk Try.underlying3 (by decide)

theorem at_zero : ((DataW.map (H := Nat) []).put (.int .i64 0) (.lit (.int .i64 0))).atKey (.int .i64 0) (.lit (.int .i64 0)) = .lit (.int .i64 0) := by rfl

set_option maxRecDepth 100000 in
set_option maxHeartbeats 4000000 in
theorem walk_ag (r s e o g c : Nat) (A B : Option Addr) (n cA m dB : Nat) (st lp : List Int) (w : World) (h : Wk w r s e o g c) (hs : IntsN r w A n st) (hl : IntsN r w B m lp) (hs1 : ∀ x ∈ st, x = 0 ∨ x = 1) (hl1 : ∀ x ∈ lp, x = 0 ∨ x = 1) (hn : n ≤ 100000) (hm : m ≤ 100000) :
    Calls Try.prog 36 #[.pointer (some ⟨r, 0, none⟩), .agg #[.slice A n cA, .slice B m dB]] w fun x w' => x = .returned (.tuple #[.int .i64 (oneL lp), .bool false]) ∧ w.grownBy w' (some r) := by
  obtain ⟨i0, hi, hi0, hi1, hi2⟩ := info_parts int_row
  have hmm := @run_makeMap Try.prog
  have hr : r < w.heap.size := (wkL_out h.1).1
  have HR1 := Lib.hid (fun W (hW : Below w.heap.size w W) => read_ag r s e o g c A n cA st W (h.below hW) (hs.below hW) hs1 hn)
  have HR2 := Lib.hid (fun W (hk : Wk W r s e o g c) (hW : w.grownBy W (some r)) => read_ag r s e o g c B m dB lp W hk (hl.grown hW) hl1 hm)
  clear hs hl hs1 hl1 h
  go_enter Try.func36, Try.ntmps36
  go_wp2_with fail
  refine (HR1.out _ ((Below.refl _ _).alloc (Nat.le_refl _) _)).mono ?_
  rintro x w1 ⟨rfl, hw1, hg1⟩
  have p0 : w1.cell? ⟨w.heap.size, 0, none⟩ = some (.slice A n cA) := (hg1.cell_far ⟨w.heap.size, 0, none⟩ (by simp) (by simp; omega)).trans (by rw [box_last]; rfl)
  have p1 : w1.cell? ⟨w.heap.size, 1, none⟩ = some (.slice B m dB) := (hg1.cell_far ⟨w.heap.size, 1, none⟩ (by simp) (by simp; omega)).trans (by rw [box_last]; rfl)
  have hz1 : w.heap.size < w1.heap.size := by have := hg1.size; simp at this; omega
  have HG1 := Lib.hid (show w.grownBy w1 (some r) from (grown_of ((Below.refl _ _).alloc (Nat.le_refl _) _)).trans hg1)
  have HW1 := Lib.hid hw1
  obtain ⟨hr1, ⟨r0, r1, r2, r3⟩, _⟩ := wkL_out hw1.1
  clear hw1 hg1
  have hown0 := World.ownsMap_made (H := Nat) w1 Try.prog 3 (plainElem Try.prog 3)
  have hh0 : Maps.has (DataW.map (H := Nat) []) (.int .i64 0) = false := rfl
  go_wp2_with fail
  refine wp_loop_rounds 2 ?_
  rw [rounds_succ]
  go_wp2_with (first
    | (at_lookup; refine wpList_lookup_own_ok_int _ rfl _ _ 108 rfl 3 3 .i64 lawInt Try.underlying108 Try.underlying3 (zeroInt _) w1.heap.size 0 _ rfl hown0 _ _ rfl keyInt0 ?_; intro cc hat hwc)
    | (at_mapUpdate; refine wpList_mapUpdate_own _ rfl _ _ _ 108 rfl 3 3 lawInt Try.underlying108 _ w1.heap.size 0 _ rfl hown0 (by unfold maxLen; omega) _ _ _ rfl rfl keyInt0 _ [] (plainElem_int Try.underlying3 (by decide)) ?_; intro w2 hown1 hgrow1
       have hb2 := map_below hgrow1
       have q1 : w2.cell? ⟨w.heap.size, 1, none⟩ = some (.slice B m dB) := (hb2.cell (p := ⟨w.heap.size, 1, none⟩) hz1).trans p1
       have hz2 : w.heap.size < w2.heap.size := Nat.lt_of_lt_of_le hz1 hb2.size
       have HW2 := Lib.hid (HW1.out.below hb2)
       have HG2 := Lib.hid (HG1.out.trans (grown_of hb2))
       have HM2 := Lib.hid hown1
       have hr1' : r < w1.heap.size := hr1
       clear hown1 hgrow1 hb2 hown0 p0 p1 hz1 r0 r1 r2 r3 hh0 hat hwc))
  refine (HR2.out _ HW2.out HG2.out).mono ?_
  rintro x w3 ⟨rfl, hw3, hg3⟩
  have HW3 := Lib.hid hw3
  have HG3 := Lib.hid (HG2.out.trans hg3)
  have HM3 := Lib.hid (HM2.out.kept hg3 (by simp; omega))
  have hz3 : w1.heap.size < w3.heap.size := HM3.out.lt
  obtain ⟨M, hM⟩ : ∃ M, oneL lp = M := ⟨_, rfl⟩
  have hMc : M = 0 ∨ M = 1 := by rw [← hM]; exact oneL_cases lp
  have HM0 := Lib.hid hM
  rw [hM]
  clear hw3 hg3 q1 hz2 hM
  go_wp2_with (at_builtin; refine wpList_append_ints _ (by rfl) _ _ 22 (by rfl) w3.heap.size 3 i0 _ Try.underlying22 hi hi0 hi1 hi2 rfl (.slice none 0 0) 0 [] (by rfl) (World.ownsRow_nil _ _ _ _) (some ⟨w3.heap.size, 0, none⟩) 1 1 [M] (by rfl) (ints_one w3 M _) (by omega) (by simp) ?_
               intro v' w4 hown hgrow hat)
  have hb4 : Below w3.heap.size w3 w4 := ((Below.refl _ _).alloc (Nat.le_refl _) _).trans (below_own (World.ownsRow_nil _ _ 3 1) hgrow (by simp))
  obtain ⟨gb, cap, rfl, hv2, hlt⟩ := hown.form (by omega)
  have q4 := hown.cells (g := gb) rfl 0 (.int .i64 M) (by simp)
  rw [Addr.add_lit] at q4
  have HW4 := Lib.hid (HW3.out.below hb4)
  have HG4 := Lib.hid (HG3.out.trans (grown_of hb4))
  have HM4 := Lib.hid (HM3.out.kept (row := none) (grown_of hb4) (by simp))
  obtain ⟨hr4, ⟨r0, r1, r2, r3⟩, _⟩ := wkL_out HW4.out.1
  clear hown hgrow hat hb4 HW3 HG3 HM3 HW2 HG2 HM2
  rw [rounds_succ]
  have hown4 := HM4.out
  have hh4 : Maps.has ((DataW.map (H := Nat) []).put (.int .i64 0) (.lit (.int .i64 0))) (.int .i64 0) = true := rfl
  go_wp2_with (at_lookup; refine wpList_lookup_own_ok_int _ rfl _ _ 108 rfl 3 3 .i64 lawInt Try.underlying108 Try.underlying3 (zeroInt _) w1.heap.size 1 _ rfl hown4 _ _ rfl keyInt0 ?_; intro cd hat hwc
               rw [at_zero] at hat
               cases hat
               clear hwc hown4)
  refine (union_one ⟨gb, 0, none⟩ _ M _ q4 rfl hMc).mono ?_
  rintro x w5 ⟨rfl, rfl⟩
  go_wp2_with fail
  go_ret2
  exact ⟨by rw [HM0.out]; rfl, HG4.out⟩

end Go.Proofs.Ytalgbcndifaaiaa.Wd

namespace Go.Proofs.Ytalgbcndifaaiaa.Wd
open Go.RowKit
set_option linter.unusedVariables false

/-- Does an edge have that letter? -/
def letB (l : Int) (e : Ed) : Bool := decide (bits .and .i64 l e.c = e.b)
/-- Of the first k edges those from s with the letter l. -/
def outL (es : List Ed) (s l : Int) (k : Nat) : List Int := ((List.range k).filter fun j => decide ((es.getD j ed0).f = s) && letB l (es.getD j ed0)).map fun (j : Nat) => (j : Int)
theorem outL_zero (es : List Ed) (s l : Int) : outL es s l 0 = [] := rfl
theorem outL_yes {es : List Ed} {s l : Int} {k : Nat} (h : (es.getD k ed0).f = s) (h2 : letB l (es.getD k ed0) = true) : outL es s l (k + 1) = outL es s l k ++ [(k : Int)] := by
  unfold outL
  rw [List.range_succ, List.filter_append, List.map_append]
  simp only [List.filter_cons, List.filter_nil, h, h2, decide_true, Bool.and_self, if_true, List.map_cons, List.map_nil]
theorem outL_far {es : List Ed} {s l : Int} {k : Nat} (h : ¬ (es.getD k ed0).f = s) : outL es s l (k + 1) = outL es s l k := by
  unfold outL
  rw [List.range_succ, List.filter_append, List.map_append]
  simp only [List.filter_cons, List.filter_nil, decide_eq_false h, Bool.false_and, Bool.false_eq_true, if_false, List.map_nil, List.append_nil]
theorem outL_no {es : List Ed} {s l : Int} {k : Nat} (h : letB l (es.getD k ed0) = false) : outL es s l (k + 1) = outL es s l k := by
  unfold outL
  rw [List.range_succ, List.filter_append, List.map_append]
  simp only [List.filter_cons, List.filter_nil, h, Bool.and_false, Bool.false_eq_true, if_false, List.map_nil, List.append_nil]
theorem outL_len (es : List Ed) (s l : Int) (k : Nat) : (outL es s l k).length ≤ k := by
  unfold outL
  rw [List.length_map]
  exact Nat.le_trans (List.length_filter_le _ _) (by simp)

theorem own_below' {B : Nat} {e : TypeId} {k : Nat} {v : Value} {n : Nat} {xs : List Value} {w w' : World} (h : w.ownsRow B e k v n xs) (hb : Below w.heap.size w w') : w'.ownsRow B e k v n xs :=
  h.kept (row := none) ⟨hb.os, hb.tape, hb.output, hb.size, fun j hj _ => hb.block j hj⟩ (by cases hv : v.ownBlock <;> simp)
theorem own_le' {W : World} {base base' size n : Nat} {e : TypeId} {v : Value} {xs : List Value} (h : W.ownsRow base e size v n xs) (hb : base' ≤ base) : W.ownsRow base' e size v n xs :=
  ⟨h.1, h.2.imp id fun ⟨g, cap, cur, hv, hB, r⟩ => ⟨g, cap, cur, hv, Nat.le_trans hb hB, r⟩⟩

theorem refReads_any (f t c b m l : Int) (w : World) : Calls Try.prog 26 #[.agg #[.int .i64 f, .int .i64 t, .int .i64 c, .int .i64 b, .int .i64 m], .int .i64 l] w fun r w' => r = .returned (.bool (letB l ⟨f, t, c, b, m⟩)) ∧ Below w.heap.size w w' := by
  go_enter Try.func26, Try.ntmps26
  go_wp2_with fail
  go_ret
  exact ⟨ret_bool (by first | rfl | simp [letB]), (Below.refl _ _).alloc (Nat.le_refl _) _⟩
theorem has_letB (f t c b m l : Int) (w : World) : Calls Try.prog 68 #[.agg #[.int .i64 f, .int .i64 t, .int .i64 c, .int .i64 b, .int .i64 m], .int .i64 l] w fun r w' => r = .returned (.bool (letB l ⟨f, t, c, b, m⟩)) ∧ Below w.heap.size w w' := has_any f t c b m l w

set_option maxRecDepth 100000 in
set_option maxHeartbeats 4000000 in
theorem refOut_any (P S K M s l : Int) (A E : Option Addr) (n c ne ce : Nat) (es : List Ed) (w : World) (hE : EdgesAt w E ne es) (hne : ne ≤ 40000) :
    Calls Try.prog 13 #[.agg #[.int .i64 P, .int .i64 S, .slice A n c, .int .i64 K, .int .i64 M, .slice E ne ce], .int .i64 s, .int .i64 l] w fun e w' => ∃ v, e = .returned v ∧ w'.ownsRow w.heap.size 3 1 v (outL es s l ne).length ((outL es s l ne).map (Value.int .i64)) ∧ Below w.heap.size w w' := by
  obtain ⟨i0, hi, hi0, hi1, hi2⟩ := info_parts int_row
  have HA := Lib.hid hE
  clear hE
  go_enter Try.func13, Try.ntmps13
  go_wp2_with fail
  obtain ⟨W0, hW0⟩ : ∃ W0, w.alloc (.cells #[.int .i64 P, .int .i64 S, .slice A n c, .int .i64 K, .int .i64 M, .slice E ne ce] 25) = W0 := ⟨_, rfl⟩
  have hz : w.heap.size < W0.heap.size := by rw [← hW0]; simp
  have HB0 := Lib.hid (show Below w.heap.size w W0 by rw [← hW0]; exact (Below.refl _ _).alloc (Nat.le_refl _) _)
  rw [hW0]
  clear hW0
  go_loopg [7, 13] ne (fun g v i wx => ∃ t : Nat, t + g = ne ∧ i = .int .i64 t ∧ Hid (wx.ownsRow W0.heap.size 3 1 v (outL es s l t).length ((outL es s l t).map (Value.int .i64))) ∧ Hid (Below W0.heap.size W0 wx))
  case atStart => exact ⟨0, by omega, rfl, World.ownsRow_nil _ _ _ _, Below.refl _ _⟩
  case round =>
    obtain ⟨t, htg, rfl, HO, HBx⟩ := hrel
    have hti : (0 : Int) ≤ (t : Int) := by omega
    have HBw := Lib.hid (HB0.out.trans (HBx.out.mono HB0.out.size))
    have hzr := Nat.lt_of_lt_of_le hz HBx.out.size
    cases gk with
    | zero =>
      obtain rfl : ne = t := by omega
      go_wp2_with fail
      go_ret
      exact ⟨_, rfl, own_le' HO.out (Nat.le_of_lt hz), HBw.out⟩
    | succ q =>
      have ht1 : t < ne := by omega
      have hti2 : (t : Int) < (ne : Int) := by omega
      obtain ⟨b, off, rfl, hlt, hcell⟩ := (HA.out.below HBw.out).2 (by omega)
      obtain ⟨c0, c1, c2, c3, c4⟩ := hcell t ht1
      have HY := Lib.hid (fun a b => outL_yes (es := es) (s := s) (l := l) (k := t) a b)
      have HF := Lib.hid (fun a => outL_far (es := es) (s := s) (l := l) (k := t) a)
      have HN := Lib.hid (fun a => outL_no (es := es) (s := s) (l := l) (k := t) a)
      have HLN := Lib.hid (outL_len es s l t)
      generalize es.getD t ed0 = x at *
      obtain ⟨ef, et, ec, eb, em⟩ := x
      simp only at c0 c1 c2 c3 c4
      clear hcell
      by_cases hs : ef = s
      · have HRD := Lib.hid (fun w => refReads_any ef et ec eb em l w)
        obtain ⟨rb, hrb, HRB⟩ : ∃ rb, letB l ⟨ef, et, ec, eb, em⟩ = rb ∧ Hid (letB l ⟨ef, et, ec, eb, em⟩ = rb) := ⟨_, rfl, rfl⟩
        rw [hrb] at HRD
        clear hrb
        have HS := Lib.hid hs
        subst hs
        go_wp2_with fail
        refine (HRD.out _).mono ?_
        rintro r w3 ⟨rfl, hb3⟩
        have HB3 := Lib.hid (((HBx.out.alloc HBx.out.size _).trans (hb3.mono (HBx.out.alloc HBx.out.size _).size)))
        have HO3 := Lib.hid (own_below' (HO.out.alloc _) hb3)
        clear hb3
        cases rb
        · have HN2 := Lib.hid (HN.out HRB.out)
          go_wp2_with fail
          go_roundg q
          case measure => omega
          case rel => exact ⟨t + 1, by omega, by go_num, (by rw [HN2.out]; exact HO3.out), HB3.out⟩
        · have HY2 := Lib.hid (HY.out (by trivial) HRB.out)
          go_wp2_with (at_builtin; refine wpList_append_ints _ (by rfl) _ _ 22 (by rfl) W0.heap.size 3 i0 _ Try.underlying22 hi hi0 hi1 hi2 rfl u7 (outL es ef l t).length ((outL es ef l t).map (Value.int .i64)) (by rfl) (by exact HO3.out.alloc _) (some ⟨w3.heap.size, 0, none⟩) 1 1 [(t : Int)] (by rfl) (ints_one w3 t _) (by have := HLN.out; omega) (by exact (HB3.out.alloc HB3.out.size _).size) ?_)
          intro v' w4 hown hgrow _
          have HB4 := Lib.hid ((HB3.out.alloc HB3.out.size (.cells #[.int .i64 t] 3)).trans (below_own (HO3.out.alloc _) hgrow (HB3.out.alloc HB3.out.size _).size))
          have HO4 := Lib.hid hown
          clear hown hgrow
          go_wp2_with fail
          go_roundg q
          case measure => omega
          case rel => exact ⟨t + 1, by omega, by go_num, (by rw [HY2.out]; have := HO4.out; rw [List.length_append, List.map_append]; exact this), HB4.out⟩
      · have HF2 := Lib.hid (HF.out hs)
        have hs2 : (ef == s) = false := by simpa using hs
        go_wp2_with fail
        go_roundg q
        case measure => omega
        case rel => exact ⟨t + 1, by omega, by go_num, (by rw [HF2.out]; exact HO.out.alloc _), HBx.out.alloc HBx.out.size _⟩

end Go.Proofs.Ytalgbcndifaaiaa.Wd

namespace Go.Proofs.Ytalgbcndifaaiaa.Wd
open Go.RowKit
set_option linter.unusedVariables false

theorem autB_true {P S K M : Int} {st : List Int} {es : List Ed} (h : autB P S K M st es = true) : headP P S K ∧ marksB K M = true ∧ startB S st = true ∧ es.length ≤ 40000 ∧ edgesB P.toNat S M.toNat es = true := by
  unfold autB listsB at h
  simp only [Bool.and_eq_true] at h
  exact ⟨of_decide_eq_true h.1, h.2.1, h.2.2.1, of_decide_eq_true h.2.2.2.1, h.2.2.2.2⟩

/-- What Step comes to: the list and the error. -/
def PickR (P S K M : Int) (st : List Int) (es : List Ed) (s l : Int) (L : List Int) (code : Int) : Prop :=
  (autB P S K M st es = false ∧ L = [] ∧ code = 1) ∨ (autB P S K M st es = true ∧ ¬ (0 ≤ s ∧ s < S ∧ 0 ≤ l ∧ l < 2 ^ P.toNat) ∧ L = [] ∧ code = 6) ∨
  (autB P S K M st es = true ∧ (0 ≤ s ∧ s < S ∧ 0 ≤ l ∧ l < 2 ^ P.toNat) ∧ L = outL es s l es.length ∧ code = 0)
theorem PickR.unique {P S K M : Int} {st : List Int} {es : List Ed} {s l : Int} {L L' : List Int} {c c' : Int} (h : PickR P S K M st es s l L c) (h' : PickR P S K M st es s l L' c') : L = L' ∧ c = c' := by
  rcases h with ⟨a1, rfl, rfl⟩ | ⟨a1, a2, rfl, rfl⟩ | ⟨a1, a2, rfl, rfl⟩ <;> rcases h' with ⟨b1, rfl, rfl⟩ | ⟨b1, b2, rfl, rfl⟩ | ⟨b1, b2, rfl, rfl⟩
  all_goals first | exact ⟨rfl, rfl⟩ | exact absurd b2 a2 | exact absurd a2 b2 | (rw [a1] at b1; cases b1)
def ResS (w w' : World) (P S K M : Int) (st : List Int) (es : List Ed) (s l : Int) (e : Ending) : Prop :=
  ∃ v L code, e = .returned (.tuple #[v, .int .i64 code]) ∧ w'.ownsRow w.heap.size 3 1 v L.length (L.map (Value.int .i64)) ∧ Hid (PickR P S K M st es s l L code) ∧ Below w.heap.size w w'
theorem boxB {w w1 : World} {cs : Array Value} {t : TypeId} (hb : Below (w.alloc (.cells cs t)).heap.size (w.alloc (.cells cs t)) w1) : Below w.heap.size w w1 := ((Below.refl _ _).alloc (Nat.le_refl _) _).trans (hb.mono (by simp))

end Go.Proofs.Ytalgbcndifaaiaa.Wd

namespace Go.Proofs.Ytalgbcndifaaiaa.Wd
open Go.RowKit
set_option linter.unusedVariables false

/-- The numbers below k that f has, as a set of bits. -/
def setN (f : Nat → Bool) : Nat → Nat
  | 0 => 0
  | k + 1 => if f k = true then setN f k ||| 2 ^ k else setN f k
theorem setN_yes {f : Nat → Bool} {k : Nat} (h : f k = true) : setN f (k + 1) = setN f k ||| 2 ^ k := by rw [setN, if_pos h]
theorem setN_no {f : Nat → Bool} {k : Nat} (h : f k = false) : setN f (k + 1) = setN f k := by rw [setN, if_neg (by rw [h]; decide)]
theorem setN_lt (f : Nat → Bool) (k : Nat) : setN f k < 2 ^ k := by
  induction k with
  | zero => simp [setN]
  | succ k ih =>
    have h2 : 2 ^ k < 2 ^ (k + 1) := Nat.pow_lt_pow_right (by decide) (by omega)
    have h1 : setN f k < 2 ^ (k + 1) := Nat.lt_trans ih h2
    cases h : f k
    · rw [setN_no h]; exact h1
    · rw [setN_yes h]; exact Nat.or_lt_two_pow h1 h2
theorem setN_bit (f : Nat → Bool) (k j : Nat) : (setN f k).testBit j = (decide (j < k) && f j) := by
  induction k with
  | zero => simp [setN]
  | succ k ih =>
    cases h : f k
    · rw [setN_no h, ih]
      by_cases hj : j = k
      · subst hj; simp [h]
      · rw [show decide (j < k + 1) = decide (j < k) by rw [decide_eq_decide]; omega]
    · rw [setN_yes h, Nat.testBit_or, ih, Nat.testBit_two_pow]
      by_cases hj : j = k
      · subst hj; simp [h]
      · rw [show decide (j < k + 1) = decide (j < k) by rw [decide_eq_decide]; omega, decide_eq_false (show ¬ k = j by omega), Bool.or_false]

theorem shl_u64 {j : Nat} (hj : j < 64) : IntKind.u64.wrap ((2 : Int) ^ j) = ((2 ^ j : Nat) : Int) := by
  have h : ∀ k : Fin 64, IntKind.u64.wrap ((2 : Int) ^ k.val) = ((2 ^ k.val : Nat) : Int) := by decide +kernel
  exact h ⟨j, hj⟩
theorem pow_six {p : Nat} (hp : p ≤ 6) : IntKind.i64.wrap ((2 : Int) ^ p) = ((2 ^ p : Nat) : Int) ∧ 2 ^ p ≤ 64 := by
  have h : ∀ k : Fin 7, IntKind.i64.wrap ((2 : Int) ^ k.val) = ((2 ^ k.val : Nat) : Int) ∧ 2 ^ k.val ≤ 64 := by decide +kernel
  exact h ⟨p, by omega⟩

/-- The set of an edge's letters. -/
def fitN (p : Nat) (e : Ed) : Nat := setN (fun j => letB (j : Int) e) (2 ^ p)

set_option maxRecDepth 100000 in
set_option maxHeartbeats 4000000 in
theorem fitting_any (p : Nat) (ef et ec eb em : Int) (w : World) (hp : p ≤ 6) :
    Calls Try.prog 40 #[.agg #[.int .i64 ef, .int .i64 et, .int .i64 ec, .int .i64 eb, .int .i64 em], .int .i64 p] w fun r w' => r = .returned (.int .u64 (fitN p ⟨ef, et, ec, eb, em⟩)) ∧ Below w.heap.size w w' := by
  obtain ⟨N, hN, HN⟩ : ∃ N : Nat, IntKind.i64.wrap ((2 : Int) ^ p) = (N : Int) ∧ Hid (2 ^ p = N) := ⟨2 ^ p, (pow_six hp).1, rfl⟩
  have hN64 : N ≤ 64 := by rw [← HN.out]; exact (pow_six hp).2
  have hp0 : (0 : Int) ≤ (p : Int) := by omega
  have hp6 : (p : Int) ≤ 6 := by omega
  have HH := Lib.hid (fun (j : Nat) w => has_letB ef et ec eb em (j : Int) w)
  have HFN := Lib.hid (show fitN p ⟨ef, et, ec, eb, em⟩ = setN (fun j => letB (j : Int) ⟨ef, et, ec, eb, em⟩) N by unfold fitN; rw [HN.out])
  go_enter Try.func40, Try.ntmps40
  go_wp2_with fail
  obtain ⟨W0, hW0⟩ : ∃ W0, w.alloc (.cells #[.int .i64 ef, .int .i64 et, .int .i64 ec, .int .i64 eb, .int .i64 em] 37) = W0 := ⟨_, rfl⟩
  have q0 : W0.cell? ⟨w.heap.size, 0, none⟩ = some (.int .i64 ef) := by rw [← hW0, box_last]; rfl
  have q1 : W0.cell? ⟨w.heap.size, 1, none⟩ = some (.int .i64 et) := by rw [← hW0, box_last]; rfl
  have q2 : W0.cell? ⟨w.heap.size, 2, none⟩ = some (.int .i64 ec) := by rw [← hW0, box_last]; rfl
  have q3 : W0.cell? ⟨w.heap.size, 3, none⟩ = some (.int .i64 eb) := by rw [← hW0, box_last]; rfl
  have q4 : W0.cell? ⟨w.heap.size, 4, none⟩ = some (.int .i64 em) := by rw [← hW0, box_last]; rfl
  have hz : w.heap.size < W0.heap.size := by rw [← hW0]; simp
  have HB0 := Lib.hid (show Below w.heap.size w W0 by rw [← hW0]; exact (Below.refl _ _).alloc (Nat.le_refl _) _)
  rw [hW0]
  clear hW0
  go_loopg [5, 9] N (fun g v i wx => ∃ t : Nat, t + g = N ∧ i = .int .i64 t ∧ v = .int .u64 (setN (fun j => letB (j : Int) ⟨ef, et, ec, eb, em⟩) t) ∧ Hid (Below W0.heap.size W0 wx))
  case atStart => exact ⟨0, by omega, rfl, rfl, Below.refl _ _⟩
  case round =>
    obtain ⟨t, htg, rfl, rfl, HBx⟩ := hrel
    have hti : (0 : Int) ≤ (t : Int) := by omega
    have HBw := Lib.hid (HB0.out.trans (HBx.out.mono HB0.out.size))
    have r0 := (HBx.out.cell (p := ⟨w.heap.size, 0, none⟩) hz).trans q0
    have r1 := (HBx.out.cell (p := ⟨w.heap.size, 1, none⟩) hz).trans q1
    have r2 := (HBx.out.cell (p := ⟨w.heap.size, 2, none⟩) hz).trans q2
    have r3 := (HBx.out.cell (p := ⟨w.heap.size, 3, none⟩) hz).trans q3
    have r4 := (HBx.out.cell (p := ⟨w.heap.size, 4, none⟩) hz).trans q4
    have hzr := Nat.lt_of_lt_of_le hz HBx.out.size
    cases gk with
    | zero =>
      obtain rfl : N = t := by omega
      go_wp2_with fail
      go_ret
      exact ⟨by rw [HFN.out]; rfl, HBw.out⟩
    | succ q =>
      have ht1 : t < N := by omega
      have hti2 : (t : Int) < (N : Int) := by omega
      have ht64 : t < 64 := by omega
      have HY := Lib.hid (fun h => setN_yes (f := fun j => letB (j : Int) ⟨ef, et, ec, eb, em⟩) (k := t) h)
      have HNO := Lib.hid (fun h => setN_no (f := fun j => letB (j : Int) ⟨ef, et, ec, eb, em⟩) (k := t) h)
      have HLT := Lib.hid (setN_lt (fun j => letB (j : Int) ⟨ef, et, ec, eb, em⟩) t)
      generalize setN (fun j => letB (j : Int) ⟨ef, et, ec, eb, em⟩) t = x at *
      have hx64 : x < 18446744073709551616 := Nat.lt_of_lt_of_le HLT.out (Nat.le_trans (Nat.pow_le_pow_right (by decide) (show t ≤ 64 by omega)) (by decide))
      have ht64' : 2 ^ t < 18446744073709551616 := Nat.lt_of_lt_of_le (Nat.pow_lt_pow_right (by decide) ht64) (by decide)
      obtain ⟨Y, hY, hor⟩ : ∃ Y : Int, IntKind.u64.wrap ((2 : Int) ^ t) = Y ∧ bits .or .u64 (x : Int) Y = ((x ||| 2 ^ t : Nat) : Int) := ⟨_, shl_u64 ht64, bits_or_u64_nat x (2 ^ t) hx64 ht64'⟩
      clear hx64 ht64'
      obtain ⟨Z, hZ, HZ⟩ : ∃ Z : Nat, x ||| 2 ^ t = Z ∧ Hid (x ||| 2 ^ t = Z) := ⟨_, rfl, rfl⟩
      rw [hZ] at hor
      clear hZ
      have HT := Lib.hid (fun w => HH.out t w)
      obtain ⟨rb, hrb, HRB⟩ : ∃ rb, letB (t : Int) ⟨ef, et, ec, eb, em⟩ = rb ∧ Hid (letB (t : Int) ⟨ef, et, ec, eb, em⟩ = rb) := ⟨_, rfl, rfl⟩
      rw [hrb] at HT
      clear hrb
      have ht63 : (t : Int) < 64 := by omega
      go_wp2_with fail
      refine (HT.out _).mono ?_
      rintro r w3 ⟨rfl, hb3⟩
      have HB3 := Lib.hid (HBx.out.trans (hb3.mono HBx.out.size))
      clear hb3
      cases rb
      · have HN2 := Lib.hid (HNO.out HRB.out)
        go_wp2_with fail
        go_roundg q
        case measure => omega
        case rel => exact ⟨t + 1, by omega, by go_num, (by rw [HN2.out]), HB3.out⟩
      · have HN2 := Lib.hid (HY.out HRB.out)
        go_wp2_with fail
        go_roundg q
        case measure => omega
        case rel => exact ⟨t + 1, by omega, by go_num, (by rw [HN2.out, HZ.out]), HB3.out⟩

end Go.Proofs.Ytalgbcndifaaiaa.Wd

namespace Go.Proofs.Ytalgbcndifaaiaa.Wd
open Go.RowKit
set_option linter.unusedVariables false

theorem set_info : (Try.prog.info? 78).map (fun i => (i.zero, i.size, i.bytes)) = some (some (.int .u64 0), 1, 8) := by kernel_rfl

/-- The letters of the first k edges that leave s. -/
def setsN (p : Nat) (es : List Ed) : Nat → Nat → Nat
  | 0, _ => 0
  | k + 1, s => if (es.getD k ed0).f = (s : Int) then setsN p es k s ||| fitN p (es.getD k ed0) else setsN p es k s
/-- Have two of the first k edges a letter in common? -/
def clashB (p : Nat) (es : List Ed) : Nat → Bool
  | 0 => false
  | k + 1 => clashB p es k || decide (setsN p es k (es.getD k ed0).f.toNat &&& fitN p (es.getD k ed0) ≠ 0)
theorem fitN_lt {p : Nat} (hp : p ≤ 6) (e : Ed) : fitN p e < 18446744073709551616 :=
  Nat.lt_of_lt_of_le (setN_lt _ _) (Nat.le_trans (Nat.pow_le_pow_right (by decide) (pow_six hp).2) (by decide))
theorem setsN_lt {p : Nat} (hp : p ≤ 6) (es : List Ed) (k s : Nat) : setsN p es k s < 18446744073709551616 := by
  induction k with
  | zero => simp [setsN]
  | succ k ih =>
    unfold setsN
    split
    · exact Nat.or_lt_two_pow (n := 64) ih (fitN_lt hp _)
    · exact ih
theorem setsN_same {p : Nat} {es : List Ed} {k s : Nat} (h : (es.getD k ed0).f = (s : Int)) : setsN p es (k + 1) s = setsN p es k s ||| fitN p (es.getD k ed0) := by rw [setsN, if_pos h]
theorem setsN_other {p : Nat} {es : List Ed} {k s : Nat} (h : ¬ (es.getD k ed0).f = (s : Int)) : setsN p es (k + 1) s = setsN p es k s := by rw [setsN, if_neg h]
theorem clashB_step {p : Nat} {es : List Ed} {k f : Nat} (h : (es.getD k ed0).f = (f : Int)) : clashB p es (k + 1) = (clashB p es k || decide (setsN p es k f &&& fitN p (es.getD k ed0) ≠ 0)) := by
  rw [clashB, h, Int.toNat_natCast]

theorem boxA {w w1 : World} {cs : Array Value} {t : TypeId} (hb : Below (w.alloc (.cells cs t)).heap.size (w.alloc (.cells cs t)) w1) : Below w.heap.size w w1 := ((Below.refl _ _).alloc (Nat.le_refl _) _).trans (hb.mono (by simp))

set_option maxRecDepth 100000 in
set_option maxHeartbeats 8000000 in
theorem lettersOf_any (p S : Nat) (K M : Int) (A E : Option Addr) (n c ne ce : Nat) (es : List Ed) (w : World) (hE : EdgesAt w E ne es) (hp : p ≤ 6) (hS : S ≤ 3000) (hne : ne ≤ 40000)
    (hfr : ∀ j, j < ne → ∃ f : Nat, (es.getD j ed0).f = (f : Int) ∧ f < S) :
    Calls Try.prog 20 #[.agg #[.int .i64 p, .int .i64 S, .slice A n c, .int .i64 K, .int .i64 M, .slice E ne ce]] w fun r w' =>
      ∃ b, r = .returned (.tuple #[.slice (some ⟨b, 0, none⟩) S S, .bool (clashB p es ne)]) ∧ w'.rowIs b 78 S (fun s => .int .u64 (setsN p es ne s)) ∧ w.heap.size ≤ b ∧ Below w.heap.size w w' := by
  have hmk := run_make_row' (P := Try.prog) 48 78 (.int .u64 0) 8 Try.underlying48 set_info rfl .i64 .i64 S (by omega) (by omega)
  have HA := Lib.hid hE
  have HFR := Lib.hid hfr
  clear hE hfr
  go_enter Try.func20, Try.ntmps20
  go_wp2_with fail
  obtain ⟨W0, hW0⟩ : ∃ W0, w.alloc (.cells #[.int .i64 p, .int .i64 S, .slice A n c, .int .i64 K, .int .i64 M, .slice E ne ce] 25) = W0 := ⟨_, rfl⟩
  have q0 : W0.cell? ⟨w.heap.size, 0, none⟩ = some (.int .i64 p) := by rw [← hW0, box_last]; rfl
  have hz : W0.heap.size = w.heap.size + 1 := by rw [← hW0]; simp
  have HB0 := Lib.hid (show Below w.heap.size w W0 by rw [← hW0]; exact (Below.refl _ _).alloc (Nat.le_refl _) _)
  rw [hW0]
  clear hW0
  obtain ⟨W1, hW1⟩ : ∃ W1, W0.alloc (.cells (madeCells #[.int .u64 0] S) 78) = W1 := ⟨_, rfl⟩
  have HR0 := Lib.hid (show W1.rowIs (w.heap.size + 1) 78 S (fun _ => .int .u64 0) by rw [← hW1, ← hz]; exact World.rowIs_made W0 _ S _)
  have HB1 := Lib.hid (show Below (w.heap.size + 1) W0 W1 by rw [← hW1, ← hz]; exact (Below.refl _ _).alloc (Nat.le_refl _) _)
  have hz1 : W1.heap.size = w.heap.size + 2 := by rw [← hW1]; simp [hz]
  rw [hW1]
  clear hW1
  go_loopg [3, 13] ne (fun g cl i wx => ∃ t : Nat, t + g = ne ∧ i = .int .i64 t ∧ cl = .bool (clashB p es t) ∧ Hid (wx.rowIs (w.heap.size + 1) 78 S (fun s => .int .u64 (setsN p es t s))) ∧ Hid (Below (w.heap.size + 1) W0 wx))
  case atStart => exact ⟨0, by omega, rfl, rfl, HR0.out, HB1.out⟩
  case round =>
    obtain ⟨t, htg, rfl, rfl, HR, HBx⟩ := hrel
    have hti : (0 : Int) ≤ (t : Int) := by omega
    have HBw := Lib.hid (HB0.out.trans (HBx.out.mono (by omega)))
    have r0 := (HBx.out.cell (p := ⟨w.heap.size, 0, none⟩) (by simp)).trans q0
    have hzr : w.heap.size + 1 < wr.heap.size := HR.out.lt
    have hzr0 : w.heap.size < wr.heap.size := by omega
    cases gk with
    | zero =>
      obtain rfl : ne = t := by omega
      go_wp2_with fail
      go_ret2
      exact ⟨_, rfl, HR.out, by omega, HBw.out⟩
    | succ q =>
      have ht1 : t < ne := by omega
      have hti2 : (t : Int) < (ne : Int) := by omega
      obtain ⟨b, off, rfl, hlt, hcell⟩ := (HA.out.below HBw.out).2 (by omega)
      obtain ⟨c0, c1, c2, c3, c4⟩ := hcell t ht1
      obtain ⟨f, hf, hfS⟩ := HFR.out t ht1
      have HCL := Lib.hid (clashB_step (p := p) hf)
      have HSS := Lib.hid (setsN_same (p := p) hf)
      have HSO := Lib.hid (fun s (hs : ¬ s = f) => setsN_other (p := p) (es := es) (k := t) (s := s) (by rw [hf]; omega))
      have hx64 := setsN_lt hp es t f
      generalize es.getD t ed0 = x at *
      obtain ⟨ef, et, ec, eb, em⟩ := x
      simp only at c0 c1 c2 c3 c4 hf
      subst hf
      clear hcell
      have hf0 : (0 : Int) ≤ (f : Int) := by omega
      have hf1 : (f : Int) < (S : Int) := by omega
      have HFT := Lib.hid (fun w => fitting_any p f et ec eb em w hp)
      have hy64 := fitN_lt hp ⟨f, et, ec, eb, em⟩
      generalize fitN p ⟨f, et, ec, eb, em⟩ = y at *
      have hcx : wr.cell? ⟨w.heap.size + 1, f, none⟩ = some (.int .u64 (setsN p es t f)) := HR.out.cell hfS
      generalize hsx : setsN p es t f = x at *
      have hor := bits_or_u64_nat x y hx64 hy64
      have hand := bits_and_u64_nat x y hx64 hy64
      clear hx64 hy64
      go_wp2_with fail
      refine (HFT.out _).mono ?_
      rintro r w3 ⟨rfl, hb3⟩
      have hbx3 := box_at hb3
      have d0 : w3.cell? ⟨wr.heap.size, 0, none⟩ = some (.int .i64 f) := hbx3.2 0
      have hd0 := hbx3.1
      have HBB := Lib.hid (show Below wr.heap.size wr w3 from boxA hb3)
      have hcx3 : w3.cell? ⟨w.heap.size + 1, f, none⟩ = some (.int .u64 x) := (HBB.out.cell hzr).trans hcx
      have hfz3 : w3.frozen? ⟨w.heap.size + 1, f, none⟩ = false := (HBB.out.frozen hzr).trans (HR.out.frozen f)
      have HR3 := Lib.hid (HR.out.of_block (HBB.out.block _ hzr))
      have HB3 := Lib.hid (HBx.out.trans (HBB.out.mono (by omega)))
      have hz3 : w.heap.size + 1 < w3.heap.size := Nat.lt_of_lt_of_le hzr HBB.out.size
      clear hb3 hbx3 hcx
      obtain ⟨Z, hZ, HZ⟩ : ∃ Z : Nat, x ||| y = Z ∧ Hid (x ||| y = Z) := ⟨_, rfl, rfl⟩
      rw [hZ] at hor HSS
      clear hZ
      have HRN := Lib.hid ((HR3.out.set f (.int .u64 (Z : Int))).congr (g := fun s => .int .u64 (setsN p es (t + 1) s)) (by
        intro j hj
        by_cases h : j = f
        · subst h; simp only [if_true]; rw [HSS.out]
        · simp only [if_neg h]; rw [HSO.out j h]))
      have HBN := Lib.hid (HB3.out.setCell (p := ⟨w.heap.size + 1, f, none⟩) (by simp) (.int .u64 (Z : Int)))
      cases hcl : clashB p es t
      · rw [hcl, Bool.false_or] at HCL
        by_cases ha : x &&& y = 0
        · rw [ha] at hand
          rw [decide_eq_false (by simp [ha])] at HCL
          go_wp2_with fail
          go_roundg q
          case measure => omega
          case rel => exact ⟨t + 1, by omega, by go_num, (by rw [HCL.out]), HRN.out, HBN.out⟩
        · rw [decide_eq_true (show x &&& y ≠ 0 from ha)] at HCL
          obtain ⟨a, ha2, hane⟩ : ∃ a : Nat, x &&& y = a ∧ a ≠ 0 := ⟨_, rfl, ha⟩
          rw [ha2] at hand
          have hb1 : ((a : Int) == 0) = false := by simpa using hane
          have hb2 : ((a : Int) != 0) = true := by simpa using hane
          have hb3 : decide ((a : Int) = 0) = false := by simpa using hane
          clear ha ha2
          go_wp2_with fail
          go_roundg q
          case measure => omega
          case rel => exact ⟨t + 1, by omega, by go_num, (by rw [HCL.out]), HRN.out, HBN.out⟩
      · rw [hcl, Bool.true_or] at HCL
        go_wp2_with fail
        go_roundg q
        case measure => omega
        case rel => exact ⟨t + 1, by omega, by go_num, (by rw [HCL.out]), HRN.out, HBN.out⟩

end Go.Proofs.Ytalgbcndifaaiaa.Wd

namespace Go.Proofs.Ytalgbcndifaaiaa.Wd
open Go.RowKit
set_option linter.unusedVariables false

/-- The edges of a valid automaton start at states. -/
theorem from_state {P M : Nat} {S : Nat} {es : List Ed} (h : edgesB P S M es = true) : ∀ j, j < es.length → ∃ f : Nat, (es.getD j ed0).f = (f : Int) ∧ f < S := by
  intro j hj
  have h1 := List.all_eq_true.1 h es[j] (List.getElem_mem hj)
  have h2 := (of_decide_eq_true h1).1
  rw [List.getD_eq_getElem?_getD, List.getElem?_eq_getElem hj]
  simp only [Option.getD_some]
  exact ⟨es[j].f.toNat, by omega, by omega⟩

/-- Have all of the first k states all letters? -/
def fullB (p : Nat) (es : List Ed) (S : Nat) : Bool := (List.range S).all fun s => decide (setsN p es es.length s = fitN p ed0)
/-- Of the first k states. -/
theorem fullB_bad {p : Nat} {es : List Ed} {S s : Nat} (hs : s < S) (h : ¬ setsN p es es.length s = fitN p ed0) : fullB p es S = false := by
  unfold fullB
  rw [Bool.eq_false_iff]
  intro ht
  exact h (of_decide_eq_true (List.all_eq_true.1 ht s (List.mem_range.2 hs)))
theorem fullB_step {p : Nat} {es : List Ed} {s : Nat} (hp : fullB p es s = true) (h : setsN p es es.length s = fitN p ed0) : fullB p es (s + 1) = true := by
  unfold fullB at *
  rw [List.range_succ, List.all_append, hp]
  simpa using h

theorem full_any (p : Nat) (w : World) (hp : p ≤ 6) : Calls Try.prog 41 #[.int .i64 p] w fun r w' => r = .returned (.int .u64 (fitN p ed0)) ∧ Below w.heap.size w w' := by
  have HF := Lib.hid (fun w => fitting_any p 0 0 0 0 0 w hp)
  go_enter Try.func41, Try.ntmps41
  go_wp2_with fail
  refine (HF.out _).mono ?_
  rintro r w1 ⟨rfl, hb1⟩
  go_wp2_with fail
  go_ret
  exact ⟨rfl, hb1⟩

set_option maxRecDepth 100000 in
set_option maxHeartbeats 4000000 in
theorem allFull_any (p S b : Nat) (es : List Ed) (w : World) (hp : p ≤ 6) (hS : S ≤ 3000) (hr : w.rowIs b 78 S (fun s => .int .u64 (setsN p es es.length s))) :
    Calls Try.prog 21 #[.slice (some ⟨b, 0, none⟩) S S, .int .i64 p] w fun r w' => r = .returned (.bool (fullB p es S)) ∧ Below w.heap.size w w' := by
  have HR := Lib.hid hr
  have HF := Lib.hid (fun w => full_any p w hp)
  obtain ⟨F, hF, HFF⟩ : ∃ F, fitN p ed0 = F ∧ Hid (fitN p ed0 = F) := ⟨_, rfl, rfl⟩
  rw [hF] at HF
  clear hF hr
  go_enter Try.func21, Try.ntmps21
  go_wp2_with fail
  go_loopg [9] S (fun g i wx => ∃ t : Nat, t + g = S ∧ i = .int .i64 t ∧ Hid (fullB p es t = true) ∧ Hid (Below w.heap.size w wx))
  case atStart => exact ⟨0, by omega, rfl, rfl, Below.refl _ _⟩
  case round =>
    obtain ⟨t, htg, rfl, HP, HBx⟩ := hrel
    have hti : (0 : Int) ≤ (t : Int) := by omega
    cases gk with
    | zero =>
      obtain rfl : S = t := by omega
      go_wp2_with fail
      go_ret
      exact ⟨ret_bool HP.out.symm, HBx.out⟩
    | succ q =>
      have ht1 : t < S := by omega
      have hti2 : (t : Int) < (S : Int) := by omega
      have hbl := HR.out.lt
      have hbr : b < wr.heap.size := Nat.lt_of_lt_of_le hbl HBx.out.size
      have hc : wr.cell? ⟨b, t, none⟩ = some (.int .u64 (setsN p es es.length t)) := (HBx.out.cell hbl).trans (HR.out.cell ht1)
      have HBD := Lib.hid (fun h => fullB_bad (p := p) (es := es) (S := S) ht1 h)
      have HST := Lib.hid (fun h => fullB_step HP.out h)
      rw [HFF.out] at HBD HST
      generalize setsN p es es.length t = x at *
      go_wp2_with fail
      refine (HF.out _).mono ?_
      rintro r w1 ⟨rfl, hb1⟩
      have HB1 := Lib.hid (HBx.out.trans (hb1.mono HBx.out.size))
      clear hb1
      by_cases hx : x = F
      · have HN := Lib.hid (HST.out hx)
        subst hx
        go_wp2_with fail
        go_roundg q
        case measure => omega
        case rel => exact ⟨t + 1, by omega, by go_num, HN, HB1⟩
      · have HN := Lib.hid (HBD.out hx)
        have hx4 : ¬ (x : Int) = (F : Int) := by omega
        have hx1 : ((x : Int) == (F : Int)) = false := by rw [beq_eq_false_iff_ne]; exact hx4
        have hx2 : ((x : Int) != (F : Int)) = true := by rw [bne_iff_ne]; exact hx4
        have hx3 : decide ((x : Int) = (F : Int)) = false := decide_eq_false hx4
        go_wp2_with fail
        go_ret
        exact ⟨ret_bool HN.out.symm, HB1.out⟩

/-- What Deterministic comes to. -/
def DetR (P S K M : Int) (st : List Int) (es : List Ed) (r : Bool) (code : Int) : Prop :=
  (autB P S K M st es = false ∧ r = false ∧ code = 1) ∨ (autB P S K M st es = true ∧ r = (decide (st.length = 1) && !clashB P.toNat es es.length) ∧ code = 0)
/-- What Complete comes to. -/
def ComR (P S K M : Int) (st : List Int) (es : List Ed) (r : Bool) (code : Int) : Prop :=
  (autB P S K M st es = false ∧ r = false ∧ code = 1) ∨ (autB P S K M st es = true ∧ r = fullB P.toNat es S.toNat ∧ code = 0)
theorem DetR.unique {P S K M : Int} {st : List Int} {es : List Ed} {r r' : Bool} {c c' : Int} (h : DetR P S K M st es r c) (h' : DetR P S K M st es r' c') : r = r' ∧ c = c' := by
  rcases h with ⟨a1, rfl, rfl⟩ | ⟨a1, rfl, rfl⟩ <;> rcases h' with ⟨b1, rfl, rfl⟩ | ⟨b1, rfl, rfl⟩
  all_goals first | exact ⟨rfl, rfl⟩ | (rw [a1] at b1; cases b1)
theorem ComR.unique {P S K M : Int} {st : List Int} {es : List Ed} {r r' : Bool} {c c' : Int} (h : ComR P S K M st es r c) (h' : ComR P S K M st es r' c') : r = r' ∧ c = c' := by
  rcases h with ⟨a1, rfl, rfl⟩ | ⟨a1, rfl, rfl⟩ <;> rcases h' with ⟨b1, rfl, rfl⟩ | ⟨b1, rfl, rfl⟩
  all_goals first | exact ⟨rfl, rfl⟩ | (rw [a1] at b1; cases b1)
def ResB (R : Bool → Int → Prop) (w w' : World) (e : Ending) : Prop := ∃ r code, e = .returned (.tuple #[.bool r, .int .i64 code]) ∧ Hid (R r code) ∧ Below w.heap.size w w'

set_option maxRecDepth 100000 in
set_option maxHeartbeats 2000000 in
theorem det_bad (P S K M : Int) (A E : Option Addr) (n c ne ce : Nat) (st : List Int) (es : List Ed) (w : World) (ha : Ints w A n st) (hn : n ≤ 17592186044416) (he : EdgesAt w E ne es) (hne : ne ≤ 17592186044416) (hv : autB P S K M st es = false) :
    Calls Try.prog 33 #[.agg #[.int .i64 P, .int .i64 S, .slice A n c, .int .i64 K, .int .i64 M, .slice E ne ce]] w fun e w' => ResB (DetR P S K M st es) w w' e := by
  have HV := Lib.hid (fun W (hW : Below w.heap.size w W) => autValid_any P S K M A E n c ne ce st es W (ha.below hW) hn (he.below hW) hne)
  have HF := Lib.hid hv
  rw [hv] at HV
  clear hv ha he
  go_enter Try.func33, Try.ntmps33
  go_wp2_with fail
  refine (HV.out _ ((Below.refl _ _).alloc (Nat.le_refl _) _)).mono ?_
  rintro r w1 ⟨rfl, hb1⟩
  have HB1 := Lib.hid (boxB hb1)
  clear hb1
  go_wp2_with fail
  go_ret2
  exact ⟨_, _, rfl, .inl ⟨HF.out, rfl, rfl⟩, HB1.out⟩

set_option maxRecDepth 100000 in
set_option maxHeartbeats 4000000 in
theorem det_good (p S : Nat) (K M : Int) (A E : Option Addr) (n c ne ce : Nat) (st : List Int) (es : List Ed) (w : World) (ha : Ints w A n st) (hn : n ≤ 17592186044416) (hE : EdgesAt w E ne es) (hne : ne ≤ 40000) (hp : p ≤ 6) (hS : S ≤ 3000) (hv : autB p S K M st es = true) (hes : edgesB p S M.toNat es = true) :
    Calls Try.prog 33 #[.agg #[.int .i64 p, .int .i64 S, .slice A n c, .int .i64 K, .int .i64 M, .slice E ne ce]] w fun e w' => ResB (DetR p S K M st es) w w' e := by
  have HV := Lib.hid (fun W (hW : Below w.heap.size w W) => autValid_any p S K M A E n c ne ce st es W (ha.below hW) hn (hE.below hW) (by omega))
  have HV2 := Lib.hid hv
  have hfr : ∀ j, j < ne → ∃ f : Nat, (es.getD j ed0).f = (f : Int) ∧ f < S := fun j hj => from_state hes j (by rw [hE.1]; exact hj)
  have HLT := Lib.hid (fun W (hW : Below w.heap.size w W) => lettersOf_any p S K M A E n c ne ce es W (hE.below hW) hp hS hne hfr)
  have HX := Lib.hid (Box6.new w p S A n c K M E ne ce 25)
  have HL := Lib.hid hE.1
  have HN := Lib.hid ha.1
  rw [hv] at HV
  obtain ⟨cl, hcl, HCL⟩ : ∃ cl, clashB p es ne = cl ∧ Hid (clashB p es ne = cl) := ⟨_, rfl, rfl⟩
  rw [hcl] at HLT
  clear hv ha hE hes hfr hcl
  go_enter Try.func33, Try.ntmps33
  go_wp2_with fail
  refine (HV.out _ ((Below.refl _ _).alloc (Nat.le_refl _) _)).mono ?_
  rintro r w1 ⟨rfl, hb1⟩
  have HX1 := Lib.hid (HX.out.below hb1)
  obtain ⟨hz, p0, p1, p2, p3, p4, p5⟩ := HX1.out
  have HB1 := Lib.hid (boxB hb1)
  clear hb1
  go_wp2_with fail
  refine (HLT.out _ HB1.out).mono ?_
  rintro r w2 ⟨b, rfl, _, _, hb2⟩
  have HX2 := Lib.hid (HX1.out.below hb2)
  have HB2 := Lib.hid (HB1.out.trans (hb2.mono HB1.out.size))
  clear hz p0 p1 p2 p3 p4 p5 hb2
  obtain ⟨hz, p0, p1, p2, p3, p4, p5⟩ := HX2.out
  have HR := Lib.hid (fun r (h : r = (decide (n = 1) && !cl)) => show DetR p S K M st es r 0 from .inr ⟨HV2.out, by rw [h, HL.out, HN.out, Int.toNat_natCast, HCL.out], rfl⟩)
  by_cases h1 : n = 1
  · subst h1
    cases cl
    · have HQ := Lib.hid (HR.out true rfl)
      go_wp2_with fail
      go_ret2
      exact ⟨_, _, rfl, HQ, HB2.out⟩
    · have HQ := Lib.hid (HR.out false rfl)
      go_wp2_with fail
      go_ret2
      exact ⟨_, _, rfl, HQ, HB2.out⟩
  · have HQ := Lib.hid (HR.out false (by rw [decide_eq_false h1]; rfl))
    have h2 : ((n : Int) == 1) = false := by simp; omega
    have h3 : ¬ (n : Int) = 1 := by omega
    have h4 : decide ((n : Int) = 1) = false := decide_eq_false h3
    go_wp2_with fail
    go_ret2
    exact ⟨_, _, rfl, HQ, HB2.out⟩

theorem det_any (P S K M : Int) (A E : Option Addr) (n c ne ce : Nat) (st : List Int) (es : List Ed) (w : World) (ha : Ints w A n st) (hn : n ≤ 17592186044416) (he : EdgesAt w E ne es) (hne : ne ≤ 17592186044416) :
    Calls Try.prog 33 #[.agg #[.int .i64 P, .int .i64 S, .slice A n c, .int .i64 K, .int .i64 M, .slice E ne ce]] w fun e w' => ResB (DetR P S K M st es) w w' e := by
  cases hv : autB P S K M st es
  · exact det_bad P S K M A E n c ne ce st es w ha hn he hne hv
  · obtain ⟨⟨h1, h2, h5, h6, _⟩, _, _, h4, h7⟩ := autB_true hv
    obtain ⟨p, rfl⟩ := Int.eq_ofNat_of_zero_le h1
    obtain ⟨s, rfl⟩ := Int.eq_ofNat_of_zero_le h5
    have h3 := he.1
    exact det_good p s K M A E n c ne ce st es w ha hn he (by omega) (by omega) (by omega) hv h7
end Go.Proofs.Ytalgbcndifaaiaa.Wd

namespace Go.Proofs.Ytalgbcndifaaiaa.Wd
open Go Go.RowKit
set_option linter.unusedVariables false

theorem and_i64 (a b : Nat) (ha : a < 2 ^ 62) (hb : b < 2 ^ 62) : bits .and .i64 (a : Int) (b : Int) = ((a &&& b : Nat) : Int) :=
  (bits_nat .i64 62 (by decide) (fun n h0 h1 => by rw [IntKind.wrap_i64]; omega) a b ha hb).1

/-- Bits that are all among those of a small set are a small number. -/
theorem bits_among {b : Int} {c : Nat} (hr : -9223372036854775808 ≤ b ∧ b < 9223372036854775808) (hc : c < 64) (h : bits .andNot .i64 b (c : Int) = 0) : ∃ n : Nat, b = (n : Int) ∧ n ≤ c ∧ n &&& c = n := by
  have h1 : IntKind.i64.wrap (((BitVec.ofInt 64 b &&& ~~~ BitVec.ofInt 64 (c : Int)).toNat : Nat) : Int) = 0 := h
  generalize hB : BitVec.ofInt 64 b = B at h1
  generalize hC : BitVec.ofInt 64 (c : Int) = C at h1
  have h2 : (B &&& ~~~ C).toNat < 2 ^ 64 := (B &&& ~~~ C).isLt
  rw [IntKind.wrap_i64] at h1
  have h3 : (B &&& ~~~ C).toNat = 0 := by omega
  have h4 : B &&& ~~~ C = 0#64 := BitVec.eq_of_toNat_eq (by simpa using h3)
  have h5 : B &&& C = B := by
    apply BitVec.eq_of_getLsbD_eq
    intro i hi
    have h6 : (B &&& ~~~ C).getLsbD i = false := by rw [h4]; simp
    rw [BitVec.getLsbD_and, BitVec.getLsbD_not] at h6
    rw [BitVec.getLsbD_and]
    cases hb : B.getLsbD i <;> cases hc : C.getLsbD i <;> simp_all
  have h7 : C.toNat = c := by
    rw [← hC, BitVec.ofInt_natCast, BitVec.toNat_ofNat]
    omega
  have h8 : B.toNat &&& c = B.toNat := by rw [← h7, ← BitVec.toNat_and, h5]
  have h9 : B.toNat ≤ c := by rw [← h8]; exact Nat.and_le_right
  have h10 : B.toNat = (b % ((2 ^ 64 : Nat) : Int)).toNat := by rw [← hB, BitVec.toNat_ofInt]
  exact ⟨B.toNat, by omega, h9, h8⟩

/-- A letter in common. -/
theorem common_letter {p c c' b b' : Nat} (hc : c < 2 ^ p) (hc' : c' < 2 ^ p) (hb : b &&& c = b) (hb' : b' &&& c' = b') : (∃ l, l < 2 ^ p ∧ l &&& c = b ∧ l &&& c' = b') ↔ b' &&& c = b &&& c' := by
  constructor
  · rintro ⟨l, _, rfl, rfl⟩
    rw [Nat.and_assoc, Nat.and_assoc, Nat.and_comm c' c]
  · intro h
    have hbl : b < 2 ^ p := by rw [← hb]; exact Nat.and_lt_two_pow _ hc
    have hbl' : b' < 2 ^ p := by rw [← hb']; exact Nat.and_lt_two_pow _ hc'
    have key : ∀ i, (b.testBit i = true → c.testBit i = true) ∧ (b'.testBit i = true → c'.testBit i = true) ∧ ((b'.testBit i && c.testBit i) = (b.testBit i && c'.testBit i)) := by
      intro i
      have h1 := congrArg (fun n => Nat.testBit n i) hb
      have h2 := congrArg (fun n => Nat.testBit n i) hb'
      have h3 := congrArg (fun n => Nat.testBit n i) h
      simp only [Nat.testBit_and] at h1 h2 h3
      refine ⟨fun hx => ?_, fun hx => ?_, h3⟩
      · rw [hx] at h1; simpa using h1
      · rw [hx] at h2; simpa using h2
    refine ⟨b ||| b', Nat.or_lt_two_pow hbl hbl', ?_, ?_⟩
    · apply Nat.eq_of_testBit_eq
      intro i
      obtain ⟨k1, k2, k3⟩ := key i
      rw [Nat.testBit_and, Nat.testBit_or]
      cases h1 : b.testBit i <;> cases h2 : b'.testBit i <;> cases h3 : c.testBit i <;> cases h4 : c'.testBit i <;> simp_all
    · apply Nat.eq_of_testBit_eq
      intro i
      obtain ⟨k1, k2, k3⟩ := key i
      rw [Nat.testBit_and, Nat.testBit_or]
      cases h1 : b.testBit i <;> cases h2 : b'.testBit i <;> cases h3 : c.testBit i <;> cases h4 : c'.testBit i <;> simp_all

theorem fitN_bit (p : Nat) (e : Ed) (j : Nat) : (fitN p e).testBit j = (decide (j < 2 ^ p) && letB (j : Int) e) := setN_bit _ _ _
theorem setsN_bit (p : Nat) (es : List Ed) (k s j : Nat) : (setsN p es k s).testBit j = true ↔ ∃ i, i < k ∧ (es.getD i ed0).f = (s : Int) ∧ (fitN p (es.getD i ed0)).testBit j = true := by
  induction k with
  | zero => simp [setsN]
  | succ k ih =>
    by_cases h : (es.getD k ed0).f = (s : Int)
    · rw [setsN_same h, Nat.testBit_or, Bool.or_eq_true, ih]
      constructor
      · rintro (⟨i, h1, h2, h3⟩ | h1)
        · exact ⟨i, by omega, h2, h3⟩
        · exact ⟨k, by omega, h, h1⟩
      · rintro ⟨i, h1, h2, h3⟩
        by_cases e : i = k
        · subst e; exact .inr h3
        · exact .inl ⟨i, by omega, h2, h3⟩
    · rw [setsN_other h, ih]
      constructor
      · rintro ⟨i, h1, h2, h3⟩
        exact ⟨i, by omega, h2, h3⟩
      · rintro ⟨i, h1, h2, h3⟩
        by_cases e : i = k
        · subst e; exact absurd h2 h
        · exact ⟨i, by omega, h2, h3⟩
theorem and_ne_zero {a b : Nat} : a &&& b ≠ 0 ↔ ∃ j, a.testBit j = true ∧ b.testBit j = true := by
  constructor
  · intro h
    obtain ⟨j, hj⟩ := Nat.exists_testBit_of_ne_zero h
    rw [Nat.testBit_and, Bool.and_eq_true] at hj
    exact ⟨j, hj⟩
  · rintro ⟨j, h1, h2⟩ h
    have h3 : (a &&& b).testBit j = true := by rw [Nat.testBit_and, h1, h2]; rfl
    rw [h, Nat.zero_testBit] at h3
    cases h3
/-- Two edges with a letter in common. -/
def Meet (p : Nat) (e e' : Ed) : Prop := ∃ l : Nat, l < 2 ^ p ∧ letB (l : Int) e = true ∧ letB (l : Int) e' = true
theorem clashB_iff (p : Nat) (es : List Ed) (k : Nat) (hf : ∀ i, i < k → ∃ f : Nat, (es.getD i ed0).f = (f : Int)) : clashB p es k = true ↔ ∃ i j, i < j ∧ j < k ∧ (es.getD i ed0).f = (es.getD j ed0).f ∧ Meet p (es.getD i ed0) (es.getD j ed0) := by
  induction k with
  | zero => simp [clashB]
  | succ k ih =>
    obtain ⟨f, hfk⟩ := hf k (by omega)
    rw [clashB_step hfk, Bool.or_eq_true, ih (fun i hi => hf i (by omega)), decide_eq_true_eq, and_ne_zero]
    constructor
    · rintro (⟨i, j, h1, h2, h3⟩ | ⟨l, h1, h2⟩)
      · exact ⟨i, j, h1, by omega, h3⟩
      · obtain ⟨i, h3, h4, h5⟩ := (setsN_bit p es k f l).1 h1
        rw [fitN_bit, Bool.and_eq_true] at h2 h5
        exact ⟨i, k, h3, by omega, h4.trans hfk.symm, l, of_decide_eq_true h2.1, h5.2, h2.2⟩
    · rintro ⟨i, j, h1, h2, h3, l, h4, h5, h6⟩
      by_cases e : j = k
      · subst e
        refine .inr ⟨l, (setsN_bit p es j f l).2 ⟨i, h1, h3.trans hfk, ?_⟩, ?_⟩
        · rw [fitN_bit, decide_eq_true h4, h5]; rfl
        · rw [fitN_bit, decide_eq_true h4, h6]; rfl
      · exact .inl ⟨i, j, h1, by omega, h3, l, h4, h5, h6⟩
theorem fullB_iff {p S : Nat} (hp : p ≤ 6) (es : List Ed) : fullB p es S = true ↔ ∀ s, s < S → ∀ l : Nat, l < 2 ^ p → ∃ i, i < es.length ∧ (es.getD i ed0).f = (s : Int) ∧ letB (l : Int) (es.getD i ed0) = true := by
  have h0 : ∀ l : Nat, l < 2 ^ p → letB (l : Int) ed0 = true := fun l hl => by
    have h64 := (pow_six hp).2
    have h1 := and_i64 l 0 (by omega) (by omega)
    rw [Nat.and_zero] at h1
    exact decide_eq_true h1
  unfold fullB
  rw [List.all_eq_true]
  constructor
  · intro h s hs l hl
    have h1 := of_decide_eq_true (h s (List.mem_range.2 hs))
    have h2 : (setsN p es es.length s).testBit l = true := by rw [h1, fitN_bit, decide_eq_true hl, h0 l hl]; rfl
    obtain ⟨i, h3, h4, h5⟩ := (setsN_bit p es es.length s l).1 h2
    rw [fitN_bit, Bool.and_eq_true] at h5
    exact ⟨i, h3, h4, h5.2⟩
  · intro h s hs
    apply decide_eq_true
    apply Nat.eq_of_testBit_eq
    intro l
    rw [fitN_bit]
    by_cases hl : l < 2 ^ p
    · rw [decide_eq_true hl, h0 l hl]
      obtain ⟨i, h3, h4, h5⟩ := h s (List.mem_range.1 hs) l hl
      exact (setsN_bit p es es.length s l).2 ⟨i, h3, h4, by rw [fitN_bit, decide_eq_true hl, h5]; rfl⟩
    · rw [decide_eq_false hl, Bool.false_and, Bool.eq_false_iff]
      intro h1
      obtain ⟨i, h3, h4, h5⟩ := (setsN_bit p es es.length s l).1 h1
      rw [fitN_bit, decide_eq_false hl, Bool.false_and] at h5
      cases h5
/-- Two edges of a valid automaton meet if their bits agree where both care. -/
theorem meet_iff {p : Nat} {S : Int} {M : Nat} {e e' : Ed} (hp : p ≤ 6) (h : edB p S M e = true) (h' : edB p S M e' = true) (hr : -9223372036854775808 ≤ e.b ∧ e.b < 9223372036854775808) (hr' : -9223372036854775808 ≤ e'.b ∧ e'.b < 9223372036854775808) :
    Meet p e e' ↔ bits .and .i64 e'.b e.c = bits .and .i64 e.b e'.c := by
  have h64 := (pow_six hp).2
  have hpc : ((2 : Int) ^ p) = ((2 ^ p : Nat) : Int) := by simp
  obtain ⟨_, _, ⟨k1, k2⟩, k3, _⟩ := of_decide_eq_true h
  obtain ⟨_, _, ⟨m1, m2⟩, m3, _⟩ := of_decide_eq_true h'
  obtain ⟨ef, et, ec, eb, em⟩ := e
  obtain ⟨ef', et', ec', eb', em'⟩ := e'
  simp only at k1 k2 k3 m1 m2 m3 hr hr' ⊢
  obtain ⟨c, rfl⟩ := Int.eq_ofNat_of_zero_le k1
  obtain ⟨c', rfl⟩ := Int.eq_ofNat_of_zero_le m1
  rw [hpc] at k2 m2
  obtain ⟨b, rfl, n1, n2⟩ := bits_among hr (by omega) k3
  obtain ⟨b', rfl, n1', n2'⟩ := bits_among hr' (by omega) m3
  rw [and_i64 b' c (by omega) (by omega), and_i64 b c' (by omega) (by omega)]
  have hcl := common_letter (p := p) (c := c) (c' := c') (b := b) (b' := b') (by omega) (by omega) n2 n2'
  have hl : ∀ l : Nat, l < 2 ^ p → ((letB (l : Int) ⟨ef, et, c, b, em⟩ = true ∧ letB (l : Int) ⟨ef', et', c', b', em'⟩ = true) ↔ (l &&& c = b ∧ l &&& c' = b')) := fun l hl => by
    unfold letB
    rw [and_i64 l c (by omega) (by omega), and_i64 l c' (by omega) (by omega), decide_eq_true_eq, decide_eq_true_eq]
    exact and_congr Int.ofNat_inj Int.ofNat_inj
  constructor
  · rintro ⟨l, h1, h2⟩
    exact congrArg (fun n : Nat => (n : Int)) (hcl.1 ⟨l, h1, (hl l h1).1 h2⟩)
  · intro h3
    obtain ⟨l, h1, h2⟩ := hcl.2 (Int.ofNat.inj h3)
    exact ⟨l, h1, (hl l h1).2 h2⟩

end Go.Proofs.Ytalgbcndifaaiaa.Wd
