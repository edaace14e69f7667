/-
  The walker of the example automaton: walk, over any word of the letters 0 and 1.
-/
import Derived.Test.YtfblnadmbfhjiaaAtRead
import Derived.Maps.OwnSet
namespace Go.Proofs.Ytfblnadmbfhjiaa.Wd
open Go.RowKit Go.Maps
set_option linter.unusedVariables false

theorem map_below {w1 w2 : World} {o : Obj} (hg : (w1.alloc o).grownBy w2 (some w1.heap.size)) : Below w1.heap.size w1 w2 :=
  ((Below.refl _ _).alloc (Nat.le_refl _) o).grown hg (by simp) (fun k hk => by cases hk; exact Nat.le_refl _)

theorem ints_one (w : World) (x : Int) (t : TypeId) : Ints (w.alloc (.cells #[.int .i64 x] t)) (some ⟨w.heap.size, 0, none⟩) 1 [x] := one_new w w.heap.size rfl x t

theorem lawInt : Keyed Try.prog 3 := int_keyed Try.underlying3
theorem zeroInt (w : World) : (zeroValue 3).run Try.prog w = .ok (.int .i64 0) w := by kernel_rfl
theorem keyInt0 : keyOf Try.prog 3 (.int .i64 0) = some (.int .i64 0) := keyOf_int_mk Try.underlying3 (by decide)

theorem at_zero : ((DataW.map (H := Nat) []).put (.int .i64 0) (.lit (.int .i64 0))).atKey (.int .i64 0) (.lit (.int .i64 0)) = .lit (.int .i64 0) := by rfl

set_option maxRecDepth 100000 in
set_option maxHeartbeats 4000000 in
theorem walk_ag (r s e o g c : Nat) (A B : Option Addr) (n cA m dB : Nat) (st lp : List Int) (w : World) (h : Wk w r s e o g c) (hs : IntsN r w A n st) (hl : IntsN r w B m lp) (hs1 : ∀ x ∈ st, x = 0 ∨ x = 1) (hl1 : ∀ x ∈ lp, x = 0 ∨ x = 1) (hn : n ≤ 100000) (hm : m ≤ 100000) :
    Calls Try.prog 50 #[.pointer (some ⟨r, 0, none⟩), .agg #[.slice A n cA, .slice B m dB]] w fun x w' => x = .returned (.tuple #[.int .i64 (oneL lp), .bool false]) ∧ w.grownBy w' (some r) := by
  obtain ⟨i0, hi, hi0, hi1, hi2⟩ := info_parts int_row
  have hmm := @run_makeMap Try.prog
  have hr : r < w.heap.size := (wkL_out h.1).1
  have HR1 := Lib.hid (fun W (hW : Below w.heap.size w W) => read_ag r s e o g c A n cA st W (h.below hW) (hs.below hW) hs1 hn)
  have HR2 := Lib.hid (fun W (hk : Wk W r s e o g c) (hW : w.grownBy W (some r)) => read_ag r s e o g c B m dB lp W hk (hl.grown hW) hl1 hm)
  clear hs hl hs1 hl1 h
  go_enter Try.func50, Try.ntmps50
  go_wp2_with fail
  refine (HR1.out _ ((Below.refl _ _).alloc (Nat.le_refl _) _)).mono ?_
  rintro x w1 ⟨rfl, hw1, hg1⟩
  have p0 : w1.cell? ⟨w.heap.size, 0, none⟩ = some (.slice A n cA) := (hg1.cell_far ⟨w.heap.size, 0, none⟩ (by simp) (by simp; omega)).trans (by rw [box_last]; rfl)
  have p1 : w1.cell? ⟨w.heap.size, 1, none⟩ = some (.slice B m dB) := (hg1.cell_far ⟨w.heap.size, 1, none⟩ (by simp) (by simp; omega)).trans (by rw [box_last]; rfl)
  have hz1 : w.heap.size < w1.heap.size := by have := hg1.size; simp at this; omega
  have HG1 := Lib.hid (show w.grownBy w1 (some r) from (grown_of ((Below.refl _ _).alloc (Nat.le_refl _) _)).trans hg1)
  have HW1 := Lib.hid hw1
  obtain ⟨hr1, ⟨r0, r1, r2, r3⟩, _⟩ := wkL_out hw1.1
  clear hw1 hg1
  have hown0 := World.ownsMap_made (H := Nat) w1 Try.prog 3 (plainElem Try.prog 3)
  have hh0 : Maps.has (DataW.map (H := Nat) []) (.int .i64 0) = false := rfl
  go_wp2_with fail
  refine wp_loop_rounds 2 ?_
  rw [rounds_succ]
  go_wp2_with (first
    | (at_lookup; refine wpList_lookup_own_ok_int _ rfl _ _ 41 rfl 3 3 .i64 lawInt Try.underlying41 Try.underlying3 (zeroInt _) w1.heap.size 0 _ rfl hown0 _ _ rfl keyInt0 ?_; intro cc hat hwc)
    | (at_mapUpdate; refine wpList_mapUpdate_own _ rfl _ _ _ 41 rfl 3 3 lawInt Try.underlying41 _ w1.heap.size 0 _ rfl hown0 (by unfold maxLen; omega) _ _ _ rfl rfl keyInt0 _ [] (plainElem_int Try.underlying3 (by decide)) ?_; intro w2 hown1 hgrow1
       have hb2 := map_below hgrow1
       have q1 : w2.cell? ⟨w.heap.size, 1, none⟩ = some (.slice B m dB) := (hb2.cell (p := ⟨w.heap.size, 1, none⟩) hz1).trans p1
       have hz2 : w.heap.size < w2.heap.size := Nat.lt_of_lt_of_le hz1 hb2.size
       have HW2 := Lib.hid (HW1.out.below hb2)
       have HG2 := Lib.hid (HG1.out.trans (grown_of hb2))
       have HM2 := Lib.hid hown1
       have hr1' : r < w1.heap.size := hr1
       clear hown1 hgrow1 hb2 hown0 p0 p1 hz1 r0 r1 r2 r3 hh0 hat hwc))
  refine (HR2.out _ HW2.out HG2.out).mono ?_
  rintro x w3 ⟨rfl, hw3, hg3⟩
  have HW3 := Lib.hid hw3
  have HG3 := Lib.hid (HG2.out.trans hg3)
  have HM3 := Lib.hid (HM2.out.kept hg3 (by simp; omega))
  have hz3 : w1.heap.size < w3.heap.size := HM3.out.lt
  obtain ⟨M, hM⟩ : ∃ M, oneL lp = M := ⟨_, rfl⟩
  have hMc : M = 0 ∨ M = 1 := by rw [← hM]; exact oneL_cases lp
  have HM0 := Lib.hid hM
  rw [hM]
  clear hw3 hg3 q1 hz2 hM
  go_wp2_with (at_builtin; refine wpList_append_ints _ (by rfl) _ _ 22 (by rfl) w3.heap.size 3 i0 _ Try.underlying22 hi hi0 hi1 hi2 rfl (.slice none 0 0) 0 [] (by rfl) (World.ownsRow_nil _ _ _ _) (some ⟨w3.heap.size, 0, none⟩) 1 1 [M] (by rfl) (ints_one w3 M _) (by omega) (by simp) ?_
               intro v' w4 hown hgrow hat)
  have hb4 : Below w3.heap.size w3 w4 := ((Below.refl _ _).alloc (Nat.le_refl _) _).trans (below_own (World.ownsRow_nil _ _ 3 1) hgrow (by simp))
  obtain ⟨gb, cap, rfl, hv2, hlt⟩ := hown.form (by omega)
  have q4 := hown.cells (g := gb) rfl 0 (.int .i64 M) (by simp)
  rw [Addr.add_lit] at q4
  have HW4 := Lib.hid (HW3.out.below hb4)
  have HG4 := Lib.hid (HG3.out.trans (grown_of hb4))
  have HM4 := Lib.hid (HM3.out.kept (row := none) (grown_of hb4) (by simp))
  obtain ⟨hr4, ⟨r0, r1, r2, r3⟩, _⟩ := wkL_out HW4.out.1
  clear hown hgrow hat hb4 HW3 HG3 HM3 HW2 HG2 HM2
  rw [rounds_succ]
  have hown4 := HM4.out
  have hh4 : Maps.has ((DataW.map (H := Nat) []).put (.int .i64 0) (.lit (.int .i64 0))) (.int .i64 0) = true := rfl
  go_wp2_with (at_lookup; refine wpList_lookup_own_ok_int _ rfl _ _ 41 rfl 3 3 .i64 lawInt Try.underlying41 Try.underlying3 (zeroInt _) w1.heap.size 1 _ rfl hown4 _ _ rfl keyInt0 ?_; intro cd hat hwc
               rw [at_zero] at hat
               cases hat
               clear hwc hown4)
  refine (union_one ⟨gb, 0, none⟩ _ M _ q4 rfl hMc).mono ?_
  rintro x w5 ⟨rfl, rfl⟩
  go_wp2_with fail
  go_ret2
  exact ⟨by rw [HM0.out]; rfl, HG4.out⟩

end Go.Proofs.Ytfblnadmbfhjiaa.Wd
