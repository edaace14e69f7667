/-
  The walker of the example automaton: read and union.
-/
import Derived.Test.YtfblnadmbfhjiaaAtStep
namespace Go.Proofs.Ytfblnadmbfhjiaa.Wd
open Go.RowKit
set_option linter.unusedVariables false

/-- Ints outside block r. -/
def IntsN (r : Nat) (w : World) (A : Option Addr) (n : Nat) (xs : List Int) : Prop :=
  xs.length = n ∧ (0 < n → ∃ b off, A = some ⟨b, off, none⟩ ∧ (b < w.heap.size ∧ b ≠ r) ∧ ∀ j, j < n → w.cell? ⟨b, off + j, none⟩ = some (.int .i64 (xs.getD j 0)))
theorem IntsN.grown {r n : Nat} {w w' : World} {A : Option Addr} {xs : List Int} (h : IntsN r w A n xs) (hb : w.grownBy w' (some r)) : IntsN r w' A n xs := ⟨h.1, fun hn => by
  obtain ⟨b, off, e, hlt, hc⟩ := h.2 hn
  exact ⟨b, off, e, ⟨Nat.lt_of_lt_of_le hlt.1 hb.size, hlt.2⟩, fun j hj => (hb.cell_far ⟨b, off + j, none⟩ hlt.1 (fun e => hlt.2 (by cases e; rfl))).trans (hc j hj)⟩⟩
theorem IntsN.below {r n : Nat} {w w' : World} {A : Option Addr} {xs : List Int} (h : IntsN r w A n xs) (hb : Below w.heap.size w w') : IntsN r w' A n xs := h.grown (grown_of hb)

/-- Is there a letter 1? -/
def oneL (xs : List Int) : Int := if 1 ∈ xs then 1 else 0
theorem oneL_cases (xs : List Int) : oneL xs = 0 ∨ oneL xs = 1 := by unfold oneL; split; exact .inr rfl; exact .inl rfl
theorem or_table : ∀ a : Fin 2, ∀ b : Fin 2, bits .or .i64 ((a.val : Nat) : Int) ((b.val : Nat) : Int) = ((max a.val b.val : Nat) : Int) := by decide +kernel
theorem oneL_snoc {xs : List Int} {l : Int} (hl : l = 0 ∨ l = 1) : bits .or .i64 (oneL xs) l = oneL (xs ++ [l]) := by
  unfold oneL
  by_cases h : (1 : Int) ∈ xs
  · rw [if_pos h, if_pos (by simp [h])]
    rcases hl with rfl | rfl
    · exact or_table 1 0
    · exact or_table 1 1
  · rw [if_neg h]
    rcases hl with rfl | rfl
    · rw [if_neg (by simp [h])]
      exact or_table 0 0
    · rw [if_pos (by simp)]
      exact or_table 0 1

set_option maxRecDepth 100000 in
set_option maxHeartbeats 4000000 in
theorem read_ag (r s e o g c : Nat) (A : Option Addr) (n d : Nat) (xs : List Int) (w : World) (h : Wk w r s e o g c) (hx : IntsN r w A n xs) (hl : ∀ x ∈ xs, x = 0 ∨ x = 1) (hn : n ≤ 100000) :
    Calls Try.prog 79 #[.pointer (some ⟨r, 0, none⟩), .slice A n d] w fun x w' => StepR w w' r s e o g c (oneL xs) x := by
  have HW := Lib.hid h
  have HX := Lib.hid hx
  have HL := Lib.hid hl
  have hxl := Lib.hid hx.1
  clear h hx hl
  go_enter Try.func79, Try.ntmps79
  go_wp2_with fail
  go_loopg [5, 10] n (fun q m i wx => ∃ t : Nat, t + q = n ∧ i = .int .i64 t ∧ m = .int .i64 (oneL (xs.take t)) ∧ Hid (Wk wx r s e o g c) ∧ Hid (w.grownBy wx (some r)))
  case atStart => exact ⟨0, by omega, rfl, rfl, HW, World.grownBy.refl w _⟩
  case round =>
    obtain ⟨t, htq, rfl, rfl, HWr, HBr⟩ := hrel
    have hti : (0 : Int) ≤ (t : Int) := by omega
    cases gk with
    | zero =>
      obtain rfl : n = t := by omega
      have HT := Lib.hid (List.take_of_length_le (l := xs) (i := n) (by have := hxl.out; omega))
      go_wp2_with fail
      go_ret
      exact ⟨ret_int (by rw [HT.out]), HWr.out, HBr.out⟩
    | succ q =>
      have ht1 : t < n := by omega
      have hti2 : (t : Int) < (n : Int) := by omega
      obtain ⟨bA, oA, hAe, ⟨hlt, _⟩, hcell⟩ := (HX.out.grown HBr.out).2 (by omega)
      subst hAe
      have hct := hcell t ht1
      have hmem : xs.getD t 0 = 0 ∨ xs.getD t 0 = 1 := by
        have ht2 : t < xs.length := by have := hxl.out; omega
        rw [List.getD_eq_getElem?_getD, List.getElem?_eq_getElem ht2]
        exact HL.out _ (List.getElem_mem ht2)
      have hsn : xs.take (t + 1) = xs.take t ++ [xs.getD t 0] := by
        have ht2 : t < xs.length := by have := hxl.out; omega
        rw [List.take_succ_eq_append_getElem ht2, List.getD_eq_getElem?_getD, List.getElem?_eq_getElem ht2]
        rfl
      generalize xs.getD t 0 = l at *
      have hor := oneL_snoc (xs := xs.take t) hmem
      rw [← hsn] at hor
      have HST := Lib.hid (show Calls Try.prog 91 #[.pointer (some ⟨r, 0, none⟩), .int .i64 l] wr fun x w' => StepR wr w' r s e o g c l x from by
        rcases hmem with rfl | rfl
        · exact step_zero r s e o g c wr HWr.out
        · exact step_one r s e o g c wr HWr.out)
      obtain ⟨M, hM⟩ : ∃ M, oneL (xs.take t) = M := ⟨_, rfl⟩
      rw [hM] at hor
      rw [hM]
      clear hM hsn hmem hcell
      go_wp2_with fail
      refine HST.out.mono ?_
      rintro x w1 ⟨rfl, hw1, hb1⟩
      have HW1 := Lib.hid hw1
      have HB1 := Lib.hid (HBr.out.trans hb1)
      clear hw1 hb1
      go_wp2_with fail
      go_roundg q
      case measure => omega
      case rel => exact ⟨t + 1, by omega, by go_num, by first | rfl | rw [hor], HW1, HB1⟩

theorem union_one (a : Addr) (d : Nat) (x : Int) (w : World) (hc : w.cell? a = some (.int .i64 x)) (hs : a.spot = none) (hx : x = 0 ∨ x = 1) :
    Calls Try.prog 80 #[.slice (some a) 1 d] w fun e w' => e = .returned (.int .i64 x) ∧ w = w' := by
  obtain ⟨b, o, sp⟩ := a
  simp only at hs
  subst hs
  have hor : bits .or .i64 0 x = x := by rcases hx with rfl | rfl <;> decide
  go_enter Try.func80, Try.ntmps80
  go_wp2_with fail
  refine wp_loop_rounds 2 ?_
  rw [rounds_succ]
  go_wp2_with fail
  rw [rounds_succ]
  go_wp2_with fail
  go_ret
  exact ⟨rfl, rfl⟩

end Go.Proofs.Ytfblnadmbfhjiaa.Wd
