/-
  Queue of package graph: Add, and the iterator All.
-/
import Derived.Test.YtffdbncjndnnaaaGaPre
import Derived.Test.YtffdbncjndnnaaaGaPreL
import Derived.Test.YtffdbncjndnnaaaGaWhole
import Derived.Shelf.Abstract
import Derived.Shelf.RegionOpen
import Derived.OwnWalkIn
import Derived.TacticsInMore
import Derived.LoopNIn
import Derived.LoopIn
import Derived.Outline
namespace Go.Proofs.Ytffdbncjndnnaaa.Wd
open Go.RowKit Go.Shelf
set_option linter.unusedVariables false
set_option linter.unusedSimpArgs false

attribute [local go_sem] Oper.semAt_some

/-- The box bq is a queue that holds L: the value v, a row of its own. -/
structure QuV (B bq : Nat) (w : World) (L : List Int) (v : Value) : Prop where
  box : w.heap[bq]? = some (.cells #[v] 66 (0, 0))
  own : w.ownsRow B 3 1 v L.length (L.map (Value.int .i64))

set_option maxRecDepth 100000 in
set_option maxHeartbeats 4000000 in
theorem add_any (B bq : Nat) (L : List Int) (q : Value) (v : Int) (w : World) (h : QuV B bq w L q) (hb : bq < B) (hB : B ≤ w.heap.size) (hL : L.length ≤ 100000) :
    Calls Try.prog 45 #[.pointer (some ⟨bq, 0, none⟩), .int .i64 v] w fun r w' => r = .returned (.tuple #[]) ∧
      ∃ q', QuV B bq w' (L ++ [v]) q' ∧ Below bq w w' ∧ (∀ k, k < w.heap.size → k ≠ bq → q.ownBlock ≠ some k → w'.heap[k]? = w.heap[k]?) ∧ (q'.ownBlock = q.ownBlock ∨ ∃ b, q'.ownBlock = some b ∧ w.heap.size ≤ b) := by
  obtain ⟨hbox, hown⟩ := h
  obtain ⟨A, c, rfl, _⟩ := own_slice hown
  obtain ⟨m, hm⟩ : ∃ m, L.length = m := ⟨_, rfl⟩
  have HM := Lib.hid hm
  rw [hm] at hbox hown hL ⊢
  have kq : w.cell? ⟨bq, 0, none⟩ = some (.slice A m c) := cell_of_heap hbox 0
  have fq := frozen_of_heap hbox 0
  have HO := Lib.hid hown
  have HX := Lib.hid hbox
  obtain ⟨i0, hi, hi0, hi1, hi2⟩ := g_info_parts g_ints_info
  have hm0 : (0 : Int) ≤ (m : Int) := by omega
  clear hm hown hbox
  go_enter Try.func45, Try.ntmps45
  go_wp2_with (refine wpList_append_ints _ (by rfl) _ _ _ (by rfl) B 3 i0 _ Try.underlying66 hi hi0 hi1 hi2 rfl (.slice A m c) m (L.map (Value.int .i64)) (by rfl) (by exact HO.out.alloc _) (some ⟨w.heap.size, 0, none⟩) 1 1 [v] (by rfl) (int_new' _ rfl _ _) (by omega) (by rw [World.size_alloc]; omega) ?_; intro v' w4 hown hgrow hat; obtain ⟨A8, c8, rfl, _⟩ := own_slice hown; have HBEL := Lib.hid (below_own (HO.out.alloc _) hgrow (by rw [World.size_alloc]; omega)); have HOWN := Lib.hid hown; have HGR := Lib.hid hgrow; have HAT := Lib.hid hat; have hx4 := (HBEL.out.block bq hb).trans ((al_at w _ bq).trans ((if_neg (by omega)).trans HX.out)); have kq4 : w4.cell? ⟨bq, 0, none⟩ = some (.slice A m c) := cell_of_heap hx4 0; have fq4 := frozen_of_heap hx4 0; have HX4 := Lib.hid hx4; clear hown hgrow hat hx4)
  go_end0
  have HLM := Lib.hid (show (L ++ [v]).length = m + 1 by rw [List.length_append, HM.out]; rfl)
  refine ⟨rfl, .slice A8 (m + 1) c8, ⟨?_, ?_⟩, ?_, fun k hk hne hnb => ?_, ?_⟩
  · simp [World.setCell, Array.getElem?_modify, HX4.out]
  · rw [HLM.out, List.map_append]
    exact own_put HOWN.out (by show bq < B; omega) _
  · exact (((Below.refl bq w).alloc (by omega) _).trans (HBEL.out.mono (by omega))).setCell (by show bq ≤ bq; omega) _
  · rw [set_far _ _ _ (by show k ≠ bq; exact hne)]
    exact (HGR.out.block k (by rw [World.size_alloc]; omega) (fun e => hnb e.symm)).trans ((al_at w _ k).trans (if_neg (by omega)))
  · rcases HAT.out with e | e
    · exact .inl e
    · refine .inr ⟨_, e, ?_⟩
      rw [World.size_alloc]
      omega

set_option maxRecDepth 100000 in
set_option maxHeartbeats 4000000 in
theorem all_any (bq : Nat) (w : World) :
    Calls Try.prog 46 #[.pointer (some ⟨bq, 0, none⟩)] w fun r w' => r = .returned (.func (.func 57) #[] #[.pointer (some ⟨w.heap.size, 0, none⟩)]) ∧ w' = w.alloc (.cells #[.pointer (some ⟨bq, 0, none⟩)] 84) := by
  go_enter Try.func46, Try.ntmps46
  go_wp2_with fail
  go_ret
  exact ⟨rfl, rfl⟩

/-- What the iterator reads: the queue, of which the first part has come. -/
def QuSt (B bp bq N : Nat) (G : List Nat) (w : World) : Prop :=
  w.cell? ⟨bp, 0, none⟩ = some (.pointer (some ⟨bq, 0, none⟩)) ∧ ∃ (L : List Nat) (v : Value), QuV B bq w (L.map fun x => ((x : Nat) : Int)) v ∧ L.length ≤ N ∧ L.take G.length = G
/-- x comes next. -/
def QuNx (B bq : Nat) (G : List Nat) (x : Nat) (w : World) : Prop :=
  ∃ (L : List Nat) (v : Value), QuV B bq w (L.map fun x => ((x : Nat) : Int)) v ∧ G.length < L.length ∧ L.getD G.length 0 = x
/-- All have come. -/
def QuEnd (B bq : Nat) (G : List Nat) (w : World) : Prop :=
  ∃ v, QuV B bq w (G.map fun x => ((x : Nat) : Int)) v

set_option maxRecDepth 100000 in
set_option maxHeartbeats 4000000 in
theorem all1_in (q : Nat) (hq : 1 ≤ q) (l B bp bq N : Nat) (hN : N ≤ 100000)
    (J : List Nat → World → Prop) (hJS : ∀ G W1, J G W1 → QuSt B bp bq N G W1)
    (hY : ∀ G (x : Nat) W1, J G W1 → QuNx B bq G x W1 → YieldAt Fence.wide (q - 1) Try.prog l #[.int .i64 x] W1 fun e W' => e = .returned (.bool true) ∧ J (G ++ [x]) W')
    (W : World) (h0 : J [] W) :
    CallsIn Fence.wide q Try.prog 57 #[.func (.yield l) #[] #[], .pointer (some ⟨bp, 0, none⟩)] W fun e W' => (∃ v, e = .returned v) ∧ ∃ G, QuEnd B bq G W' ∧ J G W' := by
  have HJS := Lib.hid hJS
  have HY := Lib.hid hY
  have H0 := Lib.hid h0
  clear hJS hY h0
  refine callsIn_of_wp Try.func57 rfl trivial ?_ rfl
  simp only [Try.ntmps57, List.size_toArray, List.length_cons, List.length_nil, Nat.reduceAdd, Nat.reduceSub, Array.replicate_succ, Array.replicate_zero, List.push_toArray, List.append_toArray, List.nil_append, List.cons_append]
  gi_wp2_with fail
  gi_loopw [3] (fun i wr => ∃ G : List Nat, G.length ≤ N ∧ i = .int .i64 (G.length : Nat) ∧ Hid (J G wr)) (fun i wr => N - (intOf i).toNat)
  case atStart => exact ⟨[], by simp, rfl, H0.out⟩
  case round =>
    clear H0
    obtain ⟨G, hGN, rfl, HJ⟩ := hrel
    obtain ⟨kp, L, v, hqu, hLN, hta⟩ := HJS.out _ _ HJ.out
    obtain ⟨g, hg⟩ : ∃ g, G.length = g := ⟨_, rfl⟩
    have HG := Lib.hid hg
    rw [hg] at hGN hta ⊢
    have hown := hqu.own
    rw [List.length_map] at hown
    obtain ⟨A, c, rfl, hc⟩ := own_slice hown
    have kq : wr.cell? ⟨bq, 0, none⟩ = some (.slice A L.length c) := cell_of_heap hqu.box 0
    have hints := Ints.of_own hown
    have HQ := Lib.hid hqu
    have HTA := Lib.hid hta
    have hg0 : (0 : Int) ≤ (g : Int) := by omega
    obtain ⟨m, hm⟩ : ∃ m, L.length = m := ⟨_, rfl⟩
    have HM := Lib.hid hm
    rw [hm] at kq hints hLN
    clear hqu hta hown hg hm hc
    by_cases hlt : g < m
    · have hlt2 : (g : Int) < (m : Int) := by omega
      obtain ⟨b, off, rfl, hbl, hcell⟩ := hints.2 (by omega)
      have hct := hcell g hlt
      obtain ⟨x, hx⟩ : ∃ x, L.getD g 0 = x := ⟨_, rfl⟩
      have hx2 : (L.map fun x => ((x : Nat) : Int)).getD g 0 = (x : Int) := by
        rw [← hx]
        simp [List.getD_eq_getElem?_getD, show g < L.length by rw [HM.out]; exact hlt]
      rw [hx2] at hct
      obtain ⟨fn, tmps, assign, body, hy, hR⟩ := HY.out G x wr HJ.out ⟨L, _, by rw [HM.out] at *; exact HQ.out, by rw [HG.out, HM.out]; exact hlt, by rw [HG.out]; exact hx⟩
      clear hcell hx hx2 hints HQ HTA HM
      gi_wp2_with fail
      refine hR.mono ?_
      rintro e w3 ⟨rfl, hJ3⟩
      have HJ3 := Lib.hid hJ3
      clear hJ3 hR hy HJ kp kq hct
      gi_wp2_with fail
      go_roundw
      case rel =>
        refine ⟨G ++ [x], ?_, ?_, HJ3.out⟩
        · rw [List.length_append, HG.out, List.length_singleton]; omega
        · rw [List.length_append, HG.out, List.length_singleton]; go_num
      case measure => simp [intOf]; omega
    · have hGL : L = G := by
        have h1 := HTA.out
        rw [List.take_of_length_le (by rw [HM.out]; omega)] at h1
        exact h1
      have HQ2 := Lib.hid HQ.out
      rw [hGL] at HQ2
      obtain rfl : m = g := by
        have h1 := HM.out
        have h2 := HG.out
        rw [hGL] at h1
        omega
      clear HQ HTA hints hlt HM
      gi_wp2_with fail
      exact bodyPost_end (results_none rfl _ _ _) rfl ⟨⟨_, rfl⟩, G, ⟨_, HQ2.out⟩, HJ.out⟩

end Go.Proofs.Ytffdbncjndnnaaa.Wd
