/-
  Valid of package aut, for all automata.
  Valid of package aut, for all automata.
  Valid of package aut, for all automata.
  Valid of package aut, for all automata.
  Marks, has and Accepted of the reference.
  Marks and Accepts of the reference, for all numbers.
  Valid of the reference of layer 5, for all automata.
  Step of package aut, for all automata.
  Deterministic and Complete of package aut, for all automata.
  The iterator of reachable, for all automata.
  The walker, for all automata: step and read.
  The walker, for all automata: read, union, newWalker.
  The walker, for all automata: newWalker.
  What walk remembers: which states the beginnings of the turns met, and when.
  The walker, for all automata: walk.
  Letters and edges: when two edges have a letter in common, and what the sets of letters say. No program is looked at here.
  Rows of edges that a walk owns: for apart of the reference. No function is walked here.
  apart of the reference: have two edges of a state a letter in common?
  Step, Deterministic and Reach of the reference, given its Valid.
  Deterministic and Reach of the reference, given its Valid.
  bools of the law: are two lists of bools the same?
  Reach of the reference, given its Valid.
  Walk of package aut, for all automata and words.
-/
import Derived.Test.YtfblnadmbfhjiaaW02
import Derived.Test.YtfblnadmbfhjiaaW03
import Derived.Test.YtfblnadmbfhjiaaW01
import Derived.Deep.LoopGhost
import Derived.BigQuiet
import Derived.Deep.QuietTactic
import Derived.Shelf.Abstract
import Derived.Shelf.RegionOpen
import Derived.WalkKit
import Derived.OwnWalkIn
import Derived.TacticsInMore
import Derived.LoopNIn
import Derived.LoopIn
import Derived.Outline
import Derived.Deep.RegionHeld3
import Derived.Maps.OwnSet
import Derived.Laws.BitsLemmas
namespace Go.Proofs.Ytfblnadmbfhjiaa.Wd
open Go.RowKit
set_option linter.unusedVariables false

/-- The head of a valid automaton. -/
def headP (P S K : Int) : Prop := 0 ≤ P ∧ P ≤ 6 ∧ 0 ≤ S ∧ S ≤ 3000 ∧ 0 ≤ K ∧ K ≤ 5
instance (P S K : Int) : Decidable (headP P S K) := by unfold headP; infer_instance
/-- The lists of a valid automaton. -/
def listsB (P S M : Int) (st : List Int) (es : List Ed) : Bool := startB S st && (decide (es.length ≤ 40000) && edgesB P.toNat S M.toNat es)
/-- Is that a valid automaton? -/
def autB (P S K M : Int) (st : List Int) (es : List Ed) : Bool := decide (headP P S K) && (marksB K M && listsB P S M st es)
theorem autB_head {P S K M : Int} {st : List Int} {es : List Ed} (h : ¬ headP P S K) : autB P S K M st es = false := by unfold autB; rw [decide_eq_false h]; rfl
theorem autB_marks {P S K M : Int} {st : List Int} {es : List Ed} (h : marksB K M = false) : autB P S K M st es = false := by unfold autB; rw [h]; simp
theorem autB_tail {P S K M : Int} {st : List Int} {es : List Ed} (h : headP P S K) (hm : marksB K M = true) : autB P S K M st es = listsB P S M st es := by unfold autB; rw [decide_eq_true h, hm]; simp
theorem autB_start {P S K M : Int} {st : List Int} {es : List Ed} (h : headP P S K) (hm : marksB K M = true) (hs : startB S st = false) : autB P S K M st es = false := by rw [autB_tail h hm]; unfold listsB; rw [hs]; rfl
theorem autB_edges {P S K M : Int} {st : List Int} {es : List Ed} (h : headP P S K) (hm : marksB K M = true) (hs : startB S st = true) : autB P S K M st es = (decide (es.length ≤ 40000) && edgesB P.toNat S M.toNat es) := by rw [autB_tail h hm]; unfold listsB; rw [hs]; simp

theorem validEdges_any (P M : Nat) (S K : Int) (A E : Option Addr) (n c ne ce : Nat) (es : List Ed) (w : World) (hE : EdgesAt w E ne es) (hP : P ≤ 6) (hM : M ≤ 40) (hne : ne ≤ 17592186044416) :
    Calls Try.prog 46 #[.agg #[.int .i64 P, .int .i64 S, .slice A n c, .int .i64 K, .int .i64 M, .slice E ne ce]] w fun e w' => e = .returned (.bool (decide (es.length ≤ 40000) && edgesB P S M es)) ∧ Below w.heap.size w w' := by
  by_cases h : ne ≤ 40000
  · rw [show (decide (es.length ≤ 40000) && edgesB P S M es) = edgesB P S M es by rw [hE.1, decide_eq_true h]; simp]
    exact validEdges_few P M S K A E n c ne ce es w hE hP hM h
  · rw [show (decide (es.length ≤ 40000) && edgesB P S M es) = false by rw [hE.1, decide_eq_false h]; rfl]
    exact validEdges_many P S K M A E n c ne ce w hne (by omega)

/-- The six cells of an automaton. -/
def Box6 (w : World) (b : Nat) (P S : Int) (A : Option Addr) (n c : Nat) (K M : Int) (E : Option Addr) (ne ce : Nat) : Prop :=
  b < w.heap.size ∧ w.cell? ⟨b, 0, none⟩ = some (.int .i64 P) ∧ w.cell? ⟨b, 1, none⟩ = some (.int .i64 S) ∧ w.cell? ⟨b, 2, none⟩ = some (.slice A n c) ∧
    w.cell? ⟨b, 3, none⟩ = some (.int .i64 K) ∧ w.cell? ⟨b, 4, none⟩ = some (.int .i64 M) ∧ w.cell? ⟨b, 5, none⟩ = some (.slice E ne ce)
theorem Box6.new (w : World) (P S : Int) (A : Option Addr) (n c : Nat) (K M : Int) (E : Option Addr) (ne ce : Nat) (t : TypeId) : Box6 (w.alloc (.cells #[.int .i64 P, .int .i64 S, .slice A n c, .int .i64 K, .int .i64 M, .slice E ne ce] t)) w.heap.size P S A n c K M E ne ce := by
  refine ⟨by simp, ?_, ?_, ?_, ?_, ?_, ?_⟩ <;> (rw [box_last]; rfl)
theorem Box6.below {w w' : World} {b : Nat} {P S : Int} {A : Option Addr} {n c : Nat} {K M : Int} {E : Option Addr} {ne ce : Nat} (h : Box6 w b P S A n c K M E ne ce) (hb : Below w.heap.size w w') : Box6 w' b P S A n c K M E ne ce :=
  ⟨Nat.lt_of_lt_of_le h.1 hb.size, (hb.cell (p := ⟨b, 0, none⟩) h.1).trans h.2.1, (hb.cell (p := ⟨b, 1, none⟩) h.1).trans h.2.2.1, (hb.cell (p := ⟨b, 2, none⟩) h.1).trans h.2.2.2.1, (hb.cell (p := ⟨b, 3, none⟩) h.1).trans h.2.2.2.2.1, (hb.cell (p := ⟨b, 4, none⟩) h.1).trans h.2.2.2.2.2.1, (hb.cell (p := ⟨b, 5, none⟩) h.1).trans h.2.2.2.2.2.2⟩

set_option maxRecDepth 100000 in
set_option maxHeartbeats 2000000 in
theorem valid_head (P S K M : Int) (A E : Option Addr) (n c ne ce : Nat) (st : List Int) (es : List Ed) (w : World) (h : ¬ headP P S K) :
    Calls Try.prog 18 #[.agg #[.int .i64 P, .int .i64 S, .slice A n c, .int .i64 K, .int .i64 M, .slice E ne ce]] w fun e w' => e = .returned (.bool (autB P S K M st es)) ∧ Below w.heap.size w w' := by
  have HF := Lib.hid (autB_head (M := M) (st := st) (es := es) h)
  have hc : P < 0 ∨ (0 ≤ P ∧ 6 < P) ∨ (0 ≤ P ∧ P ≤ 6 ∧ S < 0) ∨ (0 ≤ P ∧ P ≤ 6 ∧ 0 ≤ S ∧ 3000 < S) ∨ (0 ≤ P ∧ P ≤ 6 ∧ 0 ≤ S ∧ S ≤ 3000 ∧ (K < 0 ∨ 5 < K)) := by unfold headP at h; omega
  clear h
  rcases hc with h | ⟨h, h2⟩ | ⟨h, h2, h3⟩ | ⟨h, h2, h3, h4⟩ | ⟨h, h2, h3, h4, h5⟩
  · go_enter Try.func18, Try.ntmps18
    go_wp2_with fail
    go_ret
    exact ⟨ret_bool HF.out.symm, (Below.refl _ _).alloc (Nat.le_refl _) _⟩
  · go_enter Try.func18, Try.ntmps18
    go_wp2_with fail
    go_ret
    exact ⟨ret_bool HF.out.symm, (Below.refl _ _).alloc (Nat.le_refl _) _⟩
  · go_enter Try.func18, Try.ntmps18
    go_wp2_with fail
    go_ret
    exact ⟨ret_bool HF.out.symm, (Below.refl _ _).alloc (Nat.le_refl _) _⟩
  · go_enter Try.func18, Try.ntmps18
    go_wp2_with fail
    go_ret
    exact ⟨ret_bool HF.out.symm, (Below.refl _ _).alloc (Nat.le_refl _) _⟩
  · have HO := Lib.hid (fun w => of_none K w h5)
    clear h5
    go_enter Try.func18, Try.ntmps18
    go_wp2_with fail
    refine (HO.out _).mono ?_
    rintro e w1 ⟨rfl, hb1⟩
    have HB1 := Lib.hid (show Below w.heap.size w w1 from ((Below.refl _ _).alloc (Nat.le_refl _) _).trans (hb1.mono (by simp)))
    clear hb1
    go_wp2_with fail
    go_ret
    exact ⟨ret_bool HF.out.symm, HB1.out.alloc HB1.out.size _⟩

end Go.Proofs.Ytfblnadmbfhjiaa.Wd

namespace Go.Proofs.Ytfblnadmbfhjiaa.Wd
open Go.RowKit
set_option linter.unusedVariables false

set_option maxRecDepth 100000 in
set_option maxHeartbeats 4000000 in
theorem valid_0 (p : Nat) (S M : Int) (A E : Option Addr) (n c ne ce : Nat) (st : List Int) (es : List Ed) (w : World) (hp : p ≤ 6) (hS : 0 ≤ S) (hS2 : S ≤ 3000) (ha : Ints w A n st) (hn : n ≤ 17592186044416) (he : EdgesAt w E ne es) (hne : ne ≤ 17592186044416) :
    Calls Try.prog 18 #[.agg #[.int .i64 p, .int .i64 S, .slice A n c, .int .i64 0, .int .i64 M, .slice E ne ce]] w fun e w' => e = .returned (.bool (autB p S 0 M st es)) ∧ Below w.heap.size w w' := by
  have HM := Lib.hid (show marksB 0 M = decide (M = 1) by unfold marksB; simp)
  have HH := Lib.hid (show headP p S 0 by unfold headP; omega)
  have HX := Lib.hid (Box6.new w p S A n c 0 M E ne ce 25)
  have hp0 : (0 : Int) ≤ (p : Int) := by omega
  have hp6 : (p : Int) ≤ 6 := by omega
  cases hq : marksB 0 M
  · have HF := Lib.hid (autB_marks (P := (p : Int)) (S := S) (st := st) (es := es) hq)
    rw [hq] at HM
    clear hq ha he
    go_enter Try.func18, Try.ntmps18
    go_wp2_with fail
    refine (of_kind0 _).mono ?_
    rintro r w1 ⟨rfl, hb1⟩
    have HX1 := Lib.hid (HX.out.below hb1)
    obtain ⟨hz, p0, p1, p2, p3, p4, p5⟩ := HX1.out
    have HB1 := Lib.hid (show Below w.heap.size w w1 from ((Below.refl _ _).alloc (Nat.le_refl _) _).trans (hb1.mono (by simp)))
    clear hb1
    go_wp2_with fail
    refine (isOne_any M _).mono ?_
    rintro r w2 ⟨rfl, rfl⟩
    rw [← HM.out]
    go_wp2_with fail
    go_ret
    exact ⟨ret_bool HF.out.symm, HB1.out.alloc HB1.out.size _⟩
  · have hm := marksB_few hq
    obtain ⟨m, rfl⟩ := Int.eq_ofNat_of_zero_le hm.1
    have hm40 : m ≤ 40 := by omega
    have HS := Lib.hid (fun W (hW : Below w.heap.size w W) => validStart_any p S 0 m A E n c ne ce st W (ha.below hW) hn)
    have HE := Lib.hid (fun W (hW : Below w.heap.size w W) => validEdges_any p m S 0 A E n c ne ce es W (he.below hW) hp hm40 hne)
    have HT := Lib.hid (fun hs => autB_start (P := (p : Int)) (S := S) (st := st) (es := es) HH.out hq hs)
    have HG := Lib.hid (fun hs => autB_edges (P := (p : Int)) (S := S) (st := st) (es := es) HH.out hq hs)
    rw [hq] at HM
    clear hq ha he hm
    obtain ⟨sb, hsb, HSB⟩ : ∃ sb, startB S st = sb ∧ Hid (startB S st = sb) := ⟨_, rfl, rfl⟩
    rw [hsb] at HS
    clear hsb
    obtain ⟨eb, heb, HEB⟩ : ∃ eb, (decide (es.length ≤ 40000) && edgesB p S m es) = eb ∧ Hid ((decide (es.length ≤ 40000) && edgesB p S m es) = eb) := ⟨_, rfl, rfl⟩
    rw [heb] at HE
    clear heb
    go_enter Try.func18, Try.ntmps18
    go_wp2_with fail
    refine (of_kind0 _).mono ?_
    rintro r w1 ⟨rfl, hb1⟩
    have HX1 := Lib.hid (HX.out.below hb1)
    obtain ⟨hz, p0, p1, p2, p3, p4, p5⟩ := HX1.out
    have HB1 := Lib.hid (show Below w.heap.size w w1 from ((Below.refl _ _).alloc (Nat.le_refl _) _).trans (hb1.mono (by simp)))
    clear hb1
    go_wp2_with fail
    refine (isOne_any (m : Int) _).mono ?_
    rintro r w2 ⟨rfl, rfl⟩
    rw [← HM.out]
    go_wp2_with fail
    refine (HS.out _ (HB1.out.alloc HB1.out.size _)).mono ?_
    rintro r w3 ⟨rfl, hb3⟩
    have HX3 := Lib.hid ((HX1.out.below ((Below.refl _ _).alloc (Nat.le_refl _) _)).below hb3)
    have HB3 := Lib.hid ((HB1.out.alloc HB1.out.size _).trans (hb3.mono (HB1.out.alloc HB1.out.size _).size))
    clear hz p0 p1 p2 p3 p4 p5 hb3
    obtain ⟨hz, p0, p1, p2, p3, p4, p5⟩ := HX3.out
    cases sb
    · have HF := Lib.hid (HT.out HSB.out)
      go_wp2_with fail
      go_ret
      exact ⟨ret_bool HF.out.symm, HB3.out⟩
    · have HF := Lib.hid ((HG.out HSB.out).trans HEB.out)
      go_wp2_with fail
      refine (HE.out _ HB3.out).mono ?_
      rintro r w4 ⟨rfl, hb4⟩
      go_wp2_with fail
      go_ret
      exact ⟨ret_bool HF.out.symm, HB3.out.trans (hb4.mono HB3.out.size)⟩

set_option maxRecDepth 100000 in
set_option maxHeartbeats 4000000 in
theorem valid_1 (p : Nat) (S M : Int) (A E : Option Addr) (n c ne ce : Nat) (st : List Int) (es : List Ed) (w : World) (hp : p ≤ 6) (hS : 0 ≤ S) (hS2 : S ≤ 3000) (ha : Ints w A n st) (hn : n ≤ 17592186044416) (he : EdgesAt w E ne es) (hne : ne ≤ 17592186044416) :
    Calls Try.prog 18 #[.agg #[.int .i64 p, .int .i64 S, .slice A n c, .int .i64 1, .int .i64 M, .slice E ne ce]] w fun e w' => e = .returned (.bool (autB p S 1 M st es)) ∧ Below w.heap.size w w' := by
  have HM := Lib.hid (show marksB 1 M = fewMB M by unfold marksB; simp)
  have HH := Lib.hid (show headP p S 1 by unfold headP; omega)
  have HX := Lib.hid (Box6.new w p S A n c 1 M E ne ce 25)
  have hp0 : (0 : Int) ≤ (p : Int) := by omega
  have hp6 : (p : Int) ≤ 6 := by omega
  cases hq : marksB 1 M
  · have HF := Lib.hid (autB_marks (P := (p : Int)) (S := S) (st := st) (es := es) hq)
    rw [hq] at HM
    clear hq ha he
    go_enter Try.func18, Try.ntmps18
    go_wp2_with fail
    refine (of_kind1 _).mono ?_
    rintro r w1 ⟨rfl, hb1⟩
    have HX1 := Lib.hid (HX.out.below hb1)
    obtain ⟨hz, p0, p1, p2, p3, p4, p5⟩ := HX1.out
    have HB1 := Lib.hid (show Below w.heap.size w w1 from ((Below.refl _ _).alloc (Nat.le_refl _) _).trans (hb1.mono (by simp)))
    clear hb1
    go_wp2_with fail
    refine (isFew_any M _).mono ?_
    rintro r w2 ⟨rfl, rfl⟩
    rw [← HM.out]
    go_wp2_with fail
    go_ret
    exact ⟨ret_bool HF.out.symm, HB1.out.alloc HB1.out.size _⟩
  · have hm := marksB_few hq
    obtain ⟨m, rfl⟩ := Int.eq_ofNat_of_zero_le hm.1
    have hm40 : m ≤ 40 := by omega
    have HS := Lib.hid (fun W (hW : Below w.heap.size w W) => validStart_any p S 1 m A E n c ne ce st W (ha.below hW) hn)
    have HE := Lib.hid (fun W (hW : Below w.heap.size w W) => validEdges_any p m S 1 A E n c ne ce es W (he.below hW) hp hm40 hne)
    have HT := Lib.hid (fun hs => autB_start (P := (p : Int)) (S := S) (st := st) (es := es) HH.out hq hs)
    have HG := Lib.hid (fun hs => autB_edges (P := (p : Int)) (S := S) (st := st) (es := es) HH.out hq hs)
    rw [hq] at HM
    clear hq ha he hm
    obtain ⟨sb, hsb, HSB⟩ : ∃ sb, startB S st = sb ∧ Hid (startB S st = sb) := ⟨_, rfl, rfl⟩
    rw [hsb] at HS
    clear hsb
    obtain ⟨eb, heb, HEB⟩ : ∃ eb, (decide (es.length ≤ 40000) && edgesB p S m es) = eb ∧ Hid ((decide (es.length ≤ 40000) && edgesB p S m es) = eb) := ⟨_, rfl, rfl⟩
    rw [heb] at HE
    clear heb
    go_enter Try.func18, Try.ntmps18
    go_wp2_with fail
    refine (of_kind1 _).mono ?_
    rintro r w1 ⟨rfl, hb1⟩
    have HX1 := Lib.hid (HX.out.below hb1)
    obtain ⟨hz, p0, p1, p2, p3, p4, p5⟩ := HX1.out
    have HB1 := Lib.hid (show Below w.heap.size w w1 from ((Below.refl _ _).alloc (Nat.le_refl _) _).trans (hb1.mono (by simp)))
    clear hb1
    go_wp2_with fail
    refine (isFew_any (m : Int) _).mono ?_
    rintro r w2 ⟨rfl, rfl⟩
    rw [← HM.out]
    go_wp2_with fail
    refine (HS.out _ (HB1.out.alloc HB1.out.size _)).mono ?_
    rintro r w3 ⟨rfl, hb3⟩
    have HX3 := Lib.hid ((HX1.out.below ((Below.refl _ _).alloc (Nat.le_refl _) _)).below hb3)
    have HB3 := Lib.hid ((HB1.out.alloc HB1.out.size _).trans (hb3.mono (HB1.out.alloc HB1.out.size _).size))
    clear hz p0 p1 p2 p3 p4 p5 hb3
    obtain ⟨hz, p0, p1, p2, p3, p4, p5⟩ := HX3.out
    cases sb
    · have HF := Lib.hid (HT.out HSB.out)
      go_wp2_with fail
      go_ret
      exact ⟨ret_bool HF.out.symm, HB3.out⟩
    · have HF := Lib.hid ((HG.out HSB.out).trans HEB.out)
      go_wp2_with fail
      refine (HE.out _ HB3.out).mono ?_
      rintro r w4 ⟨rfl, hb4⟩
      go_wp2_with fail
      go_ret
      exact ⟨ret_bool HF.out.symm, HB3.out.trans (hb4.mono HB3.out.size)⟩

end Go.Proofs.Ytfblnadmbfhjiaa.Wd

namespace Go.Proofs.Ytfblnadmbfhjiaa.Wd
open Go.RowKit
set_option linter.unusedVariables false

set_option maxRecDepth 100000 in
set_option maxHeartbeats 4000000 in
theorem valid_2 (p : Nat) (S M : Int) (A E : Option Addr) (n c ne ce : Nat) (st : List Int) (es : List Ed) (w : World) (hp : p ≤ 6) (hS : 0 ≤ S) (hS2 : S ≤ 3000) (ha : Ints w A n st) (hn : n ≤ 17592186044416) (he : EdgesAt w E ne es) (hne : ne ≤ 17592186044416) :
    Calls Try.prog 18 #[.agg #[.int .i64 p, .int .i64 S, .slice A n c, .int .i64 2, .int .i64 M, .slice E ne ce]] w fun e w' => e = .returned (.bool (autB p S 2 M st es)) ∧ Below w.heap.size w w' := by
  have HM := Lib.hid (show marksB 2 M = decide (M = 1) by unfold marksB; simp)
  have HH := Lib.hid (show headP p S 2 by unfold headP; omega)
  have HX := Lib.hid (Box6.new w p S A n c 2 M E ne ce 25)
  have hp0 : (0 : Int) ≤ (p : Int) := by omega
  have hp6 : (p : Int) ≤ 6 := by omega
  cases hq : marksB 2 M
  · have HF := Lib.hid (autB_marks (P := (p : Int)) (S := S) (st := st) (es := es) hq)
    rw [hq] at HM
    clear hq ha he
    go_enter Try.func18, Try.ntmps18
    go_wp2_with fail
    refine (of_kind2 _).mono ?_
    rintro r w1 ⟨rfl, hb1⟩
    have HX1 := Lib.hid (HX.out.below hb1)
    obtain ⟨hz, p0, p1, p2, p3, p4, p5⟩ := HX1.out
    have HB1 := Lib.hid (show Below w.heap.size w w1 from ((Below.refl _ _).alloc (Nat.le_refl _) _).trans (hb1.mono (by simp)))
    clear hb1
    go_wp2_with fail
    refine (isOne_any M _).mono ?_
    rintro r w2 ⟨rfl, rfl⟩
    rw [← HM.out]
    go_wp2_with fail
    go_ret
    exact ⟨ret_bool HF.out.symm, HB1.out.alloc HB1.out.size _⟩
  · have hm := marksB_few hq
    obtain ⟨m, rfl⟩ := Int.eq_ofNat_of_zero_le hm.1
    have hm40 : m ≤ 40 := by omega
    have HS := Lib.hid (fun W (hW : Below w.heap.size w W) => validStart_any p S 2 m A E n c ne ce st W (ha.below hW) hn)
    have HE := Lib.hid (fun W (hW : Below w.heap.size w W) => validEdges_any p m S 2 A E n c ne ce es W (he.below hW) hp hm40 hne)
    have HT := Lib.hid (fun hs => autB_start (P := (p : Int)) (S := S) (st := st) (es := es) HH.out hq hs)
    have HG := Lib.hid (fun hs => autB_edges (P := (p : Int)) (S := S) (st := st) (es := es) HH.out hq hs)
    rw [hq] at HM
    clear hq ha he hm
    obtain ⟨sb, hsb, HSB⟩ : ∃ sb, startB S st = sb ∧ Hid (startB S st = sb) := ⟨_, rfl, rfl⟩
    rw [hsb] at HS
    clear hsb
    obtain ⟨eb, heb, HEB⟩ : ∃ eb, (decide (es.length ≤ 40000) && edgesB p S m es) = eb ∧ Hid ((decide (es.length ≤ 40000) && edgesB p S m es) = eb) := ⟨_, rfl, rfl⟩
    rw [heb] at HE
    clear heb
    go_enter Try.func18, Try.ntmps18
    go_wp2_with fail
    refine (of_kind2 _).mono ?_
    rintro r w1 ⟨rfl, hb1⟩
    have HX1 := Lib.hid (HX.out.below hb1)
    obtain ⟨hz, p0, p1, p2, p3, p4, p5⟩ := HX1.out
    have HB1 := Lib.hid (show Below w.heap.size w w1 from ((Below.refl _ _).alloc (Nat.le_refl _) _).trans (hb1.mono (by simp)))
    clear hb1
    go_wp2_with fail
    refine (isOne_any (m : Int) _).mono ?_
    rintro r w2 ⟨rfl, rfl⟩
    rw [← HM.out]
    go_wp2_with fail
    refine (HS.out _ (HB1.out.alloc HB1.out.size _)).mono ?_
    rintro r w3 ⟨rfl, hb3⟩
    have HX3 := Lib.hid ((HX1.out.below ((Below.refl _ _).alloc (Nat.le_refl _) _)).below hb3)
    have HB3 := Lib.hid ((HB1.out.alloc HB1.out.size _).trans (hb3.mono (HB1.out.alloc HB1.out.size _).size))
    clear hz p0 p1 p2 p3 p4 p5 hb3
    obtain ⟨hz, p0, p1, p2, p3, p4, p5⟩ := HX3.out
    cases sb
    · have HF := Lib.hid (HT.out HSB.out)
      go_wp2_with fail
      go_ret
      exact ⟨ret_bool HF.out.symm, HB3.out⟩
    · have HF := Lib.hid ((HG.out HSB.out).trans HEB.out)
      go_wp2_with fail
      refine (HE.out _ HB3.out).mono ?_
      rintro r w4 ⟨rfl, hb4⟩
      go_wp2_with fail
      go_ret
      exact ⟨ret_bool HF.out.symm, HB3.out.trans (hb4.mono HB3.out.size)⟩

set_option maxRecDepth 100000 in
set_option maxHeartbeats 4000000 in
theorem valid_3 (p : Nat) (S M : Int) (A E : Option Addr) (n c ne ce : Nat) (st : List Int) (es : List Ed) (w : World) (hp : p ≤ 6) (hS : 0 ≤ S) (hS2 : S ≤ 3000) (ha : Ints w A n st) (hn : n ≤ 17592186044416) (he : EdgesAt w E ne es) (hne : ne ≤ 17592186044416) :
    Calls Try.prog 18 #[.agg #[.int .i64 p, .int .i64 S, .slice A n c, .int .i64 3, .int .i64 M, .slice E ne ce]] w fun e w' => e = .returned (.bool (autB p S 3 M st es)) ∧ Below w.heap.size w w' := by
  have HM := Lib.hid (show marksB 3 M = evenMB M by unfold marksB; simp)
  have HH := Lib.hid (show headP p S 3 by unfold headP; omega)
  have HX := Lib.hid (Box6.new w p S A n c 3 M E ne ce 25)
  have hp0 : (0 : Int) ≤ (p : Int) := by omega
  have hp6 : (p : Int) ≤ 6 := by omega
  cases hq : marksB 3 M
  · have HF := Lib.hid (autB_marks (P := (p : Int)) (S := S) (st := st) (es := es) hq)
    rw [hq] at HM
    clear hq ha he
    go_enter Try.func18, Try.ntmps18
    go_wp2_with fail
    refine (of_kind3 _).mono ?_
    rintro r w1 ⟨rfl, hb1⟩
    have HX1 := Lib.hid (HX.out.below hb1)
    obtain ⟨hz, p0, p1, p2, p3, p4, p5⟩ := HX1.out
    have HB1 := Lib.hid (show Below w.heap.size w w1 from ((Below.refl _ _).alloc (Nat.le_refl _) _).trans (hb1.mono (by simp)))
    clear hb1
    go_wp2_with fail
    refine (isFewPairs_any M _).mono ?_
    rintro r w2 ⟨rfl, rfl⟩
    rw [← HM.out]
    go_wp2_with fail
    go_ret
    exact ⟨ret_bool HF.out.symm, HB1.out.alloc HB1.out.size _⟩
  · have hm := marksB_few hq
    obtain ⟨m, rfl⟩ := Int.eq_ofNat_of_zero_le hm.1
    have hm40 : m ≤ 40 := by omega
    have HS := Lib.hid (fun W (hW : Below w.heap.size w W) => validStart_any p S 3 m A E n c ne ce st W (ha.below hW) hn)
    have HE := Lib.hid (fun W (hW : Below w.heap.size w W) => validEdges_any p m S 3 A E n c ne ce es W (he.below hW) hp hm40 hne)
    have HT := Lib.hid (fun hs => autB_start (P := (p : Int)) (S := S) (st := st) (es := es) HH.out hq hs)
    have HG := Lib.hid (fun hs => autB_edges (P := (p : Int)) (S := S) (st := st) (es := es) HH.out hq hs)
    rw [hq] at HM
    clear hq ha he hm
    obtain ⟨sb, hsb, HSB⟩ : ∃ sb, startB S st = sb ∧ Hid (startB S st = sb) := ⟨_, rfl, rfl⟩
    rw [hsb] at HS
    clear hsb
    obtain ⟨eb, heb, HEB⟩ : ∃ eb, (decide (es.length ≤ 40000) && edgesB p S m es) = eb ∧ Hid ((decide (es.length ≤ 40000) && edgesB p S m es) = eb) := ⟨_, rfl, rfl⟩
    rw [heb] at HE
    clear heb
    go_enter Try.func18, Try.ntmps18
    go_wp2_with fail
    refine (of_kind3 _).mono ?_
    rintro r w1 ⟨rfl, hb1⟩
    have HX1 := Lib.hid (HX.out.below hb1)
    obtain ⟨hz, p0, p1, p2, p3, p4, p5⟩ := HX1.out
    have HB1 := Lib.hid (show Below w.heap.size w w1 from ((Below.refl _ _).alloc (Nat.le_refl _) _).trans (hb1.mono (by simp)))
    clear hb1
    go_wp2_with fail
    refine (isFewPairs_any (m : Int) _).mono ?_
    rintro r w2 ⟨rfl, rfl⟩
    rw [← HM.out]
    go_wp2_with fail
    refine (HS.out _ (HB1.out.alloc HB1.out.size _)).mono ?_
    rintro r w3 ⟨rfl, hb3⟩
    have HX3 := Lib.hid ((HX1.out.below ((Below.refl _ _).alloc (Nat.le_refl _) _)).below hb3)
    have HB3 := Lib.hid ((HB1.out.alloc HB1.out.size _).trans (hb3.mono (HB1.out.alloc HB1.out.size _).size))
    clear hz p0 p1 p2 p3 p4 p5 hb3
    obtain ⟨hz, p0, p1, p2, p3, p4, p5⟩ := HX3.out
    cases sb
    · have HF := Lib.hid (HT.out HSB.out)
      go_wp2_with fail
      go_ret
      exact ⟨ret_bool HF.out.symm, HB3.out⟩
    · have HF := Lib.hid ((HG.out HSB.out).trans HEB.out)
      go_wp2_with fail
      refine (HE.out _ HB3.out).mono ?_
      rintro r w4 ⟨rfl, hb4⟩
      go_wp2_with fail
      go_ret
      exact ⟨ret_bool HF.out.symm, HB3.out.trans (hb4.mono HB3.out.size)⟩

end Go.Proofs.Ytfblnadmbfhjiaa.Wd

namespace Go.Proofs.Ytfblnadmbfhjiaa.Wd
open Go.RowKit
set_option linter.unusedVariables false

set_option maxRecDepth 100000 in
set_option maxHeartbeats 4000000 in
theorem valid_4 (p : Nat) (S M : Int) (A E : Option Addr) (n c ne ce : Nat) (st : List Int) (es : List Ed) (w : World) (hp : p ≤ 6) (hS : 0 ≤ S) (hS2 : S ≤ 3000) (ha : Ints w A n st) (hn : n ≤ 17592186044416) (he : EdgesAt w E ne es) (hne : ne ≤ 17592186044416) :
    Calls Try.prog 18 #[.agg #[.int .i64 p, .int .i64 S, .slice A n c, .int .i64 4, .int .i64 M, .slice E ne ce]] w fun e w' => e = .returned (.bool (autB p S 4 M st es)) ∧ Below w.heap.size w w' := by
  have HM := Lib.hid (show marksB 4 M = evenMB M by unfold marksB; simp)
  have HH := Lib.hid (show headP p S 4 by unfold headP; omega)
  have HX := Lib.hid (Box6.new w p S A n c 4 M E ne ce 25)
  have hp0 : (0 : Int) ≤ (p : Int) := by omega
  have hp6 : (p : Int) ≤ 6 := by omega
  cases hq : marksB 4 M
  · have HF := Lib.hid (autB_marks (P := (p : Int)) (S := S) (st := st) (es := es) hq)
    rw [hq] at HM
    clear hq ha he
    go_enter Try.func18, Try.ntmps18
    go_wp2_with fail
    refine (of_kind4 _).mono ?_
    rintro r w1 ⟨rfl, hb1⟩
    have HX1 := Lib.hid (HX.out.below hb1)
    obtain ⟨hz, p0, p1, p2, p3, p4, p5⟩ := HX1.out
    have HB1 := Lib.hid (show Below w.heap.size w w1 from ((Below.refl _ _).alloc (Nat.le_refl _) _).trans (hb1.mono (by simp)))
    clear hb1
    go_wp2_with fail
    refine (isFewPairs_any M _).mono ?_
    rintro r w2 ⟨rfl, rfl⟩
    rw [← HM.out]
    go_wp2_with fail
    go_ret
    exact ⟨ret_bool HF.out.symm, HB1.out.alloc HB1.out.size _⟩
  · have hm := marksB_few hq
    obtain ⟨m, rfl⟩ := Int.eq_ofNat_of_zero_le hm.1
    have hm40 : m ≤ 40 := by omega
    have HS := Lib.hid (fun W (hW : Below w.heap.size w W) => validStart_any p S 4 m A E n c ne ce st W (ha.below hW) hn)
    have HE := Lib.hid (fun W (hW : Below w.heap.size w W) => validEdges_any p m S 4 A E n c ne ce es W (he.below hW) hp hm40 hne)
    have HT := Lib.hid (fun hs => autB_start (P := (p : Int)) (S := S) (st := st) (es := es) HH.out hq hs)
    have HG := Lib.hid (fun hs => autB_edges (P := (p : Int)) (S := S) (st := st) (es := es) HH.out hq hs)
    rw [hq] at HM
    clear hq ha he hm
    obtain ⟨sb, hsb, HSB⟩ : ∃ sb, startB S st = sb ∧ Hid (startB S st = sb) := ⟨_, rfl, rfl⟩
    rw [hsb] at HS
    clear hsb
    obtain ⟨eb, heb, HEB⟩ : ∃ eb, (decide (es.length ≤ 40000) && edgesB p S m es) = eb ∧ Hid ((decide (es.length ≤ 40000) && edgesB p S m es) = eb) := ⟨_, rfl, rfl⟩
    rw [heb] at HE
    clear heb
    go_enter Try.func18, Try.ntmps18
    go_wp2_with fail
    refine (of_kind4 _).mono ?_
    rintro r w1 ⟨rfl, hb1⟩
    have HX1 := Lib.hid (HX.out.below hb1)
    obtain ⟨hz, p0, p1, p2, p3, p4, p5⟩ := HX1.out
    have HB1 := Lib.hid (show Below w.heap.size w w1 from ((Below.refl _ _).alloc (Nat.le_refl _) _).trans (hb1.mono (by simp)))
    clear hb1
    go_wp2_with fail
    refine (isFewPairs_any (m : Int) _).mono ?_
    rintro r w2 ⟨rfl, rfl⟩
    rw [← HM.out]
    go_wp2_with fail
    refine (HS.out _ (HB1.out.alloc HB1.out.size _)).mono ?_
    rintro r w3 ⟨rfl, hb3⟩
    have HX3 := Lib.hid ((HX1.out.below ((Below.refl _ _).alloc (Nat.le_refl _) _)).below hb3)
    have HB3 := Lib.hid ((HB1.out.alloc HB1.out.size _).trans (hb3.mono (HB1.out.alloc HB1.out.size _).size))
    clear hz p0 p1 p2 p3 p4 p5 hb3
    obtain ⟨hz, p0, p1, p2, p3, p4, p5⟩ := HX3.out
    cases sb
    · have HF := Lib.hid (HT.out HSB.out)
      go_wp2_with fail
      go_ret
      exact ⟨ret_bool HF.out.symm, HB3.out⟩
    · have HF := Lib.hid ((HG.out HSB.out).trans HEB.out)
      go_wp2_with fail
      refine (HE.out _ HB3.out).mono ?_
      rintro r w4 ⟨rfl, hb4⟩
      go_wp2_with fail
      go_ret
      exact ⟨ret_bool HF.out.symm, HB3.out.trans (hb4.mono HB3.out.size)⟩

set_option maxRecDepth 100000 in
set_option maxHeartbeats 4000000 in
theorem valid_5 (p : Nat) (S M : Int) (A E : Option Addr) (n c ne ce : Nat) (st : List Int) (es : List Ed) (w : World) (hp : p ≤ 6) (hS : 0 ≤ S) (hS2 : S ≤ 3000) (ha : Ints w A n st) (hn : n ≤ 17592186044416) (he : EdgesAt w E ne es) (hne : ne ≤ 17592186044416) :
    Calls Try.prog 18 #[.agg #[.int .i64 p, .int .i64 S, .slice A n c, .int .i64 5, .int .i64 M, .slice E ne ce]] w fun e w' => e = .returned (.bool (autB p S 5 M st es)) ∧ Below w.heap.size w w' := by
  have HM := Lib.hid (show marksB 5 M = fewMB M by unfold marksB; simp)
  have HH := Lib.hid (show headP p S 5 by unfold headP; omega)
  have HX := Lib.hid (Box6.new w p S A n c 5 M E ne ce 25)
  have hp0 : (0 : Int) ≤ (p : Int) := by omega
  have hp6 : (p : Int) ≤ 6 := by omega
  cases hq : marksB 5 M
  · have HF := Lib.hid (autB_marks (P := (p : Int)) (S := S) (st := st) (es := es) hq)
    rw [hq] at HM
    clear hq ha he
    go_enter Try.func18, Try.ntmps18
    go_wp2_with fail
    refine (of_kind5 _).mono ?_
    rintro r w1 ⟨rfl, hb1⟩
    have HX1 := Lib.hid (HX.out.below hb1)
    obtain ⟨hz, p0, p1, p2, p3, p4, p5⟩ := HX1.out
    have HB1 := Lib.hid (show Below w.heap.size w w1 from ((Below.refl _ _).alloc (Nat.le_refl _) _).trans (hb1.mono (by simp)))
    clear hb1
    go_wp2_with fail
    refine (isFew_any M _).mono ?_
    rintro r w2 ⟨rfl, rfl⟩
    rw [← HM.out]
    go_wp2_with fail
    go_ret
    exact ⟨ret_bool HF.out.symm, HB1.out.alloc HB1.out.size _⟩
  · have hm := marksB_few hq
    obtain ⟨m, rfl⟩ := Int.eq_ofNat_of_zero_le hm.1
    have hm40 : m ≤ 40 := by omega
    have HS := Lib.hid (fun W (hW : Below w.heap.size w W) => validStart_any p S 5 m A E n c ne ce st W (ha.below hW) hn)
    have HE := Lib.hid (fun W (hW : Below w.heap.size w W) => validEdges_any p m S 5 A E n c ne ce es W (he.below hW) hp hm40 hne)
    have HT := Lib.hid (fun hs => autB_start (P := (p : Int)) (S := S) (st := st) (es := es) HH.out hq hs)
    have HG := Lib.hid (fun hs => autB_edges (P := (p : Int)) (S := S) (st := st) (es := es) HH.out hq hs)
    rw [hq] at HM
    clear hq ha he hm
    obtain ⟨sb, hsb, HSB⟩ : ∃ sb, startB S st = sb ∧ Hid (startB S st = sb) := ⟨_, rfl, rfl⟩
    rw [hsb] at HS
    clear hsb
    obtain ⟨eb, heb, HEB⟩ : ∃ eb, (decide (es.length ≤ 40000) && edgesB p S m es) = eb ∧ Hid ((decide (es.length ≤ 40000) && edgesB p S m es) = eb) := ⟨_, rfl, rfl⟩
    rw [heb] at HE
    clear heb
    go_enter Try.func18, Try.ntmps18
    go_wp2_with fail
    refine (of_kind5 _).mono ?_
    rintro r w1 ⟨rfl, hb1⟩
    have HX1 := Lib.hid (HX.out.below hb1)
    obtain ⟨hz, p0, p1, p2, p3, p4, p5⟩ := HX1.out
    have HB1 := Lib.hid (show Below w.heap.size w w1 from ((Below.refl _ _).alloc (Nat.le_refl _) _).trans (hb1.mono (by simp)))
    clear hb1
    go_wp2_with fail
    refine (isFew_any (m : Int) _).mono ?_
    rintro r w2 ⟨rfl, rfl⟩
    rw [← HM.out]
    go_wp2_with fail
    refine (HS.out _ (HB1.out.alloc HB1.out.size _)).mono ?_
    rintro r w3 ⟨rfl, hb3⟩
    have HX3 := Lib.hid ((HX1.out.below ((Below.refl _ _).alloc (Nat.le_refl _) _)).below hb3)
    have HB3 := Lib.hid ((HB1.out.alloc HB1.out.size _).trans (hb3.mono (HB1.out.alloc HB1.out.size _).size))
    clear hz p0 p1 p2 p3 p4 p5 hb3
    obtain ⟨hz, p0, p1, p2, p3, p4, p5⟩ := HX3.out
    cases sb
    · have HF := Lib.hid (HT.out HSB.out)
      go_wp2_with fail
      go_ret
      exact ⟨ret_bool HF.out.symm, HB3.out⟩
    · have HF := Lib.hid ((HG.out HSB.out).trans HEB.out)
      go_wp2_with fail
      refine (HE.out _ HB3.out).mono ?_
      rintro r w4 ⟨rfl, hb4⟩
      go_wp2_with fail
      go_ret
      exact ⟨ret_bool HF.out.symm, HB3.out.trans (hb4.mono HB3.out.size)⟩

end Go.Proofs.Ytfblnadmbfhjiaa.Wd

namespace Go.Proofs.Ytfblnadmbfhjiaa.Wd
open Go.RowKit
set_option linter.unusedVariables false

theorem refHas_any (x : Int) (i : Nat) (w : World) (hi : i ≤ 41) : Calls Try.prog 76 #[.int .i64 x, .int .i64 i] w fun e w' => e = .returned (.bool (hasB x i)) ∧ w = w' := by
  obtain ⟨r, hr, HR⟩ : ∃ r : Int, bits .and .i64 (x / 2 ^ i) 1 = r ∧ Hid (hasB x i = decide (r = 1)) := ⟨_, and1 _, rfl⟩
  have h0 : (0 : Int) ≤ (i : Int) := by omega
  have h1 : (i : Int) ≤ 41 := by omega
  go_enter Try.func76, Try.ntmps76
  go_wp2_with fail
  go_ret
  exact ⟨ret_bool (by rw [HR.out]; first | rfl | simp), rfl⟩

set_option maxHeartbeats 1000000 in
/-- The loop over the pairs, for Rabin. -/
theorem refAccepted_3 (m : Nat) (x : Int) (w : World) (hm : m ≤ 40) (hev : m % 2 = 0) : Calls Try.prog 47 #[.int .i64 3, .int .i64 m, .int .i64 x] w fun e w' => e = .returned (.bool (pairB m x)) ∧ w = w' := by
  have HEV := Lib.hid hev
  clear hev
  go_enter Try.func47, Try.ntmps47
  go_wp2_with fail
  go_loop [7] (fun v => ∃ i : Nat, i ≤ m ∧ Hid (i % 2 = 0 ∧ pairB i x = false) ∧ v = .int .i64 i) (fun v => m + 2 - (intOf v).toNat)
  case atStart => exact ⟨0, by omega, ⟨rfl, pairB_zero x⟩, rfl⟩
  case round =>
    obtain ⟨i, hi, HI, rfl⟩ := hrel
    have h0 : (0 : Int) ≤ (i : Int) := by omega
    by_cases hlt : i < m
    · have hlt2 : i + 1 < m := by have := HI.out.1; have := HEV.out; omega
      have HP := Lib.hid (has_pair x i)
      have HH := Lib.hid (fun w => refHas_any x i w (by omega))
      have HH2 := Lib.hid (fun w => refHas_any x (i + 1) w (by omega))
      have HT := Lib.hid (fun h => pairB_true (x := x) HI.out.1 hlt h)
      have HS := Lib.hid (fun h => pairB_step (x := x) HI.out.1 h)
      generalize hasB x i = b1 at *
      generalize hasB x (i + 1) = b2 at *
      cases b1
      · cases b2
        · have HN := Lib.hid (show ¬ x / 2 ^ i % 4 = 2 from of_decide_eq_false HP.out.symm)
          go_wp2_with fail
          refine (HH.out _).mono ?_
          rintro e w' ⟨rfl, rfl⟩
          go_wp2_with fail
          refine (HH2.out _).mono ?_
          rintro e w' ⟨rfl, rfl⟩
          go_wp2_with fail
          go_round
          case rel => exact ⟨i + 2, by omega, ⟨by have := HI.out.1; omega, by rw [HS.out HN.out]; exact HI.out.2⟩, by go_num⟩
          case measure => simp [intOf]; omega
        · have HN := Lib.hid (show x / 2 ^ i % 4 = 2 from of_decide_eq_true HP.out.symm)
          go_wp2_with fail
          refine (HH.out _).mono ?_
          rintro e w' ⟨rfl, rfl⟩
          go_wp2_with fail
          refine (HH2.out _).mono ?_
          rintro e w' ⟨rfl, rfl⟩
          go_wp2_with fail
          go_ret
          exact ⟨ret_bool (HT.out HN.out).symm, rfl⟩
      · have HN := Lib.hid (show ¬ x / 2 ^ i % 4 = 2 from of_decide_eq_false HP.out.symm)
        go_wp2_with fail
        refine (HH.out _).mono ?_
        rintro e w' ⟨rfl, rfl⟩
        go_wp2_with fail
        go_round
        case rel => exact ⟨i + 2, by omega, ⟨by have := HI.out.1; omega, by rw [HS.out HN.out]; exact HI.out.2⟩, by go_num⟩
        case measure => simp [intOf]; omega
    · obtain rfl : i = m := by omega
      go_wp2_with fail
      go_ret
      exact ⟨ret_bool HI.out.2.symm, rfl⟩

set_option maxHeartbeats 1000000 in
/-- The loop over the pairs, for Streett. -/
theorem refAccepted_4 (m : Nat) (x : Int) (w : World) (hm : m ≤ 40) (hev : m % 2 = 0) : Calls Try.prog 47 #[.int .i64 4, .int .i64 m, .int .i64 x] w fun e w' => e = .returned (.bool (!pairB m x)) ∧ w = w' := by
  have HEV := Lib.hid hev
  clear hev
  go_enter Try.func47, Try.ntmps47
  go_wp2_with fail
  go_loop [8] (fun v => ∃ i : Nat, i ≤ m ∧ Hid (i % 2 = 0 ∧ pairB i x = false) ∧ v = .int .i64 i) (fun v => m + 2 - (intOf v).toNat)
  case atStart => exact ⟨0, by omega, ⟨rfl, pairB_zero x⟩, rfl⟩
  case round =>
    obtain ⟨i, hi, HI, rfl⟩ := hrel
    have h0 : (0 : Int) ≤ (i : Int) := by omega
    by_cases hlt : i < m
    · have hlt2 : i + 1 < m := by have := HI.out.1; have := HEV.out; omega
      have HP := Lib.hid (has_pair x i)
      have HH := Lib.hid (fun w => refHas_any x i w (by omega))
      have HH2 := Lib.hid (fun w => refHas_any x (i + 1) w (by omega))
      have HT := Lib.hid (fun h => pairB_true (x := x) HI.out.1 hlt h)
      have HS := Lib.hid (fun h => pairB_step (x := x) HI.out.1 h)
      generalize hasB x i = b1 at *
      generalize hasB x (i + 1) = b2 at *
      cases b1
      · cases b2
        · have HN := Lib.hid (show ¬ x / 2 ^ i % 4 = 2 from of_decide_eq_false HP.out.symm)
          go_wp2_with fail
          refine (HH.out _).mono ?_
          rintro e w' ⟨rfl, rfl⟩
          go_wp2_with fail
          refine (HH2.out _).mono ?_
          rintro e w' ⟨rfl, rfl⟩
          go_wp2_with fail
          go_round
          case rel => exact ⟨i + 2, by omega, ⟨by have := HI.out.1; omega, by rw [HS.out HN.out]; exact HI.out.2⟩, by go_num⟩
          case measure => simp [intOf]; omega
        · have HN := Lib.hid (show x / 2 ^ i % 4 = 2 from of_decide_eq_true HP.out.symm)
          go_wp2_with fail
          refine (HH.out _).mono ?_
          rintro e w' ⟨rfl, rfl⟩
          go_wp2_with fail
          refine (HH2.out _).mono ?_
          rintro e w' ⟨rfl, rfl⟩
          go_wp2_with fail
          go_ret
          exact ⟨ret_bool (by rw [HT.out HN.out]; rfl), rfl⟩
      · have HN := Lib.hid (show ¬ x / 2 ^ i % 4 = 2 from of_decide_eq_false HP.out.symm)
        go_wp2_with fail
        refine (HH.out _).mono ?_
        rintro e w' ⟨rfl, rfl⟩
        go_wp2_with fail
        go_round
        case rel => exact ⟨i + 2, by omega, ⟨by have := HI.out.1; omega, by rw [HS.out HN.out]; exact HI.out.2⟩, by go_num⟩
        case measure => simp [intOf]; omega
    · obtain rfl : i = m := by omega
      go_wp2_with fail
      go_ret
      exact ⟨ret_bool (by rw [HI.out.2]; rfl), rfl⟩

theorem refAccepted_0 (m x : Int) (w : World) : Calls Try.prog 47 #[.int .i64 0, .int .i64 m, .int .i64 x] w fun e w' => e = .returned (.bool (hasB x 0)) ∧ w = w' := by
  have HH := Lib.hid (fun w => refHas_any x 0 w (by omega))
  go_enter Try.func47, Try.ntmps47
  go_wp2_with fail
  refine (HH.out _).mono ?_
  rintro e w' ⟨rfl, rfl⟩
  go_wp2_with fail
  go_ret
  exact ⟨rfl, rfl⟩
theorem refAccepted_2 (m x : Int) (w : World) : Calls Try.prog 47 #[.int .i64 2, .int .i64 m, .int .i64 x] w fun e w' => e = .returned (.bool (!hasB x 0)) ∧ w = w' := by
  have HH := Lib.hid (fun w => refHas_any x 0 w (by omega))
  go_enter Try.func47, Try.ntmps47
  go_wp2_with fail
  refine (HH.out _).mono ?_
  rintro e w' ⟨rfl, rfl⟩
  go_wp2_with fail
  go_ret
  exact ⟨rfl, rfl⟩
theorem refAccepted_1 (m : Nat) (x : Int) (w : World) (hm : m ≤ 40) : Calls Try.prog 47 #[.int .i64 1, .int .i64 m, .int .i64 x] w fun e w' => e = .returned (.bool (decide (x = (2 : Int) ^ m - 1))) ∧ w = w' := by
  obtain ⟨P, hP, hP1, HP⟩ : ∃ P : Int, IntKind.i64.wrap ((2 : Int) ^ m) = P ∧ IntKind.i64.wrap (P - 1) = P - 1 ∧ Hid ((2 : Int) ^ m = P) := ⟨_, (pow_wrap40 hm).1, (pow_wrap40 hm).2, rfl⟩
  have h0 : (0 : Int) ≤ (m : Int) := by omega
  go_enter Try.func47, Try.ntmps47
  go_wp2_with fail
  go_ret
  exact ⟨ret_bool (by rw [HP.out]; first | rfl | simp), rfl⟩

set_option maxHeartbeats 1000000 in
/-- The loop that looks for the greatest mark. -/
theorem refAccepted_5 (m x : Nat) (w : World) (hm : m ≤ 40) (hx : x < 2 ^ m) : Calls Try.prog 47 #[.int .i64 5, .int .i64 m, .int .i64 x] w fun e w' => e = .returned (.bool (evenB x)) ∧ w = w' := by
  have HX := Lib.hid hx
  clear hx
  go_enter Try.func47, Try.ntmps47
  go_wp2_with fail
  go_loop [9, 63] (fun t v => ∃ (i : Nat) (T : Int), i ≤ m ∧ Hid (T = (topN x i : Int) - 1) ∧ t = .int .i64 T ∧ v = .int .i64 i) (fun _ v => m - (intOf v).toNat)
  case atStart => exact ⟨0, -1, by omega, by show (-1 : Int) = _; rw [topN_zero]; rfl, rfl, rfl⟩
  case round =>
    obtain ⟨i, T, hi, HI, rfl, rfl⟩ := hrel
    have h0 : (0 : Int) ≤ (i : Int) := by omega
    by_cases hlt : i < m
    · have HH := Lib.hid (fun w => refHas_any (x : Int) i w (by omega))
      cases hb : hasB (x : Int) i
      · have HT := Lib.hid (topN_not hb)
        rw [hb] at HH
        clear hb
        go_wp2_with fail
        refine (HH.out _).mono ?_
        rintro e w' ⟨rfl, rfl⟩
        go_wp2_with fail
        go_round
        case rel => exact ⟨i + 1, T, by omega, by show T = _; rw [HT.out]; exact HI.out, rfl, by go_num⟩
        case measure => simp [intOf]; omega
      · have HT := Lib.hid (topN_set (show i < 64 by omega) hb)
        rw [hb] at HH
        clear hb
        go_wp2_with fail
        refine (HH.out _).mono ?_
        rintro e w' ⟨rfl, rfl⟩
        go_wp2_with fail
        go_round
        case rel => exact ⟨i + 1, i, by omega, by show (i : Int) = _; rw [HT.out]; omega, rfl, by go_num⟩
        case measure => simp [intOf]; omega
    · obtain rfl : i = m := by omega
      have HE := Lib.hid (even_top x i HX.out)
      rw [← HI.out] at HE
      have hTl : T ≤ 40 := by have := topN_le x i (by omega); have := HI.out; omega
      by_cases hT : 0 ≤ T
      · obtain ⟨r, hr, HR⟩ : ∃ r : Int, T.tmod 2 = r ∧ Hid (T.tmod 2 = r) := ⟨_, rfl, rfl⟩
        have HD := Lib.hid (show decide ((0 : Int) ≤ T) = true from decide_eq_true hT)
        rw [HD.out, HR.out] at HE
        have hd : decide ((0 : Int) ≤ T) = true := HD.out
        go_wp2_with fail
        go_ret
        exact ⟨ret_bool (by rw [← HE.out]; first | rfl | simp), rfl⟩
      · have HD := Lib.hid (show decide ((0 : Int) ≤ T) = false from decide_eq_false hT)
        rw [HD.out, Bool.false_and] at HE
        have hT' : T < 0 := by omega
        go_wp2_with fail
        go_ret
        exact ⟨ret_bool HE.out, rfl⟩

end Go.Proofs.Ytfblnadmbfhjiaa.Wd

namespace Go.Proofs.Ytfblnadmbfhjiaa.Wd
open Go.RowKit
set_option linter.unusedVariables false

theorem marksB_out {k m : Int} (h : m < 0 ∨ 40 < m) : marksB k m = false := by
  cases hb : marksB k m
  · rfl
  · have := marksB_few hb; omega

theorem refMarks_0 (m : Int) (w : World) : Calls Try.prog 35 #[.int .i64 0, .int .i64 m] w fun e w' => e = .returned (.bool (marksB 0 m)) ∧ w = w' := by
  have hc : m < 0 ∨ (0 ≤ m ∧ 40 < m) ∨ (0 ≤ m ∧ m ≤ 40) := by omega
  rcases hc with h | ⟨h, h2⟩ | ⟨h, h2⟩
  · have HF := Lib.hid (marksB_out (k := 0) (m := m) (by omega))
    go_enter Try.func35, Try.ntmps35
    go_wp2_with fail
    go_ret
    exact ⟨ret_bool HF.out.symm, rfl⟩
  · have HF := Lib.hid (marksB_out (k := 0) (m := m) (by omega))
    go_enter Try.func35, Try.ntmps35
    go_wp2_with fail
    go_ret
    exact ⟨ret_bool HF.out.symm, rfl⟩
  · have HF := Lib.hid (show marksB 0 m = decide (m = 1) by unfold marksB; rw [if_pos (by decide)])
    go_enter Try.func35, Try.ntmps35
    go_wp2_with fail
    go_ret
    exact ⟨ret_bool (by rw [HF.out]; first | rfl | simp), rfl⟩

theorem refMarks_1 (m : Int) (w : World) : Calls Try.prog 35 #[.int .i64 1, .int .i64 m] w fun e w' => e = .returned (.bool (marksB 1 m)) ∧ w = w' := by
  have hc : m < 0 ∨ (0 ≤ m ∧ 40 < m) ∨ (0 ≤ m ∧ m ≤ 40) := by omega
  rcases hc with h | ⟨h, h2⟩ | ⟨h, h2⟩
  · have HF := Lib.hid (marksB_out (k := 1) (m := m) (by omega))
    go_enter Try.func35, Try.ntmps35
    go_wp2_with fail
    go_ret
    exact ⟨ret_bool HF.out.symm, rfl⟩
  · have HF := Lib.hid (marksB_out (k := 1) (m := m) (by omega))
    go_enter Try.func35, Try.ntmps35
    go_wp2_with fail
    go_ret
    exact ⟨ret_bool HF.out.symm, rfl⟩
  · have HF := Lib.hid (show marksB 1 m = true by unfold marksB; rw [if_neg (by decide), if_neg (by decide)]; unfold fewMB; exact decide_eq_true ⟨h, h2⟩)
    go_enter Try.func35, Try.ntmps35
    go_wp2_with fail
    go_ret
    exact ⟨ret_bool HF.out.symm, rfl⟩

theorem refMarks_2 (m : Int) (w : World) : Calls Try.prog 35 #[.int .i64 2, .int .i64 m] w fun e w' => e = .returned (.bool (marksB 2 m)) ∧ w = w' := by
  have hc : m < 0 ∨ (0 ≤ m ∧ 40 < m) ∨ (0 ≤ m ∧ m ≤ 40) := by omega
  rcases hc with h | ⟨h, h2⟩ | ⟨h, h2⟩
  · have HF := Lib.hid (marksB_out (k := 2) (m := m) (by omega))
    go_enter Try.func35, Try.ntmps35
    go_wp2_with fail
    go_ret
    exact ⟨ret_bool HF.out.symm, rfl⟩
  · have HF := Lib.hid (marksB_out (k := 2) (m := m) (by omega))
    go_enter Try.func35, Try.ntmps35
    go_wp2_with fail
    go_ret
    exact ⟨ret_bool HF.out.symm, rfl⟩
  · have HF := Lib.hid (show marksB 2 m = decide (m = 1) by unfold marksB; rw [if_pos (by decide)])
    go_enter Try.func35, Try.ntmps35
    go_wp2_with fail
    go_ret
    exact ⟨ret_bool (by rw [HF.out]; first | rfl | simp), rfl⟩

theorem refMarks_3 (m : Int) (w : World) : Calls Try.prog 35 #[.int .i64 3, .int .i64 m] w fun e w' => e = .returned (.bool (marksB 3 m)) ∧ w = w' := by
  have hc : m < 0 ∨ (0 ≤ m ∧ 40 < m) ∨ (0 ≤ m ∧ m ≤ 40) := by omega
  rcases hc with h | ⟨h, h2⟩ | ⟨h, h2⟩
  · have HF := Lib.hid (marksB_out (k := 3) (m := m) (by omega))
    go_enter Try.func35, Try.ntmps35
    go_wp2_with fail
    go_ret
    exact ⟨ret_bool HF.out.symm, rfl⟩
  · have HF := Lib.hid (marksB_out (k := 3) (m := m) (by omega))
    go_enter Try.func35, Try.ntmps35
    go_wp2_with fail
    go_ret
    exact ⟨ret_bool HF.out.symm, rfl⟩
  · obtain ⟨r, hr, HR⟩ : ∃ r : Int, m.tmod 2 = r ∧ Hid (m % 2 = r) := ⟨_, Int.tmod_eq_emod_of_nonneg h, rfl⟩
    have HF := Lib.hid (show marksB 3 m = decide (r = 0) by unfold marksB; rw [if_neg (by decide), if_pos (by decide)]; unfold evenMB; rw [decide_eq_decide, HR.out]; omega)
    go_enter Try.func35, Try.ntmps35
    go_wp2_with fail
    go_ret
    exact ⟨ret_bool (by rw [HF.out]; first | rfl | simp), rfl⟩

theorem refMarks_4 (m : Int) (w : World) : Calls Try.prog 35 #[.int .i64 4, .int .i64 m] w fun e w' => e = .returned (.bool (marksB 4 m)) ∧ w = w' := by
  have hc : m < 0 ∨ (0 ≤ m ∧ 40 < m) ∨ (0 ≤ m ∧ m ≤ 40) := by omega
  rcases hc with h | ⟨h, h2⟩ | ⟨h, h2⟩
  · have HF := Lib.hid (marksB_out (k := 4) (m := m) (by omega))
    go_enter Try.func35, Try.ntmps35
    go_wp2_with fail
    go_ret
    exact ⟨ret_bool HF.out.symm, rfl⟩
  · have HF := Lib.hid (marksB_out (k := 4) (m := m) (by omega))
    go_enter Try.func35, Try.ntmps35
    go_wp2_with fail
    go_ret
    exact ⟨ret_bool HF.out.symm, rfl⟩
  · obtain ⟨r, hr, HR⟩ : ∃ r : Int, m.tmod 2 = r ∧ Hid (m % 2 = r) := ⟨_, Int.tmod_eq_emod_of_nonneg h, rfl⟩
    have HF := Lib.hid (show marksB 4 m = decide (r = 0) by unfold marksB; rw [if_neg (by decide), if_pos (by decide)]; unfold evenMB; rw [decide_eq_decide, HR.out]; omega)
    go_enter Try.func35, Try.ntmps35
    go_wp2_with fail
    go_ret
    exact ⟨ret_bool (by rw [HF.out]; first | rfl | simp), rfl⟩

theorem refMarks_5 (m : Int) (w : World) : Calls Try.prog 35 #[.int .i64 5, .int .i64 m] w fun e w' => e = .returned (.bool (marksB 5 m)) ∧ w = w' := by
  have hc : m < 0 ∨ (0 ≤ m ∧ 40 < m) ∨ (0 ≤ m ∧ m ≤ 40) := by omega
  rcases hc with h | ⟨h, h2⟩ | ⟨h, h2⟩
  · have HF := Lib.hid (marksB_out (k := 5) (m := m) (by omega))
    go_enter Try.func35, Try.ntmps35
    go_wp2_with fail
    go_ret
    exact ⟨ret_bool HF.out.symm, rfl⟩
  · have HF := Lib.hid (marksB_out (k := 5) (m := m) (by omega))
    go_enter Try.func35, Try.ntmps35
    go_wp2_with fail
    go_ret
    exact ⟨ret_bool HF.out.symm, rfl⟩
  · have HF := Lib.hid (show marksB 5 m = true by unfold marksB; rw [if_neg (by decide), if_neg (by decide)]; unfold fewMB; exact decide_eq_true ⟨h, h2⟩)
    go_enter Try.func35, Try.ntmps35
    go_wp2_with fail
    go_ret
    exact ⟨ret_bool HF.out.symm, rfl⟩

theorem refAccepts_none (kind marks x : Int) (w : World) (hk : ¬ (0 ≤ kind ∧ kind ≤ 5)) : Calls Try.prog 23 #[.int .i64 kind, .int .i64 marks, .int .i64 x] w fun e w' => ResA w w' kind marks x e := by
  have HK := Lib.hid hk
  have hc : kind < 0 ∨ (0 ≤ kind ∧ 5 < kind) := by omega
  clear hk
  rcases hc with h | ⟨h, h2⟩
  all_goals
    go_enter Try.func23, Try.ntmps23
    go_wp2_with fail
    go_ret2
    exact ⟨false, 7, rfl, .inl ⟨HK.out, rfl, rfl⟩, Below.refl _ _⟩

set_option maxHeartbeats 2000000 in
theorem refAccepts_0 (marks x : Int) (w : World) : Calls Try.prog 23 #[.int .i64 0, .int .i64 marks, .int .i64 x] w fun e w' => ResA w w' 0 marks x e := by
  have HMk := Lib.hid (fun w => refMarks_0 marks w)
  cases hp : marksB 0 marks
  · have HP := Lib.hid hp
    rw [hp] at HMk
    clear hp
    go_enter Try.func23, Try.ntmps23
    go_wp2_with fail
    refine (HMk.out _).mono ?_
    rintro e w2 ⟨rfl, rfl⟩
    go_wp2_with fail
    go_ret2
    exact ⟨false, 1, rfl, .inr (.inl ⟨by omega, HP.out, rfl, rfl⟩), Below.refl _ _⟩
  · have hm := marksB_few hp
    obtain ⟨m, rfl⟩ := Int.eq_ofNat_of_zero_le hm.1
    have hm40 : m ≤ 40 := by omega
    have HP := Lib.hid hp
    rw [hp] at HMk
    clear hm
    have HA := Lib.hid (fun w => refAccepted_0 m x w)
    clear hp
    obtain ⟨P, hPw, HPP⟩ : ∃ P : Int, IntKind.i64.wrap ((2 : Int) ^ m) = P ∧ Hid ((2 : Int) ^ m = P) := ⟨_, (pow_wrap40 hm40).1, rfl⟩
    have hm0 : (0 : Int) ≤ (m : Int) := by omega
    have hcase : x < 0 ∨ (0 ≤ x ∧ P ≤ x) ∨ (0 ≤ x ∧ x < P) := by omega
    rcases hcase with hx | ⟨hx, hx2⟩ | ⟨hx, hx2⟩
    · have HX := Lib.hid (show ¬ (0 ≤ x ∧ x < 2 ^ ((m : Int)).toNat) by omega)
      go_enter Try.func23, Try.ntmps23
      go_wp2_with fail
      refine (HMk.out _).mono ?_
      rintro e w2 ⟨rfl, rfl⟩
      go_wp2_with fail
      go_ret2
      exact ⟨false, 6, rfl, .inr (.inr (.inl ⟨by omega, HP.out, HX.out, rfl, rfl⟩)), Below.refl _ _⟩
    · have HX := Lib.hid (show ¬ (0 ≤ x ∧ x < 2 ^ ((m : Int)).toNat) by rw [Int.toNat_natCast, HPP.out]; omega)
      go_enter Try.func23, Try.ntmps23
      go_wp2_with fail
      refine (HMk.out _).mono ?_
      rintro e w2 ⟨rfl, rfl⟩
      go_wp2_with fail
      go_ret2
      exact ⟨false, 6, rfl, .inr (.inr (.inl ⟨by omega, HP.out, HX.out, rfl, rfl⟩)), Below.refl _ _⟩
    · have HX := Lib.hid (show 0 ≤ x ∧ x < 2 ^ ((m : Int)).toNat by rw [Int.toNat_natCast, HPP.out]; omega)
      go_enter Try.func23, Try.ntmps23
      go_wp2_with fail
      refine (HMk.out _).mono ?_
      rintro e w2 ⟨rfl, rfl⟩
      go_wp2_with fail
      refine (HA.out _).mono ?_
      rintro e w3 ⟨rfl, rfl⟩
      go_wp2_with fail
      go_ret2
      refine ⟨_, 0, rfl, .inr (.inr (.inr ⟨by omega, HP.out, HX.out, ?_, rfl⟩)), Below.refl _ _⟩
      have h1 : m = 1 := by
        have h := HP.out
        unfold marksB at h
        rw [if_pos (by decide)] at h
        have := of_decide_eq_true h
        omega
      subst h1
      have h3 := HX.out
      rw [show (2 : Int) ^ (((1 : Nat) : Int)).toNat = 2 from rfl] at h3
      have h4 : x = 0 ∨ x = 1 := by omega
      rcases h4 with rfl | rfl <;> rfl

set_option maxHeartbeats 2000000 in
theorem refAccepts_1 (marks x : Int) (w : World) : Calls Try.prog 23 #[.int .i64 1, .int .i64 marks, .int .i64 x] w fun e w' => ResA w w' 1 marks x e := by
  have HMk := Lib.hid (fun w => refMarks_1 marks w)
  cases hp : marksB 1 marks
  · have HP := Lib.hid hp
    rw [hp] at HMk
    clear hp
    go_enter Try.func23, Try.ntmps23
    go_wp2_with fail
    refine (HMk.out _).mono ?_
    rintro e w2 ⟨rfl, rfl⟩
    go_wp2_with fail
    go_ret2
    exact ⟨false, 1, rfl, .inr (.inl ⟨by omega, HP.out, rfl, rfl⟩), Below.refl _ _⟩
  · have hm := marksB_few hp
    obtain ⟨m, rfl⟩ := Int.eq_ofNat_of_zero_le hm.1
    have hm40 : m ≤ 40 := by omega
    have HP := Lib.hid hp
    rw [hp] at HMk
    clear hm
    have HA := Lib.hid (fun w => refAccepted_1 m x w hm40)
    clear hp
    obtain ⟨P, hPw, HPP⟩ : ∃ P : Int, IntKind.i64.wrap ((2 : Int) ^ m) = P ∧ Hid ((2 : Int) ^ m = P) := ⟨_, (pow_wrap40 hm40).1, rfl⟩
    have hm0 : (0 : Int) ≤ (m : Int) := by omega
    have hcase : x < 0 ∨ (0 ≤ x ∧ P ≤ x) ∨ (0 ≤ x ∧ x < P) := by omega
    rcases hcase with hx | ⟨hx, hx2⟩ | ⟨hx, hx2⟩
    · have HX := Lib.hid (show ¬ (0 ≤ x ∧ x < 2 ^ ((m : Int)).toNat) by omega)
      go_enter Try.func23, Try.ntmps23
      go_wp2_with fail
      refine (HMk.out _).mono ?_
      rintro e w2 ⟨rfl, rfl⟩
      go_wp2_with fail
      go_ret2
      exact ⟨false, 6, rfl, .inr (.inr (.inl ⟨by omega, HP.out, HX.out, rfl, rfl⟩)), Below.refl _ _⟩
    · have HX := Lib.hid (show ¬ (0 ≤ x ∧ x < 2 ^ ((m : Int)).toNat) by rw [Int.toNat_natCast, HPP.out]; omega)
      go_enter Try.func23, Try.ntmps23
      go_wp2_with fail
      refine (HMk.out _).mono ?_
      rintro e w2 ⟨rfl, rfl⟩
      go_wp2_with fail
      go_ret2
      exact ⟨false, 6, rfl, .inr (.inr (.inl ⟨by omega, HP.out, HX.out, rfl, rfl⟩)), Below.refl _ _⟩
    · have HX := Lib.hid (show 0 ≤ x ∧ x < 2 ^ ((m : Int)).toNat by rw [Int.toNat_natCast, HPP.out]; omega)
      go_enter Try.func23, Try.ntmps23
      go_wp2_with fail
      refine (HMk.out _).mono ?_
      rintro e w2 ⟨rfl, rfl⟩
      go_wp2_with fail
      refine (HA.out _).mono ?_
      rintro e w3 ⟨rfl, rfl⟩
      go_wp2_with fail
      go_ret2
      refine ⟨_, 0, rfl, .inr (.inr (.inr ⟨by omega, HP.out, HX.out, ?_, rfl⟩)), Below.refl _ _⟩
      simp [accB]

set_option maxHeartbeats 2000000 in
theorem refAccepts_2 (marks x : Int) (w : World) : Calls Try.prog 23 #[.int .i64 2, .int .i64 marks, .int .i64 x] w fun e w' => ResA w w' 2 marks x e := by
  have HMk := Lib.hid (fun w => refMarks_2 marks w)
  cases hp : marksB 2 marks
  · have HP := Lib.hid hp
    rw [hp] at HMk
    clear hp
    go_enter Try.func23, Try.ntmps23
    go_wp2_with fail
    refine (HMk.out _).mono ?_
    rintro e w2 ⟨rfl, rfl⟩
    go_wp2_with fail
    go_ret2
    exact ⟨false, 1, rfl, .inr (.inl ⟨by omega, HP.out, rfl, rfl⟩), Below.refl _ _⟩
  · have hm := marksB_few hp
    obtain ⟨m, rfl⟩ := Int.eq_ofNat_of_zero_le hm.1
    have hm40 : m ≤ 40 := by omega
    have HP := Lib.hid hp
    rw [hp] at HMk
    clear hm
    have HA := Lib.hid (fun w => refAccepted_2 m x w)
    clear hp
    obtain ⟨P, hPw, HPP⟩ : ∃ P : Int, IntKind.i64.wrap ((2 : Int) ^ m) = P ∧ Hid ((2 : Int) ^ m = P) := ⟨_, (pow_wrap40 hm40).1, rfl⟩
    have hm0 : (0 : Int) ≤ (m : Int) := by omega
    have hcase : x < 0 ∨ (0 ≤ x ∧ P ≤ x) ∨ (0 ≤ x ∧ x < P) := by omega
    rcases hcase with hx | ⟨hx, hx2⟩ | ⟨hx, hx2⟩
    · have HX := Lib.hid (show ¬ (0 ≤ x ∧ x < 2 ^ ((m : Int)).toNat) by omega)
      go_enter Try.func23, Try.ntmps23
      go_wp2_with fail
      refine (HMk.out _).mono ?_
      rintro e w2 ⟨rfl, rfl⟩
      go_wp2_with fail
      go_ret2
      exact ⟨false, 6, rfl, .inr (.inr (.inl ⟨by omega, HP.out, HX.out, rfl, rfl⟩)), Below.refl _ _⟩
    · have HX := Lib.hid (show ¬ (0 ≤ x ∧ x < 2 ^ ((m : Int)).toNat) by rw [Int.toNat_natCast, HPP.out]; omega)
      go_enter Try.func23, Try.ntmps23
      go_wp2_with fail
      refine (HMk.out _).mono ?_
      rintro e w2 ⟨rfl, rfl⟩
      go_wp2_with fail
      go_ret2
      exact ⟨false, 6, rfl, .inr (.inr (.inl ⟨by omega, HP.out, HX.out, rfl, rfl⟩)), Below.refl _ _⟩
    · have HX := Lib.hid (show 0 ≤ x ∧ x < 2 ^ ((m : Int)).toNat by rw [Int.toNat_natCast, HPP.out]; omega)
      go_enter Try.func23, Try.ntmps23
      go_wp2_with fail
      refine (HMk.out _).mono ?_
      rintro e w2 ⟨rfl, rfl⟩
      go_wp2_with fail
      refine (HA.out _).mono ?_
      rintro e w3 ⟨rfl, rfl⟩
      go_wp2_with fail
      go_ret2
      refine ⟨_, 0, rfl, .inr (.inr (.inr ⟨by omega, HP.out, HX.out, ?_, rfl⟩)), Below.refl _ _⟩
      have h1 : m = 1 := by
        have h := HP.out
        unfold marksB at h
        rw [if_pos (by decide)] at h
        have := of_decide_eq_true h
        omega
      subst h1
      have h3 := HX.out
      rw [show (2 : Int) ^ (((1 : Nat) : Int)).toNat = 2 from rfl] at h3
      have h4 : x = 0 ∨ x = 1 := by omega
      rcases h4 with rfl | rfl <;> rfl

set_option maxHeartbeats 2000000 in
theorem refAccepts_3 (marks x : Int) (w : World) : Calls Try.prog 23 #[.int .i64 3, .int .i64 marks, .int .i64 x] w fun e w' => ResA w w' 3 marks x e := by
  have HMk := Lib.hid (fun w => refMarks_3 marks w)
  cases hp : marksB 3 marks
  · have HP := Lib.hid hp
    rw [hp] at HMk
    clear hp
    go_enter Try.func23, Try.ntmps23
    go_wp2_with fail
    refine (HMk.out _).mono ?_
    rintro e w2 ⟨rfl, rfl⟩
    go_wp2_with fail
    go_ret2
    exact ⟨false, 1, rfl, .inr (.inl ⟨by omega, HP.out, rfl, rfl⟩), Below.refl _ _⟩
  · have hm := marksB_few hp
    obtain ⟨m, rfl⟩ := Int.eq_ofNat_of_zero_le hm.1
    have hm40 : m ≤ 40 := by omega
    have HP := Lib.hid hp
    rw [hp] at HMk
    clear hm
    have hev : m % 2 = 0 := by
      have h := hp
      unfold marksB at h
      rw [if_neg (by decide), if_pos (by decide)] at h
      have := of_decide_eq_true h
      omega
    have HA := Lib.hid (fun w => refAccepted_3 m x w hm40 hev)
    clear hev
    clear hp
    obtain ⟨P, hPw, HPP⟩ : ∃ P : Int, IntKind.i64.wrap ((2 : Int) ^ m) = P ∧ Hid ((2 : Int) ^ m = P) := ⟨_, (pow_wrap40 hm40).1, rfl⟩
    have hm0 : (0 : Int) ≤ (m : Int) := by omega
    have hcase : x < 0 ∨ (0 ≤ x ∧ P ≤ x) ∨ (0 ≤ x ∧ x < P) := by omega
    rcases hcase with hx | ⟨hx, hx2⟩ | ⟨hx, hx2⟩
    · have HX := Lib.hid (show ¬ (0 ≤ x ∧ x < 2 ^ ((m : Int)).toNat) by omega)
      go_enter Try.func23, Try.ntmps23
      go_wp2_with fail
      refine (HMk.out _).mono ?_
      rintro e w2 ⟨rfl, rfl⟩
      go_wp2_with fail
      go_ret2
      exact ⟨false, 6, rfl, .inr (.inr (.inl ⟨by omega, HP.out, HX.out, rfl, rfl⟩)), Below.refl _ _⟩
    · have HX := Lib.hid (show ¬ (0 ≤ x ∧ x < 2 ^ ((m : Int)).toNat) by rw [Int.toNat_natCast, HPP.out]; omega)
      go_enter Try.func23, Try.ntmps23
      go_wp2_with fail
      refine (HMk.out _).mono ?_
      rintro e w2 ⟨rfl, rfl⟩
      go_wp2_with fail
      go_ret2
      exact ⟨false, 6, rfl, .inr (.inr (.inl ⟨by omega, HP.out, HX.out, rfl, rfl⟩)), Below.refl _ _⟩
    · have HX := Lib.hid (show 0 ≤ x ∧ x < 2 ^ ((m : Int)).toNat by rw [Int.toNat_natCast, HPP.out]; omega)
      go_enter Try.func23, Try.ntmps23
      go_wp2_with fail
      refine (HMk.out _).mono ?_
      rintro e w2 ⟨rfl, rfl⟩
      go_wp2_with fail
      refine (HA.out _).mono ?_
      rintro e w3 ⟨rfl, rfl⟩
      go_wp2_with fail
      go_ret2
      refine ⟨_, 0, rfl, .inr (.inr (.inr ⟨by omega, HP.out, HX.out, ?_, rfl⟩)), Below.refl _ _⟩
      simp [accB]

set_option maxHeartbeats 2000000 in
theorem refAccepts_4 (marks x : Int) (w : World) : Calls Try.prog 23 #[.int .i64 4, .int .i64 marks, .int .i64 x] w fun e w' => ResA w w' 4 marks x e := by
  have HMk := Lib.hid (fun w => refMarks_4 marks w)
  cases hp : marksB 4 marks
  · have HP := Lib.hid hp
    rw [hp] at HMk
    clear hp
    go_enter Try.func23, Try.ntmps23
    go_wp2_with fail
    refine (HMk.out _).mono ?_
    rintro e w2 ⟨rfl, rfl⟩
    go_wp2_with fail
    go_ret2
    exact ⟨false, 1, rfl, .inr (.inl ⟨by omega, HP.out, rfl, rfl⟩), Below.refl _ _⟩
  · have hm := marksB_few hp
    obtain ⟨m, rfl⟩ := Int.eq_ofNat_of_zero_le hm.1
    have hm40 : m ≤ 40 := by omega
    have HP := Lib.hid hp
    rw [hp] at HMk
    clear hm
    have hev : m % 2 = 0 := by
      have h := hp
      unfold marksB at h
      rw [if_neg (by decide), if_pos (by decide)] at h
      have := of_decide_eq_true h
      omega
    have HA := Lib.hid (fun w => refAccepted_4 m x w hm40 hev)
    clear hev
    clear hp
    obtain ⟨P, hPw, HPP⟩ : ∃ P : Int, IntKind.i64.wrap ((2 : Int) ^ m) = P ∧ Hid ((2 : Int) ^ m = P) := ⟨_, (pow_wrap40 hm40).1, rfl⟩
    have hm0 : (0 : Int) ≤ (m : Int) := by omega
    have hcase : x < 0 ∨ (0 ≤ x ∧ P ≤ x) ∨ (0 ≤ x ∧ x < P) := by omega
    rcases hcase with hx | ⟨hx, hx2⟩ | ⟨hx, hx2⟩
    · have HX := Lib.hid (show ¬ (0 ≤ x ∧ x < 2 ^ ((m : Int)).toNat) by omega)
      go_enter Try.func23, Try.ntmps23
      go_wp2_with fail
      refine (HMk.out _).mono ?_
      rintro e w2 ⟨rfl, rfl⟩
      go_wp2_with fail
      go_ret2
      exact ⟨false, 6, rfl, .inr (.inr (.inl ⟨by omega, HP.out, HX.out, rfl, rfl⟩)), Below.refl _ _⟩
    · have HX := Lib.hid (show ¬ (0 ≤ x ∧ x < 2 ^ ((m : Int)).toNat) by rw [Int.toNat_natCast, HPP.out]; omega)
      go_enter Try.func23, Try.ntmps23
      go_wp2_with fail
      refine (HMk.out _).mono ?_
      rintro e w2 ⟨rfl, rfl⟩
      go_wp2_with fail
      go_ret2
      exact ⟨false, 6, rfl, .inr (.inr (.inl ⟨by omega, HP.out, HX.out, rfl, rfl⟩)), Below.refl _ _⟩
    · have HX := Lib.hid (show 0 ≤ x ∧ x < 2 ^ ((m : Int)).toNat by rw [Int.toNat_natCast, HPP.out]; omega)
      go_enter Try.func23, Try.ntmps23
      go_wp2_with fail
      refine (HMk.out _).mono ?_
      rintro e w2 ⟨rfl, rfl⟩
      go_wp2_with fail
      refine (HA.out _).mono ?_
      rintro e w3 ⟨rfl, rfl⟩
      go_wp2_with fail
      go_ret2
      refine ⟨_, 0, rfl, .inr (.inr (.inr ⟨by omega, HP.out, HX.out, ?_, rfl⟩)), Below.refl _ _⟩
      simp [accB]

set_option maxHeartbeats 2000000 in
theorem refAccepts_5 (marks x : Int) (w : World) : Calls Try.prog 23 #[.int .i64 5, .int .i64 marks, .int .i64 x] w fun e w' => ResA w w' 5 marks x e := by
  have HMk := Lib.hid (fun w => refMarks_5 marks w)
  cases hp : marksB 5 marks
  · have HP := Lib.hid hp
    rw [hp] at HMk
    clear hp
    go_enter Try.func23, Try.ntmps23
    go_wp2_with fail
    refine (HMk.out _).mono ?_
    rintro e w2 ⟨rfl, rfl⟩
    go_wp2_with fail
    go_ret2
    exact ⟨false, 1, rfl, .inr (.inl ⟨by omega, HP.out, rfl, rfl⟩), Below.refl _ _⟩
  · have hm := marksB_few hp
    obtain ⟨m, rfl⟩ := Int.eq_ofNat_of_zero_le hm.1
    have hm40 : m ≤ 40 := by omega
    have HP := Lib.hid hp
    rw [hp] at HMk
    clear hm
    clear hp
    obtain ⟨P, hPw, HPP⟩ : ∃ P : Int, IntKind.i64.wrap ((2 : Int) ^ m) = P ∧ Hid ((2 : Int) ^ m = P) := ⟨_, (pow_wrap40 hm40).1, rfl⟩
    have hm0 : (0 : Int) ≤ (m : Int) := by omega
    have hcase : x < 0 ∨ (0 ≤ x ∧ P ≤ x) ∨ (0 ≤ x ∧ x < P) := by omega
    rcases hcase with hx | ⟨hx, hx2⟩ | ⟨hx, hx2⟩
    · have HX := Lib.hid (show ¬ (0 ≤ x ∧ x < 2 ^ ((m : Int)).toNat) by omega)
      go_enter Try.func23, Try.ntmps23
      go_wp2_with fail
      refine (HMk.out _).mono ?_
      rintro e w2 ⟨rfl, rfl⟩
      go_wp2_with fail
      go_ret2
      exact ⟨false, 6, rfl, .inr (.inr (.inl ⟨by omega, HP.out, HX.out, rfl, rfl⟩)), Below.refl _ _⟩
    · have HX := Lib.hid (show ¬ (0 ≤ x ∧ x < 2 ^ ((m : Int)).toNat) by rw [Int.toNat_natCast, HPP.out]; omega)
      go_enter Try.func23, Try.ntmps23
      go_wp2_with fail
      refine (HMk.out _).mono ?_
      rintro e w2 ⟨rfl, rfl⟩
      go_wp2_with fail
      go_ret2
      exact ⟨false, 6, rfl, .inr (.inr (.inl ⟨by omega, HP.out, HX.out, rfl, rfl⟩)), Below.refl _ _⟩
    · have HX := Lib.hid (show 0 ≤ x ∧ x < 2 ^ ((m : Int)).toNat by rw [Int.toNat_natCast, HPP.out]; omega)
      obtain ⟨x, rfl⟩ := Int.eq_ofNat_of_zero_le hx
      have hxm : x < 2 ^ m := by
        have h := hx2
        rw [← HPP.out] at h
        have h2 : ((2 ^ m : Nat) : Int) = (2 : Int) ^ m := by simp
        omega
      have HA := Lib.hid (fun w => refAccepted_5 m x w hm40 hxm)
      clear hxm
      go_enter Try.func23, Try.ntmps23
      go_wp2_with fail
      refine (HMk.out _).mono ?_
      rintro e w2 ⟨rfl, rfl⟩
      go_wp2_with fail
      refine (HA.out _).mono ?_
      rintro e w3 ⟨rfl, rfl⟩
      go_wp2_with fail
      go_ret2
      refine ⟨_, 0, rfl, .inr (.inr (.inr ⟨by omega, HP.out, HX.out, ?_, rfl⟩)), Below.refl _ _⟩
      simp [accB]

theorem refAccepts_any (kind marks x : Int) (w : World) : Calls Try.prog 23 #[.int .i64 kind, .int .i64 marks, .int .i64 x] w fun e w' => ResA w w' kind marks x e := by
  by_cases hk : 0 ≤ kind ∧ kind ≤ 5
  · have h : kind = 0 ∨ kind = 1 ∨ kind = 2 ∨ kind = 3 ∨ kind = 4 ∨ kind = 5 := by omega
    rcases h with rfl | rfl | rfl | rfl | rfl | rfl
    · exact refAccepts_0 marks x w
    · exact refAccepts_1 marks x w
    · exact refAccepts_2 marks x w
    · exact refAccepts_3 marks x w
    · exact refAccepts_4 marks x w
    · exact refAccepts_5 marks x w
  · exact refAccepts_none kind marks x w hk

end Go.Proofs.Ytfblnadmbfhjiaa.Wd

namespace Go.Proofs.Ytfblnadmbfhjiaa.Wd
open Go.RowKit
set_option linter.unusedVariables false

theorem autValid_any (P S K M : Int) (A E : Option Addr) (n c ne ce : Nat) (st : List Int) (es : List Ed) (w : World) (ha : Ints w A n st) (hn : n ≤ 17592186044416) (he : EdgesAt w E ne es) (hne : ne ≤ 17592186044416) :
    Calls Try.prog 18 #[.agg #[.int .i64 P, .int .i64 S, .slice A n c, .int .i64 K, .int .i64 M, .slice E ne ce]] w fun e w' => e = .returned (.bool (autB P S K M st es)) ∧ Below w.heap.size w w' := by
  by_cases h : headP P S K
  · obtain ⟨h1, h2, h3, h4, h5, h6⟩ := h
    obtain ⟨p, rfl⟩ := Int.eq_ofNat_of_zero_le h1
    have hk : K = 0 ∨ K = 1 ∨ K = 2 ∨ K = 3 ∨ K = 4 ∨ K = 5 := by omega
    rcases hk with rfl | rfl | rfl | rfl | rfl | rfl
    · exact valid_0 p S M A E n c ne ce st es w (by omega) h3 h4 ha hn he hne
    · exact valid_1 p S M A E n c ne ce st es w (by omega) h3 h4 ha hn he hne
    · exact valid_2 p S M A E n c ne ce st es w (by omega) h3 h4 ha hn he hne
    · exact valid_3 p S M A E n c ne ce st es w (by omega) h3 h4 ha hn he hne
    · exact valid_4 p S M A E n c ne ce st es w (by omega) h3 h4 ha hn he hne
    · exact valid_5 p S M A E n c ne ce st es w (by omega) h3 h4 ha hn he hne
  · exact valid_head P S K M A E n c ne ce st es w h

theorem refMarks_any (K m : Int) (w : World) (hK : 0 ≤ K) (hK2 : K ≤ 5) : Calls Try.prog 35 #[.int .i64 K, .int .i64 m] w fun e w' => e = .returned (.bool (marksB K m)) ∧ w = w' := by
  have hk : K = 0 ∨ K = 1 ∨ K = 2 ∨ K = 3 ∨ K = 4 ∨ K = 5 := by omega
  rcases hk with rfl | rfl | rfl | rfl | rfl | rfl
  · exact refMarks_0 m w
  · exact refMarks_1 m w
  · exact refMarks_2 m w
  · exact refMarks_3 m w
  · exact refMarks_4 m w
  · exact refMarks_5 m w

theorem autB_many {P S K M : Int} {st : List Int} {es : List Ed} (h : 40000 < es.length) : autB P S K M st es = false := by
  unfold autB listsB
  rw [decide_eq_false (p := es.length ≤ 40000) (by omega)]
  simp
theorem autB_few {P S K M : Int} {st : List Int} {es : List Ed} (h : headP P S K) (hm : marksB K M = true) (hl : es.length ≤ 40000) : autB P S K M st es = (startB S st && edgesB P.toNat S M.toNat es) := by
  rw [autB_tail h hm]
  unfold listsB
  rw [decide_eq_true hl]
  simp

set_option maxRecDepth 100000 in
set_option maxHeartbeats 2000000 in
theorem refValid_head (P S K M : Int) (A E : Option Addr) (n c ne ce : Nat) (st : List Int) (es : List Ed) (w : World) (h : ¬ headP P S K) :
    Calls Try.prog 19 #[.agg #[.int .i64 P, .int .i64 S, .slice A n c, .int .i64 K, .int .i64 M, .slice E ne ce]] w fun e w' => e = .returned (.bool (autB P S K M st es)) ∧ Below w.heap.size w w' := by
  have HF := Lib.hid (autB_head (M := M) (st := st) (es := es) h)
  have hc : P < 0 ∨ (0 ≤ P ∧ 6 < P) ∨ (0 ≤ P ∧ P ≤ 6 ∧ S < 0) ∨ (0 ≤ P ∧ P ≤ 6 ∧ 0 ≤ S ∧ 3000 < S) ∨ (0 ≤ P ∧ P ≤ 6 ∧ 0 ≤ S ∧ S ≤ 3000 ∧ (K < 0 ∨ (0 ≤ K ∧ 5 < K))) := by unfold headP at h; omega
  clear h
  rcases hc with h | ⟨h, h2⟩ | ⟨h, h2, h3⟩ | ⟨h, h2, h3, h4⟩ | ⟨h, h2, h3, h4, h5 | ⟨h5, h6⟩⟩
  all_goals
    go_enter Try.func19, Try.ntmps19
    go_wp2_with fail
    go_ret
    exact ⟨ret_bool HF.out.symm, (Below.refl _ _).alloc (Nat.le_refl _) _⟩

set_option maxRecDepth 100000 in
set_option maxHeartbeats 2000000 in
theorem refValid_marks (P S K M : Int) (A E : Option Addr) (n c ne ce : Nat) (st : List Int) (es : List Ed) (w : World) (h : headP P S K) (hq : marksB K M = false) :
    Calls Try.prog 19 #[.agg #[.int .i64 P, .int .i64 S, .slice A n c, .int .i64 K, .int .i64 M, .slice E ne ce]] w fun e w' => e = .returned (.bool (autB P S K M st es)) ∧ Below w.heap.size w w' := by
  have HF := Lib.hid (autB_marks (P := P) (S := S) (st := st) (es := es) hq)
  obtain ⟨h1, h2, h3, h4, h5, h6⟩ := h
  have HMk := Lib.hid (fun w => refMarks_any K M w h5 h6)
  rw [hq] at HMk
  clear hq
  go_enter Try.func19, Try.ntmps19
  go_wp2_with fail
  refine (HMk.out _).mono ?_
  rintro e w1 ⟨rfl, rfl⟩
  go_wp2_with fail
  go_ret
  exact ⟨ret_bool HF.out.symm, (Below.refl _ _).alloc (Nat.le_refl _) _⟩

set_option maxRecDepth 100000 in
set_option maxHeartbeats 2000000 in
theorem refValid_many (P S K M : Int) (A E : Option Addr) (n c ne ce : Nat) (st : List Int) (es : List Ed) (w : World) (h : headP P S K) (hq : marksB K M = true) (hl : es.length = ne) (hne : ne ≤ 17592186044416) (hm : 40000 < ne) :
    Calls Try.prog 19 #[.agg #[.int .i64 P, .int .i64 S, .slice A n c, .int .i64 K, .int .i64 M, .slice E ne ce]] w fun e w' => e = .returned (.bool (autB P S K M st es)) ∧ Below w.heap.size w w' := by
  have HF := Lib.hid (autB_many (P := P) (S := S) (K := K) (M := M) (st := st) (es := es) (by omega))
  obtain ⟨h1, h2, h3, h4, h5, h6⟩ := h
  have HMk := Lib.hid (fun w => refMarks_any K M w h5 h6)
  rw [hq] at HMk
  clear hq hl
  have hmi : (40000 : Int) < (ne : Int) := by omega
  have hmd : decide ((40000 : Int) < (ne : Int)) = true := decide_eq_true hmi
  go_enter Try.func19, Try.ntmps19
  go_wp2_with fail
  refine (HMk.out _).mono ?_
  rintro e w1 ⟨rfl, rfl⟩
  go_wp2_with fail
  go_ret
  exact ⟨ret_bool HF.out.symm, (Below.refl _ _).alloc (Nat.le_refl _) _⟩

end Go.Proofs.Ytfblnadmbfhjiaa.Wd

namespace Go.Proofs.Ytfblnadmbfhjiaa.Wd
open Go.RowKit
set_option linter.unusedVariables false

theorem autB_true {P S K M : Int} {st : List Int} {es : List Ed} (h : autB P S K M st es = true) : headP P S K ∧ marksB K M = true ∧ startB S st = true ∧ es.length ≤ 40000 ∧ edgesB P.toNat S M.toNat es = true := by
  unfold autB listsB at h
  simp only [Bool.and_eq_true] at h
  exact ⟨of_decide_eq_true h.1, h.2.1, h.2.2.1, of_decide_eq_true h.2.2.2.1, h.2.2.2.2⟩

/-- What Step comes to: the list and the error. -/
def PickR (P S K M : Int) (st : List Int) (es : List Ed) (s l : Int) (L : List Int) (code : Int) : Prop :=
  (autB P S K M st es = false ∧ L = [] ∧ code = 1) ∨ (autB P S K M st es = true ∧ ¬ (0 ≤ s ∧ s < S ∧ 0 ≤ l ∧ l < 2 ^ P.toNat) ∧ L = [] ∧ code = 6) ∨
  (autB P S K M st es = true ∧ (0 ≤ s ∧ s < S ∧ 0 ≤ l ∧ l < 2 ^ P.toNat) ∧ L = outL es s l es.length ∧ code = 0)
theorem PickR.unique {P S K M : Int} {st : List Int} {es : List Ed} {s l : Int} {L L' : List Int} {c c' : Int} (h : PickR P S K M st es s l L c) (h' : PickR P S K M st es s l L' c') : L = L' ∧ c = c' := by
  rcases h with ⟨a1, rfl, rfl⟩ | ⟨a1, a2, rfl, rfl⟩ | ⟨a1, a2, rfl, rfl⟩ <;> rcases h' with ⟨b1, rfl, rfl⟩ | ⟨b1, b2, rfl, rfl⟩ | ⟨b1, b2, rfl, rfl⟩
  all_goals first | exact ⟨rfl, rfl⟩ | exact absurd b2 a2 | exact absurd a2 b2 | (rw [a1] at b1; cases b1)
def ResS (w w' : World) (P S K M : Int) (st : List Int) (es : List Ed) (s l : Int) (e : Ending) : Prop :=
  ∃ v L code, e = .returned (.tuple #[v, .int .i64 code]) ∧ w'.ownsRow w.heap.size 3 1 v L.length (L.map (Value.int .i64)) ∧ Hid (PickR P S K M st es s l L code) ∧ Below w.heap.size w w'
theorem boxB {w w1 : World} {cs : Array Value} {t : TypeId} (hb : Below (w.alloc (.cells cs t)).heap.size (w.alloc (.cells cs t)) w1) : Below w.heap.size w w1 := ((Below.refl _ _).alloc (Nat.le_refl _) _).trans (hb.mono (by simp))

set_option maxRecDepth 100000 in
set_option maxHeartbeats 2000000 in
theorem step_bad (P S K M s l : Int) (A E : Option Addr) (n c ne ce : Nat) (st : List Int) (es : List Ed) (w : World) (ha : Ints w A n st) (hn : n ≤ 17592186044416) (he : EdgesAt w E ne es) (hne : ne ≤ 17592186044416) (hv : autB P S K M st es = false) :
    Calls Try.prog 16 #[.agg #[.int .i64 P, .int .i64 S, .slice A n c, .int .i64 K, .int .i64 M, .slice E ne ce], .int .i64 s, .int .i64 l] w fun e w' => ResS w w' P S K M st es s l e := by
  have HV := Lib.hid (fun W (hW : Below w.heap.size w W) => autValid_any P S K M A E n c ne ce st es W (ha.below hW) hn (he.below hW) hne)
  have HF := Lib.hid hv
  rw [hv] at HV
  clear hv ha he
  go_enter Try.func16, Try.ntmps16
  go_wp2_with fail
  refine (HV.out _ ((Below.refl _ _).alloc (Nat.le_refl _) _)).mono ?_
  rintro r w1 ⟨rfl, hb1⟩
  have HB1 := Lib.hid (boxB hb1)
  clear hb1
  go_wp2_with fail
  go_ret2
  exact ⟨_, [], 1, rfl, World.ownsRow_nil _ _ _ _, .inl ⟨HF.out, rfl, rfl⟩, HB1.out⟩

set_option maxRecDepth 100000 in
set_option maxHeartbeats 4000000 in
theorem step_range (p : Nat) (S K M s l : Int) (A E : Option Addr) (n c ne ce : Nat) (st : List Int) (es : List Ed) (w : World) (ha : Ints w A n st) (hn : n ≤ 17592186044416) (he : EdgesAt w E ne es) (hne : ne ≤ 17592186044416) (hp : p ≤ 6) (hv : autB p S K M st es = true)
    (hr : ¬ (0 ≤ s ∧ s < S ∧ 0 ≤ l ∧ l < 2 ^ p)) :
    Calls Try.prog 16 #[.agg #[.int .i64 p, .int .i64 S, .slice A n c, .int .i64 K, .int .i64 M, .slice E ne ce], .int .i64 s, .int .i64 l] w fun e w' => ResS w w' p S K M st es s l e := by
  have HV := Lib.hid (fun W (hW : Below w.heap.size w W) => autValid_any p S K M A E n c ne ce st es W (ha.below hW) hn (he.below hW) hne)
  have HF := Lib.hid hv
  have HR := Lib.hid hr
  have HX := Lib.hid (Box6.new w p S A n c K M E ne ce 25)
  rw [hv] at HV
  obtain ⟨PP, hPP, HPP⟩ : ∃ X : Int, IntKind.i64.wrap ((2 : Int) ^ p) = X ∧ Hid ((2 : Int) ^ p = X) := ⟨_, pow_wrap6 hp, rfl⟩
  rw [HPP.out] at hr
  have hp0 : (0 : Int) ≤ (p : Int) := by omega
  have hp6 : (p : Int) ≤ 6 := by omega
  have hcase : s < 0 ∨ (0 ≤ s ∧ S ≤ s) ∨ (0 ≤ s ∧ s < S ∧ l < 0) ∨ (0 ≤ s ∧ s < S ∧ 0 ≤ l ∧ PP ≤ l) := by omega
  clear hv ha he hr
  rcases hcase with h | ⟨h, h2⟩ | ⟨h, h2, h3⟩ | ⟨h, h2, h3, h4⟩
  all_goals
    go_enter Try.func16, Try.ntmps16
    go_wp2_with fail
    refine (HV.out _ ((Below.refl _ _).alloc (Nat.le_refl _) _)).mono ?_
    rintro r w1 ⟨rfl, hb1⟩
    obtain ⟨hz, p0, p1, p2, p3, p4, p5⟩ := HX.out.below hb1
    have HB1 := Lib.hid (boxB hb1)
    clear hb1
    go_wp2_with fail
    go_ret2
    exact ⟨_, [], 6, rfl, World.ownsRow_nil _ _ _ _, .inr (.inl ⟨HF.out, HR.out, rfl, rfl⟩), HB1.out⟩

set_option maxRecDepth 100000 in
set_option maxHeartbeats 4000000 in
theorem step_good (p : Nat) (S K M s l : Int) (A E : Option Addr) (n c ne ce : Nat) (st : List Int) (es : List Ed) (w : World) (ha : Ints w A n st) (hn : n ≤ 17592186044416) (hE : EdgesAt w E ne es) (hne : ne ≤ 40000) (hp : p ≤ 6) (hv : autB p S K M st es = true)
    (hr : 0 ≤ s ∧ s < S ∧ 0 ≤ l ∧ l < 2 ^ p) :
    Calls Try.prog 16 #[.agg #[.int .i64 p, .int .i64 S, .slice A n c, .int .i64 K, .int .i64 M, .slice E ne ce], .int .i64 s, .int .i64 l] w fun e w' => ResS w w' p S K M st es s l e := by
  obtain ⟨i0, hi, hi0, hi1, hi2⟩ := info_parts int_row
  have HV := Lib.hid (fun W (hW : Below w.heap.size w W) => autValid_any p S K M A E n c ne ce st es W (ha.below hW) hn (hE.below hW) (by omega))
  have HV2 := Lib.hid hv
  have HR := Lib.hid hr
  have HX := Lib.hid (Box6.new w p S A n c K M E ne ce 25)
  have HA := Lib.hid hE
  have HL := Lib.hid hE.1
  rw [hv] at HV
  obtain ⟨PP, hPP, HPP⟩ : ∃ X : Int, IntKind.i64.wrap ((2 : Int) ^ p) = X ∧ Hid ((2 : Int) ^ p = X) := ⟨_, pow_wrap6 hp, rfl⟩
  rw [HPP.out] at hr
  have hp0 : (0 : Int) ≤ (p : Int) := by omega
  have hp6 : (p : Int) ≤ 6 := by omega
  obtain ⟨h, h2, h3, h4⟩ := hr
  clear hv ha hE
  go_enter Try.func16, Try.ntmps16
  go_wp2_with fail
  refine (HV.out _ ((Below.refl _ _).alloc (Nat.le_refl _) _)).mono ?_
  rintro r W0 ⟨rfl, hb1⟩
  obtain ⟨hz, p0, p1, p2, p3, p4, p5⟩ := HX.out.below hb1
  have HB0 := Lib.hid (boxB hb1)
  clear hb1 HX HV
  go_wp2_with fail
  clear p0 p1 p2 p3 p4 p5
  go_loopg [8, 36] ne (fun g v i wx => ∃ t : Nat, t + g = ne ∧ i = .int .i64 t ∧ Hid (wx.ownsRow W0.heap.size 3 1 v (outL es s l t).length ((outL es s l t).map (Value.int .i64))) ∧ Hid (Below W0.heap.size W0 wx))
  case atStart => exact ⟨0, by omega, rfl, World.ownsRow_nil _ _ _ _, Below.refl _ _⟩
  case round =>
    obtain ⟨t, htg, rfl, HO, HBx⟩ := hrel
    have hti : (0 : Int) ≤ (t : Int) := by omega
    have HBw := Lib.hid (HB0.out.trans (HBx.out.mono HB0.out.size))
    have hzr := Nat.lt_of_lt_of_le hz HBx.out.size
    cases gk with
    | zero =>
      obtain rfl : ne = t := by omega
      go_wp2_with fail
      go_ret2
      refine ⟨_, _, 0, rfl, own_le' HO.out HB0.out.size, .inr (.inr ⟨HV2.out, HR.out, ?_, rfl⟩), HBw.out⟩
      rw [HL.out]
    | succ q =>
      have ht1 : t < ne := by omega
      have hti2 : (t : Int) < (ne : Int) := by omega
      obtain ⟨b, off, rfl, hlt, hcell⟩ := (HA.out.below HBw.out).2 (by omega)
      obtain ⟨c0, c1, c2, c3, c4⟩ := hcell t ht1
      have HY := Lib.hid (fun a b => outL_yes (es := es) (s := s) (l := l) (k := t) a b)
      have HF := Lib.hid (fun a => outL_far (es := es) (s := s) (l := l) (k := t) a)
      have HN := Lib.hid (fun a => outL_no (es := es) (s := s) (l := l) (k := t) a)
      have HLN := Lib.hid (outL_len es s l t)
      generalize es.getD t ed0 = x at *
      obtain ⟨ef, et, ec, eb, em⟩ := x
      simp only at c0 c1 c2 c3 c4
      clear hcell
      by_cases hs : ef = s
      · have HRD := Lib.hid (fun w => has_letB ef et ec eb em l w)
        obtain ⟨rb, hrb, HRB⟩ : ∃ rb, letB l ⟨ef, et, ec, eb, em⟩ = rb ∧ Hid (letB l ⟨ef, et, ec, eb, em⟩ = rb) := ⟨_, rfl, rfl⟩
        rw [hrb] at HRD
        clear hrb
        subst hs
        go_wp2_with fail
        refine (HRD.out _).mono ?_
        rintro r w3 ⟨rfl, hb3⟩
        have HB3 := Lib.hid (((HBx.out.alloc HBx.out.size _).trans (hb3.mono (HBx.out.alloc HBx.out.size _).size)))
        have HO3 := Lib.hid (own_below' (HO.out.alloc _) hb3)
        clear hb3
        cases rb
        · have HN2 := Lib.hid (HN.out HRB.out)
          go_wp2_with fail
          go_roundg q
          case measure => omega
          case rel => exact ⟨t + 1, by omega, by go_num, (by rw [HN2.out]; exact HO3.out), HB3.out⟩
        · have HY2 := Lib.hid (HY.out (by trivial) HRB.out)
          go_wp2_with (at_builtin; refine wpList_append_ints _ (by rfl) _ _ 22 (by rfl) W0.heap.size 3 i0 _ Try.underlying22 hi hi0 hi1 hi2 rfl u8 (outL es ef l t).length ((outL es ef l t).map (Value.int .i64)) (by rfl) (by exact HO3.out.alloc _) (some ⟨w3.heap.size, 0, none⟩) 1 1 [(t : Int)] (by rfl) (ints_one w3 t _) (by have := HLN.out; omega) (by exact (HB3.out.alloc HB3.out.size _).size) ?_)
          intro v' w4 hown hgrow _
          have HB4 := Lib.hid ((HB3.out.alloc HB3.out.size (.cells #[.int .i64 t] 3)).trans (below_own (HO3.out.alloc _) hgrow (HB3.out.alloc HB3.out.size _).size))
          have HO4 := Lib.hid hown
          clear hown hgrow
          go_wp2_with fail
          go_roundg q
          case measure => omega
          case rel => exact ⟨t + 1, by omega, by go_num, (by rw [HY2.out]; have := HO4.out; rw [List.length_append, List.map_append]; exact this), HB4.out⟩
      · have HF2 := Lib.hid (HF.out hs)
        have hs2 : (ef == s) = false := by simpa using hs
        go_wp2_with fail
        go_roundg q
        case measure => omega
        case rel => exact ⟨t + 1, by omega, by go_num, (by rw [HF2.out]; exact HO.out.alloc _), HBx.out.alloc HBx.out.size _⟩

theorem step_any (P S K M s l : Int) (A E : Option Addr) (n c ne ce : Nat) (st : List Int) (es : List Ed) (w : World) (ha : Ints w A n st) (hn : n ≤ 17592186044416) (he : EdgesAt w E ne es) (hne : ne ≤ 17592186044416) :
    Calls Try.prog 16 #[.agg #[.int .i64 P, .int .i64 S, .slice A n c, .int .i64 K, .int .i64 M, .slice E ne ce], .int .i64 s, .int .i64 l] w fun e w' => ResS w w' P S K M st es s l e := by
  cases hv : autB P S K M st es
  · exact step_bad P S K M s l A E n c ne ce st es w ha hn he hne hv
  · obtain ⟨⟨h1, h2, _⟩, _, _, h4, _⟩ := autB_true hv
    obtain ⟨p, rfl⟩ := Int.eq_ofNat_of_zero_le h1
    have h3 := he.1
    by_cases hr : 0 ≤ s ∧ s < S ∧ 0 ≤ l ∧ l < 2 ^ p
    · exact step_good p S K M s l A E n c ne ce st es w ha hn he (by omega) (by omega) hv hr
    · exact step_range p S K M s l A E n c ne ce st es w ha hn he hne (by omega) hv hr

end Go.Proofs.Ytfblnadmbfhjiaa.Wd

namespace Go.Proofs.Ytfblnadmbfhjiaa.Wd
open Go.RowKit
set_option linter.unusedVariables false

/-- The edges of a valid automaton start at states. -/
theorem from_state {P M : Nat} {S : Nat} {es : List Ed} (h : edgesB P S M es = true) : ∀ j, j < es.length → ∃ f : Nat, (es.getD j ed0).f = (f : Int) ∧ f < S := by
  intro j hj
  have h1 := List.all_eq_true.1 h es[j] (List.getElem_mem hj)
  have h2 := (of_decide_eq_true h1).1
  rw [List.getD_eq_getElem?_getD, List.getElem?_eq_getElem hj]
  simp only [Option.getD_some]
  exact ⟨es[j].f.toNat, by omega, by omega⟩

/-- Have all of the first k states all letters? -/
def fullB (p : Nat) (es : List Ed) (S : Nat) : Bool := (List.range S).all fun s => decide (setsN p es es.length s = fitN p ed0)
/-- Of the first k states. -/
theorem fullB_bad {p : Nat} {es : List Ed} {S s : Nat} (hs : s < S) (h : ¬ setsN p es es.length s = fitN p ed0) : fullB p es S = false := by
  unfold fullB
  rw [Bool.eq_false_iff]
  intro ht
  exact h (of_decide_eq_true (List.all_eq_true.1 ht s (List.mem_range.2 hs)))
theorem fullB_step {p : Nat} {es : List Ed} {s : Nat} (hp : fullB p es s = true) (h : setsN p es es.length s = fitN p ed0) : fullB p es (s + 1) = true := by
  unfold fullB at *
  rw [List.range_succ, List.all_append, hp]
  simpa using h

theorem full_any (p : Nat) (w : World) (hp : p ≤ 6) : Calls Try.prog 60 #[.int .i64 p] w fun r w' => r = .returned (.int .u64 (fitN p ed0)) ∧ Below w.heap.size w w' := by
  have HF := Lib.hid (fun w => fitting_any p 0 0 0 0 0 w hp)
  go_enter Try.func60, Try.ntmps60
  go_wp2_with fail
  refine (HF.out _).mono ?_
  rintro r w1 ⟨rfl, hb1⟩
  go_wp2_with fail
  go_ret
  exact ⟨rfl, hb1⟩

set_option maxRecDepth 100000 in
set_option maxHeartbeats 4000000 in
theorem allFull_any (p S b : Nat) (es : List Ed) (w : World) (hp : p ≤ 6) (hS : S ≤ 3000) (hr : w.rowIs b 92 S (fun s => .int .u64 (setsN p es es.length s))) :
    Calls Try.prog 39 #[.slice (some ⟨b, 0, none⟩) S S, .int .i64 p] w fun r w' => r = .returned (.bool (fullB p es S)) ∧ Below w.heap.size w w' := by
  have HR := Lib.hid hr
  have HF := Lib.hid (fun w => full_any p w hp)
  obtain ⟨F, hF, HFF⟩ : ∃ F, fitN p ed0 = F ∧ Hid (fitN p ed0 = F) := ⟨_, rfl, rfl⟩
  rw [hF] at HF
  clear hF hr
  go_enter Try.func39, Try.ntmps39
  go_wp2_with fail
  go_loopg [9] S (fun g i wx => ∃ t : Nat, t + g = S ∧ i = .int .i64 t ∧ Hid (fullB p es t = true) ∧ Hid (Below w.heap.size w wx))
  case atStart => exact ⟨0, by omega, rfl, rfl, Below.refl _ _⟩
  case round =>
    obtain ⟨t, htg, rfl, HP, HBx⟩ := hrel
    have hti : (0 : Int) ≤ (t : Int) := by omega
    cases gk with
    | zero =>
      obtain rfl : S = t := by omega
      go_wp2_with fail
      go_ret
      exact ⟨ret_bool HP.out.symm, HBx.out⟩
    | succ q =>
      have ht1 : t < S := by omega
      have hti2 : (t : Int) < (S : Int) := by omega
      have hbl := HR.out.lt
      have hbr : b < wr.heap.size := Nat.lt_of_lt_of_le hbl HBx.out.size
      have hc : wr.cell? ⟨b, t, none⟩ = some (.int .u64 (setsN p es es.length t)) := (HBx.out.cell hbl).trans (HR.out.cell ht1)
      have HBD := Lib.hid (fun h => fullB_bad (p := p) (es := es) (S := S) ht1 h)
      have HST := Lib.hid (fun h => fullB_step HP.out h)
      rw [HFF.out] at HBD HST
      generalize setsN p es es.length t = x at *
      go_wp2_with fail
      refine (HF.out _).mono ?_
      rintro r w1 ⟨rfl, hb1⟩
      have HB1 := Lib.hid (HBx.out.trans (hb1.mono HBx.out.size))
      clear hb1
      by_cases hx : x = F
      · have HN := Lib.hid (HST.out hx)
        subst hx
        go_wp2_with fail
        go_roundg q
        case measure => omega
        case rel => exact ⟨t + 1, by omega, by go_num, HN, HB1⟩
      · have HN := Lib.hid (HBD.out hx)
        have hx4 : ¬ (x : Int) = (F : Int) := by omega
        have hx1 : ((x : Int) == (F : Int)) = false := by rw [beq_eq_false_iff_ne]; exact hx4
        have hx2 : ((x : Int) != (F : Int)) = true := by rw [bne_iff_ne]; exact hx4
        have hx3 : decide ((x : Int) = (F : Int)) = false := decide_eq_false hx4
        go_wp2_with fail
        go_ret
        exact ⟨ret_bool HN.out.symm, HB1.out⟩

/-- What Deterministic comes to. -/
def DetR (P S K M : Int) (st : List Int) (es : List Ed) (r : Bool) (code : Int) : Prop :=
  (autB P S K M st es = false ∧ r = false ∧ code = 1) ∨ (autB P S K M st es = true ∧ r = (decide (st.length = 1) && !clashB P.toNat es es.length) ∧ code = 0)
/-- What Complete comes to. -/
def ComR (P S K M : Int) (st : List Int) (es : List Ed) (r : Bool) (code : Int) : Prop :=
  (autB P S K M st es = false ∧ r = false ∧ code = 1) ∨ (autB P S K M st es = true ∧ r = fullB P.toNat es S.toNat ∧ code = 0)
theorem DetR.unique {P S K M : Int} {st : List Int} {es : List Ed} {r r' : Bool} {c c' : Int} (h : DetR P S K M st es r c) (h' : DetR P S K M st es r' c') : r = r' ∧ c = c' := by
  rcases h with ⟨a1, rfl, rfl⟩ | ⟨a1, rfl, rfl⟩ <;> rcases h' with ⟨b1, rfl, rfl⟩ | ⟨b1, rfl, rfl⟩
  all_goals first | exact ⟨rfl, rfl⟩ | (rw [a1] at b1; cases b1)
theorem ComR.unique {P S K M : Int} {st : List Int} {es : List Ed} {r r' : Bool} {c c' : Int} (h : ComR P S K M st es r c) (h' : ComR P S K M st es r' c') : r = r' ∧ c = c' := by
  rcases h with ⟨a1, rfl, rfl⟩ | ⟨a1, rfl, rfl⟩ <;> rcases h' with ⟨b1, rfl, rfl⟩ | ⟨b1, rfl, rfl⟩
  all_goals first | exact ⟨rfl, rfl⟩ | (rw [a1] at b1; cases b1)
def ResB (R : Bool → Int → Prop) (w w' : World) (e : Ending) : Prop := ∃ r code, e = .returned (.tuple #[.bool r, .int .i64 code]) ∧ Hid (R r code) ∧ Below w.heap.size w w'

set_option maxRecDepth 100000 in
set_option maxHeartbeats 2000000 in
theorem det_bad (P S K M : Int) (A E : Option Addr) (n c ne ce : Nat) (st : List Int) (es : List Ed) (w : World) (ha : Ints w A n st) (hn : n ≤ 17592186044416) (he : EdgesAt w E ne es) (hne : ne ≤ 17592186044416) (hv : autB P S K M st es = false) :
    Calls Try.prog 10 #[.agg #[.int .i64 P, .int .i64 S, .slice A n c, .int .i64 K, .int .i64 M, .slice E ne ce]] w fun e w' => ResB (DetR P S K M st es) w w' e := by
  have HV := Lib.hid (fun W (hW : Below w.heap.size w W) => autValid_any P S K M A E n c ne ce st es W (ha.below hW) hn (he.below hW) hne)
  have HF := Lib.hid hv
  rw [hv] at HV
  clear hv ha he
  go_enter Try.func10, Try.ntmps10
  go_wp2_with fail
  refine (HV.out _ ((Below.refl _ _).alloc (Nat.le_refl _) _)).mono ?_
  rintro r w1 ⟨rfl, hb1⟩
  have HB1 := Lib.hid (boxB hb1)
  clear hb1
  go_wp2_with fail
  go_ret2
  exact ⟨_, _, rfl, .inl ⟨HF.out, rfl, rfl⟩, HB1.out⟩

set_option maxRecDepth 100000 in
set_option maxHeartbeats 2000000 in
theorem com_bad (P S K M : Int) (A E : Option Addr) (n c ne ce : Nat) (st : List Int) (es : List Ed) (w : World) (ha : Ints w A n st) (hn : n ≤ 17592186044416) (he : EdgesAt w E ne es) (hne : ne ≤ 17592186044416) (hv : autB P S K M st es = false) :
    Calls Try.prog 12 #[.agg #[.int .i64 P, .int .i64 S, .slice A n c, .int .i64 K, .int .i64 M, .slice E ne ce]] w fun e w' => ResB (ComR P S K M st es) w w' e := by
  have HV := Lib.hid (fun W (hW : Below w.heap.size w W) => autValid_any P S K M A E n c ne ce st es W (ha.below hW) hn (he.below hW) hne)
  have HF := Lib.hid hv
  rw [hv] at HV
  clear hv ha he
  go_enter Try.func12, Try.ntmps12
  go_wp2_with fail
  refine (HV.out _ ((Below.refl _ _).alloc (Nat.le_refl _) _)).mono ?_
  rintro r w1 ⟨rfl, hb1⟩
  have HB1 := Lib.hid (boxB hb1)
  clear hb1
  go_wp2_with fail
  go_ret2
  exact ⟨_, _, rfl, .inl ⟨HF.out, rfl, rfl⟩, HB1.out⟩

set_option maxRecDepth 100000 in
set_option maxHeartbeats 4000000 in
theorem det_good (p S : Nat) (K M : Int) (A E : Option Addr) (n c ne ce : Nat) (st : List Int) (es : List Ed) (w : World) (ha : Ints w A n st) (hn : n ≤ 17592186044416) (hE : EdgesAt w E ne es) (hne : ne ≤ 40000) (hp : p ≤ 6) (hS : S ≤ 3000) (hv : autB p S K M st es = true) (hes : edgesB p S M.toNat es = true) :
    Calls Try.prog 10 #[.agg #[.int .i64 p, .int .i64 S, .slice A n c, .int .i64 K, .int .i64 M, .slice E ne ce]] w fun e w' => ResB (DetR p S K M st es) w w' e := by
  have HV := Lib.hid (fun W (hW : Below w.heap.size w W) => autValid_any p S K M A E n c ne ce st es W (ha.below hW) hn (hE.below hW) (by omega))
  have HV2 := Lib.hid hv
  have hfr : ∀ j, j < ne → ∃ f : Nat, (es.getD j ed0).f = (f : Int) ∧ f < S := fun j hj => from_state hes j (by rw [hE.1]; exact hj)
  have HLT := Lib.hid (fun W (hW : Below w.heap.size w W) => lettersOf_any p S K M A E n c ne ce es W (hE.below hW) hp hS hne hfr)
  have HX := Lib.hid (Box6.new w p S A n c K M E ne ce 25)
  have HL := Lib.hid hE.1
  have HN := Lib.hid ha.1
  rw [hv] at HV
  obtain ⟨cl, hcl, HCL⟩ : ∃ cl, clashB p es ne = cl ∧ Hid (clashB p es ne = cl) := ⟨_, rfl, rfl⟩
  rw [hcl] at HLT
  clear hv ha hE hes hfr hcl
  go_enter Try.func10, Try.ntmps10
  go_wp2_with fail
  refine (HV.out _ ((Below.refl _ _).alloc (Nat.le_refl _) _)).mono ?_
  rintro r w1 ⟨rfl, hb1⟩
  have HX1 := Lib.hid (HX.out.below hb1)
  obtain ⟨hz, p0, p1, p2, p3, p4, p5⟩ := HX1.out
  have HB1 := Lib.hid (boxB hb1)
  clear hb1
  go_wp2_with fail
  refine (HLT.out _ HB1.out).mono ?_
  rintro r w2 ⟨b, rfl, _, _, hb2⟩
  have HX2 := Lib.hid (HX1.out.below hb2)
  have HB2 := Lib.hid (HB1.out.trans (hb2.mono HB1.out.size))
  clear hz p0 p1 p2 p3 p4 p5 hb2
  obtain ⟨hz, p0, p1, p2, p3, p4, p5⟩ := HX2.out
  have HR := Lib.hid (fun r (h : r = (decide (n = 1) && !cl)) => show DetR p S K M st es r 0 from .inr ⟨HV2.out, by rw [h, HL.out, HN.out, Int.toNat_natCast, HCL.out], rfl⟩)
  by_cases h1 : n = 1
  · subst h1
    cases cl
    · have HQ := Lib.hid (HR.out true rfl)
      go_wp2_with fail
      go_ret2
      exact ⟨_, _, rfl, HQ, HB2.out⟩
    · have HQ := Lib.hid (HR.out false rfl)
      go_wp2_with fail
      go_ret2
      exact ⟨_, _, rfl, HQ, HB2.out⟩
  · have HQ := Lib.hid (HR.out false (by rw [decide_eq_false h1]; rfl))
    have h2 : ((n : Int) == 1) = false := by simp; omega
    have h3 : ¬ (n : Int) = 1 := by omega
    have h4 : decide ((n : Int) = 1) = false := decide_eq_false h3
    go_wp2_with fail
    go_ret2
    exact ⟨_, _, rfl, HQ, HB2.out⟩

set_option maxRecDepth 100000 in
set_option maxHeartbeats 4000000 in
theorem com_good (p S : Nat) (K M : Int) (A E : Option Addr) (n c ne ce : Nat) (st : List Int) (es : List Ed) (w : World) (ha : Ints w A n st) (hn : n ≤ 17592186044416) (hE : EdgesAt w E ne es) (hne : ne ≤ 40000) (hp : p ≤ 6) (hS : S ≤ 3000) (hv : autB p S K M st es = true) (hes : edgesB p S M.toNat es = true) :
    Calls Try.prog 12 #[.agg #[.int .i64 p, .int .i64 S, .slice A n c, .int .i64 K, .int .i64 M, .slice E ne ce]] w fun e w' => ResB (ComR p S K M st es) w w' e := by
  have HV := Lib.hid (fun W (hW : Below w.heap.size w W) => autValid_any p S K M A E n c ne ce st es W (ha.below hW) hn (hE.below hW) (by omega))
  have HV2 := Lib.hid hv
  have hfr : ∀ j, j < ne → ∃ f : Nat, (es.getD j ed0).f = (f : Int) ∧ f < S := fun j hj => from_state hes j (by rw [hE.1]; exact hj)
  have HLT := Lib.hid (fun W (hW : Below w.heap.size w W) => lettersOf_any p S K M A E n c ne ce es W (hE.below hW) hp hS hne hfr)
  have HAF := Lib.hid (fun b W (h : World.rowIs W b 92 S (fun s => .int .u64 (setsN p es ne s))) => allFull_any p S b es W hp hS (by rw [hE.1]; exact h))
  have HX := Lib.hid (Box6.new w p S A n c K M E ne ce 25)
  rw [hv] at HV
  obtain ⟨cl, hcl, HCL⟩ : ∃ cl, clashB p es ne = cl ∧ Hid (clashB p es ne = cl) := ⟨_, rfl, rfl⟩
  rw [hcl] at HLT
  clear hv ha hE hes hfr hcl
  go_enter Try.func12, Try.ntmps12
  go_wp2_with fail
  refine (HV.out _ ((Below.refl _ _).alloc (Nat.le_refl _) _)).mono ?_
  rintro r w1 ⟨rfl, hb1⟩
  have HX1 := Lib.hid (HX.out.below hb1)
  obtain ⟨hz, p0, p1, p2, p3, p4, p5⟩ := HX1.out
  have HB1 := Lib.hid (boxB hb1)
  clear hb1
  go_wp2_with fail
  refine (HLT.out _ HB1.out).mono ?_
  rintro r w2 ⟨b, rfl, hrow, _, hb2⟩
  have HROW := Lib.hid hrow
  have HX2 := Lib.hid (HX1.out.below hb2)
  have HB2 := Lib.hid (HB1.out.trans (hb2.mono HB1.out.size))
  clear hz p0 p1 p2 p3 p4 p5 hb2 hrow
  obtain ⟨hz, p0, p1, p2, p3, p4, p5⟩ := HX2.out
  go_wp2_with fail
  refine (HAF.out b _ HROW.out).mono ?_
  rintro r w3 ⟨rfl, hb3⟩
  have HB3 := Lib.hid (HB2.out.trans (hb3.mono HB2.out.size))
  have HR := Lib.hid (show ComR p S K M st es (fullB p es S) 0 from .inr ⟨HV2.out, by rw [Int.toNat_natCast, Int.toNat_natCast], rfl⟩)
  generalize fullB p es S = fb at *
  clear hb3
  go_wp2_with fail
  go_ret2
  exact ⟨_, _, rfl, HR, HB3.out⟩

theorem det_any (P S K M : Int) (A E : Option Addr) (n c ne ce : Nat) (st : List Int) (es : List Ed) (w : World) (ha : Ints w A n st) (hn : n ≤ 17592186044416) (he : EdgesAt w E ne es) (hne : ne ≤ 17592186044416) :
    Calls Try.prog 10 #[.agg #[.int .i64 P, .int .i64 S, .slice A n c, .int .i64 K, .int .i64 M, .slice E ne ce]] w fun e w' => ResB (DetR P S K M st es) w w' e := by
  cases hv : autB P S K M st es
  · exact det_bad P S K M A E n c ne ce st es w ha hn he hne hv
  · obtain ⟨⟨h1, h2, h5, h6, _⟩, _, _, h4, h7⟩ := autB_true hv
    obtain ⟨p, rfl⟩ := Int.eq_ofNat_of_zero_le h1
    obtain ⟨s, rfl⟩ := Int.eq_ofNat_of_zero_le h5
    have h3 := he.1
    exact det_good p s K M A E n c ne ce st es w ha hn he (by omega) (by omega) (by omega) hv h7
theorem com_any (P S K M : Int) (A E : Option Addr) (n c ne ce : Nat) (st : List Int) (es : List Ed) (w : World) (ha : Ints w A n st) (hn : n ≤ 17592186044416) (he : EdgesAt w E ne es) (hne : ne ≤ 17592186044416) :
    Calls Try.prog 12 #[.agg #[.int .i64 P, .int .i64 S, .slice A n c, .int .i64 K, .int .i64 M, .slice E ne ce]] w fun e w' => ResB (ComR P S K M st es) w w' e := by
  cases hv : autB P S K M st es
  · exact com_bad P S K M A E n c ne ce st es w ha hn he hne hv
  · obtain ⟨⟨h1, h2, h5, h6, _⟩, _, _, h4, h7⟩ := autB_true hv
    obtain ⟨p, rfl⟩ := Int.eq_ofNat_of_zero_le h1
    obtain ⟨s, rfl⟩ := Int.eq_ofNat_of_zero_le h5
    have h3 := he.1
    exact com_good p s K M A E n c ne ce st es w ha hn he (by omega) (by omega) (by omega) hv h7

end Go.Proofs.Ytfblnadmbfhjiaa.Wd

namespace Go.Proofs.Ytfblnadmbfhjiaa.Wd
open Go.RowKit Go.Shelf
set_option linter.unusedVariables false

attribute [local go_sem] Oper.semAt_some

/-- The rows of outgoing, in blocks from lo to hi. -/
def OutAt (w : World) (lo hi ob S : Nat) (es : List Ed) (V : Nat → Value) : Prop :=
  lo ≤ ob ∧ ob < hi ∧ ∀ s, s < S → ∃ A c, V s = .slice A (fromL es s es.length).length c ∧ w.cell? ⟨ob, s, none⟩ = some (.slice A (fromL es s es.length).length c) ∧
    (0 < (fromL es s es.length).length → ∃ b off, A = some ⟨b, off, none⟩ ∧ lo ≤ b ∧ b < hi ∧ ∀ u, u < (fromL es s es.length).length → w.cell? ⟨b, off + u, none⟩ = some (.int .i64 ((fromL es s es.length).getD u 0)))
theorem OutAt.kept {w w' : World} {lo hi ob S : Nat} {es : List Ed} {V : Nat → Value} (h : OutAt w lo hi ob S es V) (hk : ∀ j, lo ≤ j → j < hi → w'.heap[j]? = w.heap[j]?) : OutAt w' lo hi ob S es V := by
  obtain ⟨h1, h2, h3⟩ := h
  refine ⟨h1, h2, fun s hs => ?_⟩
  obtain ⟨A, c, hv, hc, hx⟩ := h3 s hs
  refine ⟨A, c, hv, (World.cell?_of_block (a := ⟨ob, s, none⟩) (hk ob h1 h2)).trans hc, fun hp => ?_⟩
  obtain ⟨b, off, e, l1, l2, hu⟩ := hx hp
  exact ⟨b, off, e, l1, l2, fun u hlt => (World.cell?_of_block (a := ⟨b, off + u, none⟩) (hk b l1 l2)).trans (hu u hlt)⟩
theorem OutAt.of_rows {w : World} {lo S ne : Nat} {es : List Ed} {V : Nat → Value} (hl : es.length = ne) (hr : w.rowIs (lo + 1) 22 S V) (ho : Rows (lo + 2) S w V (fun s => fromL es s ne)) : OutAt w lo w.heap.size (lo + 1) S es V := by
  subst hl
  refine ⟨by omega, hr.lt, fun s hs => ?_⟩
  have hown := ho.own s hs
  obtain ⟨A, c, hv, _⟩ := own_slice hown
  refine ⟨A, c, hv, by rw [hr.cell hs, hv], fun hp => ?_⟩
  rw [hv] at hown
  obtain ⟨g, cap, hg, h1, h2⟩ := hown.form hp
  obtain ⟨b, off, e, _, hc⟩ := (Ints.of_own hown).2 hp
  have hb : b = g := by injection hg with hg; rw [e] at hg; injection hg with hg; injection hg
  exact ⟨b, off, e, by omega, by omega, hc⟩

theorem ownsRow_over {w w' : World} {B base e size n : Nat} {v : Value} {xs : List Value} (h : w.ownsRow base e size v n xs) (hb : Over B w w') (hB : B ≤ base) : w'.ownsRow base e size v n xs := by
  refine ⟨h.1, h.2.imp id fun ⟨g, cap, cur, hv, h1, h2, r⟩ => ⟨g, cap, cur, hv, h1, ?_, r⟩⟩
  rw [hb.block g (by omega) (Array.getElem?_eq_some_iff.1 h2).1]; exact h2
theorem Seen.over {B' B bs bw br S : Nat} {w w' : World} {F : Nat → Bool} {v : Value} {L : List Int} (h : Seen B bs bw br S w F v L) (ho : Over B' w w') (h1 : B' ≤ bs) (h2 : B' ≤ bw) (h3 : B' ≤ br) (h4 : B' ≤ B) : Seen B bs bw br S w' F v L := by
  obtain ⟨l1, l2, l3, _⟩ := h.lt
  have hz := h.size
  exact ⟨(World.cell?_of_block (a := ⟨bs, 0, none⟩) (ho.block bs h1 (by omega))).trans h.seen, World.rowIs.of_block h.row (ho.block br h3 (by omega)), (World.cell?_of_block (a := ⟨bw, 0, none⟩) (ho.block bw h2 (by omega))).trans h.wait,
    (World.frozen?_of_block (a := ⟨bw, 0, none⟩) (ho.block bw h2 (by omega))).trans h.free, ownsRow_over h.own ho h4, h.lt, Nat.le_trans hz ho.size⟩

def RI (st : List Int) (es : List Ed) (lo br S : Nat) (V : Nat → Value) (J : (Nat → Bool) → World → Prop) (F : Nat → Bool) (v : Value) (L : List Int) (G : Nat → Bool) (w : World) : Prop :=
  J G w ∧ Seen (br + 1 + 1 + 1) (br + 1) (br + 1 + 1) br S w F v L ∧ Mets st es S F L ∧ OutAt w lo br (lo + 1) S es V
def Loop1 (st : List Int) (es : List Ed) (lo br S : Nat) (V : Nat → Value) (J : (Nat → Bool) → World → Prop) (t : Nat) (w : World) : Prop :=
  ∃ F v L, RI st es lo br S V J F v L (fun _ => false) w ∧ StartF st F t
def Loop2 (st : List Int) (es : List Ed) (lo br S : Nat) (V : Nat → Value) (J : (Nat → Bool) → World → Prop) (k : Nat) (w : World) : Prop :=
  ∃ F v L G, RI st es lo br S V J F v L G w ∧ StartF st F st.length ∧ DoneF es F L k ∧ k ≤ L.length ∧ GaveF G L k
def Loop3 (st : List Int) (es : List Ed) (lo br S : Nat) (V : Nat → Value) (J : (Nat → Bool) → World → Prop) (k s u : Nat) (w : World) : Prop :=
  ∃ F v L G, RI st es lo br S V J F v L G w ∧ StartF st F st.length ∧ DoneF es F L k ∧ k < L.length ∧ L.getD k 0 = (s : Int) ∧ GaveF G L (k + 1) ∧ PartF es F s u

section
variable {st : List Int} {es : List Ed} {lo br S : Nat} {V : Nat → Value} {J : (Nat → Bool) → World → Prop} {F : Nat → Bool} {v : Value} {L : List Int} {G : Nat → Bool} {w w' : World} {B : Nat}
theorem RI.met (h : RI st es lo br S V J F v L G w) (hJB : ∀ G W1 W2, J G W1 → Below B W1 W2 → J G W2) (hB : B ≤ lo) (hlb : lo ≤ br) {s : Nat} (hm : MetR st es (br + 1 + 1 + 1) (br + 1) (br + 1 + 1) br S s F L w w') :
    ∃ F' v' L', RI st es lo br S V J F' v' L' G w' ∧ F' s = true ∧ MoreF F F' L L' := by
  obtain ⟨hJ, hS, hM, hO⟩ := h
  obtain ⟨F', v', L', hS', hM', hf, hmo, hk⟩ := hm
  exact ⟨F', v', L', ⟨hJB _ _ _ hJ ⟨hk.os, hk.tape, hk.output, hk.size, fun j hj => hk.block j (by omega) (by omega) (by omega)⟩, hS', hM', hO.kept (fun j h1 h2 => hk.block j (by omega) (by omega) (by omega))⟩, hf, hmo⟩
theorem RI.gave (h : RI st es lo br S V J F v L G w) (ho : Over B w w') {G' : Nat → Bool} (hJ : J G' w') (hB : B ≤ lo) (hlb : lo ≤ br) : RI st es lo br S V J F v L G' w' := by
  obtain ⟨_, hS, hM, hO⟩ := h
  have hz := hS.size
  exact ⟨hJ, hS.over ho (by omega) (by omega) (by omega) (by omega), hM, hO.kept (fun j h1 h2 => ho.block j (by omega) (by omega))⟩
theorem Loop1.step {t s : Nat} (h : RI st es lo br S V J F v L (fun _ => false) w) (ht : StartF st F t) (hJB : ∀ G W1 W2, J G W1 → Below B W1 W2 → J G W2) (hB : B ≤ lo) (hlb : lo ≤ br) (hs : st.getD t 0 = (s : Int))
    (hm : MetR st es (br + 1 + 1 + 1) (br + 1) (br + 1 + 1) br S s F L w w') : Loop1 st es lo br S V J (t + 1) w' := by
  obtain ⟨F', v', L', h', hf, hmo⟩ := h.met hJB hB hlb hm
  refine ⟨F', v', L', h', fun k s' hk hs' => ?_⟩
  by_cases e : k = t
  · subst e
    obtain rfl : s = s' := by omega
    exact hf
  · exact hmo.1 s' (ht k s' (by omega) hs')
theorem Loop3.step {k s u i b : Nat} (h : RI st es lo br S V J F v L G w) (h1 : StartF st F st.length) (h2 : DoneF es F L k) (h3 : k < L.length) (h4 : L.getD k 0 = (s : Int)) (h5 : GaveF G L (k + 1)) (h6 : PartF es F s u)
    (hJB : ∀ G W1 W2, J G W1 → Below B W1 W2 → J G W2) (hB : B ≤ lo) (hlb : lo ≤ br) (hi : (fromL es s es.length).getD u 0 = (i : Int)) (hb : (es.getD i ed0).t = (b : Int))
    (hm : MetR st es (br + 1 + 1 + 1) (br + 1) (br + 1 + 1) br S b F L w w') : Loop3 st es lo br S V J k s (u + 1) w' := by
  obtain ⟨F', v', L', h', hf, hmo⟩ := h.met hJB hB hlb hm
  exact ⟨F', v', L', G, h', h1.more hmo, h2.more hmo (by omega), Nat.lt_of_lt_of_le h3 hmo.len, (hmo.at_ h3).trans h4, fun j => by rw [hmo.take (by omega)]; exact h5 j, (h6.more hmo).step hi hb hf⟩
theorem Loop2.step {k s : Nat} (h : Loop3 st es lo br S V J k s (fromL es s es.length).length w) : Loop2 st es lo br S V J (k + 1) w := by
  obtain ⟨F, v, L, G, h, h1, h2, h3, h4, h5, h6⟩ := h
  exact ⟨F, v, L, G, h, h1, h2.step h4 h6, h3, h5⟩
theorem Loop2.gives {k : Nat} (h : RI st es lo br S V J F v L G w) (h1 : StartF st F st.length) (h2 : DoneF es F L k) (h5 : GaveF G L k) (hk : k = L.length) : (∀ i, G i = true ↔ Rch st es i) ∧ J G w := by
  subst hk
  refine ⟨fun i => ?_, h.1⟩
  rw [h5 i, List.take_length, ← h.2.2.1.mem i]
  exact all_done h.2.2.1 h1 h2 i
end

/-- What the iterator reads of the automaton. -/
def ReSt (bw : Nat) (P : Int) (S : Nat) (A : Option Addr) (n c : Nat) (K M : Int) (E : Option Addr) (ne ce : Nat) (st : List Int) (es : List Ed) (w : World) : Prop :=
  Box6 w bw P S A n c K M E ne ce ∧ Ints w A n st ∧ EdgesAt w E ne es

set_option maxRecDepth 100000 in
set_option maxHeartbeats 4000000 in
theorem reach1_in (q : Nat) (hq : 1 ≤ q) (l bw : Nat) (P : Int) (S : Nat) (K M : Int) (A E : Option Addr) (n c ne ce : Nat) (st : List Int) (es : List Ed) (hn : n ≤ 17592186044416) (hS : S ≤ 3000) (hne : ne ≤ 40000)
    (hst : ∀ j, j < n → ∃ s : Nat, st.getD j 0 = (s : Int) ∧ s < S)
    (hes : ∀ j, j < ne → ∃ a b : Nat, (es.getD j ed0).f = (a : Int) ∧ (es.getD j ed0).t = (b : Int) ∧ a < S ∧ b < S)
    (J : (Nat → Bool) → World → Prop) (B : Nat)
    (hJB : ∀ G W1 W2, J G W1 → Below B W1 W2 → J G W2) (hJS : ∀ G W1, J G W1 → ReSt bw P S A n c K M E ne ce st es W1)
    (hY : ∀ G (x : Nat) W1, J G W1 → x < S → YieldAt Fence.wide (q - 1) Try.prog l #[.int .i64 x] W1 fun e W' => e = .returned (.bool true) ∧ J (updB G x) W' ∧ Over B W1 W')
    (W : World) (hB : B ≤ W.heap.size) (h0 : J (fun _ => false) W) :
    CallsIn Fence.wide q Try.prog 61 #[.func (.yield l) #[] #[], .pointer (some ⟨bw, 0, none⟩)] W fun e W' => (∃ v, e = .returned v) ∧ ∃ G, (∀ i, G i = true ↔ Rch st es i) ∧ J G W' := by
  have hmk := run_make_row' (P := Try.prog) 31 4 (.bool false) 1 Try.underlying31 bool_info rfl .i64 .i64 S (by omega) (by omega)
  obtain ⟨⟨z0, p0, p1, p2, p3, p4, p5⟩, hI, hE⟩ := hJS _ W h0
  have hl := hE.1
  have HO := Lib.hid (outgoing_any P S K M A E n c ne ce es W hE hS hne (fun j hj => (hes j hj).imp fun a ha => ⟨ha.choose_spec.1, ha.choose_spec.2.2.1⟩))
  have HJB := Lib.hid hJB
  have HJS := Lib.hid hJS
  have HY := Lib.hid hY
  have HST := Lib.hid hst
  have HES := Lib.hid hes
  have H0 := Lib.hid h0
  have HLE := Lib.hid hl
  have HLS := Lib.hid hI.1
  clear hJB hJS hY hst hes h0 hl hI hE
  refine callsIn_of_wp Try.func61 rfl trivial ?_ rfl
  simp only [Try.ntmps61, List.size_toArray, List.length_cons, List.length_nil, Nat.reduceAdd, Nat.reduceSub, Array.replicate_succ, Array.replicate_zero, List.push_toArray, List.append_toArray, List.nil_append, List.cons_append]
  gi_wp2_with fail
  refine ⟨trivial, (callsIn_wide.2 HO.out).mono ?_⟩
  rintro r W1 ⟨V, rfl, hrow, hrows, hb1⟩
  have HOUT := Lib.hid (OutAt.of_rows HLE.out hrow hrows)
  have HB1 := Lib.hid hb1
  have r1 := (hb1.cell (p := ⟨bw, 1, none⟩) z0).trans p1
  have r2 := (hb1.cell (p := ⟨bw, 2, none⟩) z0).trans p2
  have hz1 := Nat.lt_of_lt_of_le z0 hb1.size
  clear hrow hrows hb1 p0 p1 p2 p3 p4 p5
  have HB4 := Lib.hid (show Below W1.heap.size W1 (((W1.alloc (.cells (madeCells #[.bool false] S) 4)).alloc (.cells #[.slice (some ⟨W1.heap.size, 0, none⟩) S S] 31)).alloc (.cells #[.slice none 0 0] 22)) from (((Below.refl _ _).alloc (Nat.le_refl _) _).alloc (by simp) _).alloc (by simp; omega) _)
  have k2 := (HB4.out.cell (p := ⟨bw, 2, none⟩) hz1).trans r2
  gi_wp2_with fail
  have hb1s := HB1.out.size
  obtain ⟨W4, hW4⟩ : ∃ W4, (((W1.alloc (.cells (madeCells #[.bool false] S) 4)).alloc (.cells #[.slice (some ⟨W1.heap.size, 0, none⟩) S S] 31)).alloc (.cells #[.slice none 0 0] 22)) = W4 := ⟨_, rfl⟩
  have HI0 := Lib.hid (show Loop1 st es W.heap.size W1.heap.size S V J 0 W4 by
    have hrw : RowF W4 W1.heap.size S (fun _ => false) := by
      rw [← hW4]
      exact RowF.alloc (RowF.alloc (World.rowIs_made W1 _ S _) _) _
    have b1 := Boxed.new (W1.alloc (.cells (madeCells #[.bool false] S) 4)) 31 (.slice (some ⟨W1.heap.size, 0, none⟩) S S)
    have b2 := Boxed.new ((W1.alloc (.cells (madeCells #[.bool false] S) 4)).alloc (.cells #[.slice (some ⟨W1.heap.size, 0, none⟩) S S] 31)) 22 (.slice none 0 0)
    have b1' := b1.alloc (.cells #[.slice none 0 0] 22)
    simp only [World.size_alloc] at b1' b2
    have hz4 : W4.heap.size = W1.heap.size + 1 + 1 + 1 := by rw [← hW4]; simp
    rw [hW4] at b1' b2
    have hb14 : Below W1.heap.size W1 W4 := by rw [← hW4]; exact HB4.out
    exact ⟨fun _ => false, .slice none 0 0, [], ⟨HJB.out _ _ _ (HJB.out _ _ _ H0.out (HB1.out.mono hB)) (hb14.mono (by omega)), ⟨b1'.cell, hrw, b2.cell, b2.frozen, World.ownsRow_nil _ _ _ _, ⟨by omega, by omega, by omega, by omega, by omega, by omega⟩, by omega⟩, Mets.start st es S, HOUT.out.kept (fun j _ h2 => hb14.block j h2)⟩, fun k s hk => by omega⟩)
  rw [hW4]
  clear hW4 k2 HB4 r1 r2 hmk
  gi_loopw [21] (fun i wr => ∃ t : Nat, t ≤ n ∧ i = .int .i64 t ∧ Hid (Loop1 st es W.heap.size W1.heap.size S V J t wr)) (fun i wr => n - (intOf i).toNat)
  case atStart => exact ⟨0, by omega, rfl, HI0.out⟩
  case round =>
    clear HI0
    obtain ⟨t, ht, rfl, HL⟩ := hrel
    have hti : (0 : Int) ≤ (t : Int) := by omega
    by_cases hlt : t < n
    · have hti2 : (t : Int) < (n : Int) := by omega
      obtain ⟨F, v, L, hRI, hSt⟩ := HL.out
      obtain ⟨b, off, rfl, hbl, hcell⟩ := (HJS.out _ _ hRI.1).2.1.at_ hlt
      obtain ⟨s, hs, hsS⟩ := HST.out t hlt
      have hct := hcell t hlt
      rw [hs] at hct
      have HC := Lib.hid (meet_any st es _ _ _ _ S s F v L wr hRI.2.1 hRI.2.2.1 hsS hS (.start t s (by rw [HLS.out]; exact hlt) hs))
      have HN := Lib.hid (fun w' => Loop1.step (w' := w') hRI hSt HJB.out hB hb1s hs)
      clear hcell hRI hSt HL hs
      gi_wp2_with fail
      refine ⟨trivial, (callsIn_wide.2 HC.out).mono ?_⟩
      rintro r w3 ⟨⟨rv, rfl⟩, hmet⟩
      have HN2 := Lib.hid (HN.out w3 hmet)
      clear hmet HN HC hct
      gi_wp2_with fail
      go_roundw
      case rel => exact ⟨t + 1, by omega, by go_num, HN2⟩
      case measure => simp [intOf]; omega
    · obtain rfl : t = n := by omega
      have HL2 := Lib.hid (show Loop2 st es W.heap.size W1.heap.size S V J 0 wr by
        obtain ⟨F, v, L, hRI, hSt⟩ := HL.out
        exact ⟨F, v, L, _, hRI, by rw [HLS.out]; exact hSt, fun j k' a b hj => by omega, Nat.zero_le _, GaveF.zero L⟩)
      clear HL
      gi_wp2_with fail
      gi_loopw [9] (fun i wr => ∃ k : Nat, k ≤ S ∧ i = .int .i64 k ∧ Hid (Loop2 st es W.heap.size W1.heap.size S V J k wr)) (fun i wr => S - (intOf i).toNat)
      case atStart => exact ⟨0, by omega, rfl, HL2.out⟩
      case round =>
        clear HL2 hti ht hlt
        obtain ⟨k, hkS, rfl, HL⟩ := hrel
        have hti : (0 : Int) ≤ (k : Int) := by omega
        obtain ⟨F, v, L, G, hRI, h1, h2, h3, h5⟩ := HL.out
        have hw := hRI.2.1.wait
        have hsh := hRI.2.2.1.short
        obtain ⟨Av, cv, hve, hcv⟩ := own_slice hRI.2.1.own
        have hints := hRI.2.1.own
        rw [hve] at hw hints
        by_cases hlt : k < L.length
        · have hti2 : (k : Int) < (L.length : Int) := by omega
          obtain ⟨s, hs, hsS⟩ := hRI.2.2.1.lt (L.getD k 0) (by rw [List.getD_eq_getElem?_getD, List.getElem?_eq_getElem hlt]; exact List.getElem_mem hlt)
          obtain ⟨b, off, rfl, hbl, hcell⟩ := (Ints.of_own hints).2 (by omega)
          have hct := hcell k hlt
          rw [hs] at hct
          obtain ⟨fn, tmps, assign, body, hy, hR⟩ := HY.out G s wr hRI.1 hsS
          have HRI := Lib.hid hRI
          have HX := Lib.hid (show StartF st F st.length ∧ DoneF es F L k ∧ L.getD k 0 = (s : Int) ∧ GaveF G L k from ⟨h1, h2, hs, h5⟩)
          have HVE := Lib.hid hve
          generalize hLl : L.length = m at *
          have HLL := Lib.hid hLl
          clear hLl hcell hRI hs h1 h2 h5 hints HL hve
          gi_wp2_with fail
          refine hR.mono ?_
          rintro e w3 ⟨rfl, hJ3, hO3⟩
          have hR3 := HRI.out.gave hO3 hJ3 hB hb1s
          have k1 := hR3.2.1.wait
          have hints := hR3.2.1.own
          rw [HVE.out] at k1 hints
          rw [HLL.out] at hints
          have HRS := Lib.hid (HRI.out.2.2.1.sound s ((HRI.out.2.2.1.mem s).2 (by rw [← HX.out.2.2.1, List.getD_eq_getElem?_getD, List.getElem?_eq_getElem (by rw [HLL.out]; exact hlt)]; exact List.getElem_mem _)))
          obtain ⟨b', off', he', _, hc'⟩ := (Ints.of_own hints).2 (by omega)
          have k2 := hc' k hlt
          obtain ⟨rfl, rfl⟩ : b = b' ∧ off = off' := by injection he' with he'; injection he' with e1 e2; exact ⟨e1, e2⟩
          rw [HX.out.2.2.1] at k2
          obtain ⟨A4, c4, hV, k4, _⟩ := hR3.2.2.2.2.2 s hsS
          have HV := Lib.hid hV
          have HL3 := Lib.hid (show Loop3 st es W.heap.size W1.heap.size S V J k s 0 w3 from ⟨F, v, L, updB G s, hR3, HX.out.1, HX.out.2.1, by rw [HLL.out]; exact hlt, HX.out.2.2.1, HX.out.2.2.2.step (by rw [HLL.out]; exact hlt) HX.out.2.2.1, PartF.zero es F s⟩)
          have hs0 : (0 : Int) ≤ (s : Int) := by omega
          have hs1 : (s : Int) < (S : Int) := by omega
          obtain ⟨m4, hm4, HM4⟩ : ∃ m4, (fromL es s es.length).length = m4 ∧ Hid ((fromL es s es.length).length = m4) := ⟨_, rfl, rfl⟩
          have hm4b : m4 ≤ 40000 := by rw [← hm4]; have := fromL_len es s es.length; have := HLE.out; omega
          rw [hm4] at k4
          rw [hm4] at hV
          have HV4 := Lib.hid hV
          clear hR3 hints hc' he' hV HV hm4 HRI HX HVE hw hct hJ3 hO3
          gi_wp2_with fail
          gi_loopw [50] (fun i wr => ∃ u : Nat, u ≤ m4 ∧ i = .int .i64 u ∧ Hid (Loop3 st es W.heap.size W1.heap.size S V J k s u wr)) (fun i wr => m4 - (intOf i).toNat)
          case atStart => exact ⟨0, by omega, rfl, HL3.out⟩
          case round =>
            clear HL3 k1 k2 k4
            obtain ⟨u, hu, rfl, HL⟩ := hrel
            have hui : (0 : Int) ≤ (u : Int) := by omega
            by_cases hul : u < m4
            · have hui2 : (u : Int) < (m4 : Int) := by omega
              obtain ⟨F3, v3, L3, G3, hRI, h1, h2, h3, h4, h5, h6⟩ := HL.out
              obtain ⟨A5, c5, hV5, _, hx5⟩ := hRI.2.2.2.2.2 s hsS
              have hV6 := HV4.out.symm.trans hV5
              injection hV6 with e1 e2 e3
              subst e1
              obtain ⟨b5, off5, rfl, _, _, hc5⟩ := hx5 (by rw [HM4.out]; omega)
              have k5 := hc5 u (by rw [HM4.out]; exact hul)
              obtain ⟨i, hi, hine, hif⟩ := fromL_at (es := es) (s := s) (n := es.length) (u := u) (by rw [HM4.out]; exact hul)
              rw [hi] at k5
              have hine2 : i < ne := by have := HLE.out; omega
              obtain ⟨⟨_, _, _, _, _, _, k6⟩, _, hE⟩ := HJS.out _ _ hRI.1
              obtain ⟨b7, off7, rfl, hb7, hc7⟩ := hE.2 (by omega)
              obtain ⟨_, k7, _⟩ := hc7 i hine2
              obtain ⟨x, y, hx, hy, _, hyS⟩ := HES.out i hine2
              rw [hy] at k7
              have hi0 : (0 : Int) ≤ (i : Int) := by omega
              have hi1 : (i : Int) < (ne : Int) := by omega
              have HC := Lib.hid (meet_any st es _ _ _ _ S y F3 v3 L3 wr hRI.2.1 hRI.2.2.1 hyS hS (.edge i s y (by rw [HLE.out]; exact hine2) hif hy HRS.out))
              have HN := Lib.hid (fun w' => Loop3.step (w' := w') hRI h1 h2 h3 h4 h5 h6 HJB.out hB hb1s hi hy)
              clear hRI h1 h2 h3 h4 h5 h6 hV5 hx5 e2 e3 hc5 hi hif hE hc7 hx hy HL hine
              gi_wp2_with fail
              refine ⟨trivial, (callsIn_wide.2 HC.out).mono ?_⟩
              rintro r w8 ⟨⟨rv, rfl⟩, hmet⟩
              have HN2 := Lib.hid (HN.out w8 hmet)
              clear hmet HN HC k5 k6 k7
              gi_wp2_with fail
              go_roundw
              case rel => exact ⟨u + 1, by omega, by go_num, HN2⟩
              case measure => simp [intOf]; omega
            · obtain rfl : u = m4 := by omega
              have HN2 := Lib.hid (Loop2.step (by rw [HM4.out]; exact HL.out))
              clear HL
              gi_wp2_with fail
              go_roundw
              case rel => exact ⟨k + 1, by omega, by go_num, HN2⟩
              case measure => simp [intOf]; omega
        · have HF := Lib.hid (Loop2.gives hRI h1 h2 h5 (by omega))
          obtain rfl : L.length = k := by omega
          clear hRI h1 h2 h5 hints HL hve
          gi_wp2_with fail
          exact bodyPost_end (results_none rfl _ _ _) rfl ⟨⟨_, rfl⟩, G, HF.out⟩

end Go.Proofs.Ytfblnadmbfhjiaa.Wd

namespace Go.Proofs.Ytfblnadmbfhjiaa.Wd
open Go.RowKit
set_option linter.unusedVariables false

theorem or_i64 (a b : Nat) (ha : a < 2 ^ 62) (hb : b < 2 ^ 62) : bits .or .i64 (a : Int) (b : Int) = ((a ||| b : Nat) : Int) :=
  (bits_nat .i64 62 (by decide) (fun n h0 h1 => by rw [IntKind.wrap_i64]; omega) a b ha hb).2

/-- The walker at block r: its fields, and the rows of outgoing in blocks from lo to hi. -/
structure WkS (w : World) (r lo hi S : Nat) (V : Nat → Value) (E : Option Addr) (ne ce : Nat) (es : List Ed) (q : Option Nat) : Prop where
  lt : r < w.heap.size
  far : hi ≤ r
  c0 : w.cell? ⟨r, 0, none⟩ = some (.slice E ne ce)
  c1 : w.cell? ⟨r, 1, none⟩ = some (.slice (some ⟨lo + 1, 0, none⟩) S S)
  f2 : w.frozen? ⟨r, 2, none⟩ = false
  f3 : w.frozen? ⟨r, 3, none⟩ = false
  st : ∃ x : Int, ∃ d : Bool, w.cell? ⟨r, 2, none⟩ = some (.int .i64 x) ∧ w.cell? ⟨r, 3, none⟩ = some (.bool d) ∧ (match q with | some s => x = (s : Int) ∧ d = false ∧ s < S | none => d = true)
  out : OutAt w lo hi (lo + 1) S es V
section
variable {w w' : World} {r lo hi S : Nat} {V : Nat → Value} {E : Option Addr} {ne ce : Nat} {es : List Ed} {q : Option Nat}
theorem WkS.below (h : WkS w r lo hi S V E ne ce es q) (hb : Below w.heap.size w w') : WkS w' r lo hi S V E ne ce es q := by
  obtain ⟨x, d, s1, s2, s3⟩ := h.st
  have hr := h.lt
  exact ⟨Nat.lt_of_lt_of_le hr hb.size, h.far, (hb.cell (p := ⟨r, 0, none⟩) hr).trans h.c0, (hb.cell (p := ⟨r, 1, none⟩) hr).trans h.c1, (hb.frozen (p := ⟨r, 2, none⟩) hr).trans h.f2, (hb.frozen (p := ⟨r, 3, none⟩) hr).trans h.f3,
    ⟨x, d, (hb.cell (p := ⟨r, 2, none⟩) hr).trans s1, (hb.cell (p := ⟨r, 3, none⟩) hr).trans s2, s3⟩, h.out.kept (fun j _ h2 => hb.block j (by have := h.far; omega))⟩
theorem WkS.move (h : WkS w r lo hi S V E ne ce es q) {s : Nat} (hq : ∃ s0, q = some s0) (hs : s < S) : WkS (w.setCell ⟨r, 2, none⟩ (.int .i64 s)) r lo hi S V E ne ce es (some s) := by
  obtain ⟨s0, rfl⟩ := hq
  obtain ⟨x, d, s1, s2, s3⟩ := h.st
  have ho : ∀ i, i ≠ 2 → (w.setCell ⟨r, 2, none⟩ (.int .i64 s)).cell? ⟨r, i, none⟩ = w.cell? ⟨r, i, none⟩ := fun i hi => World.cell?_setCell_other _ _ _ _ (fun e => hi (by cases e; rfl))
  exact ⟨by simpa using h.lt, h.far, (ho 0 (by decide)).trans h.c0, (ho 1 (by decide)).trans h.c1, by rw [World.frozen?_setCell]; exact h.f2, by rw [World.frozen?_setCell]; exact h.f3,
    ⟨s, d, World.cell?_setCell_same w _ _ s1, (ho 3 (by decide)).trans s2, rfl, s3.2.1, hs⟩, h.out.kept (fun j _ h2 => Below.heap_setCell w ⟨r, 2, none⟩ _ j (by have := h.far; show j ≠ r; omega))⟩
theorem WkS.die (h : WkS w r lo hi S V E ne ce es q) : WkS (w.setCell ⟨r, 3, none⟩ (.bool true)) r lo hi S V E ne ce es none := by
  obtain ⟨x, d, s1, s2, s3⟩ := h.st
  have ho : ∀ i, i ≠ 3 → (w.setCell ⟨r, 3, none⟩ (.bool true)).cell? ⟨r, i, none⟩ = w.cell? ⟨r, i, none⟩ := fun i hi => World.cell?_setCell_other _ _ _ _ (fun e => hi (by cases e; rfl))
  exact ⟨by simpa using h.lt, h.far, (ho 0 (by decide)).trans h.c0, (ho 1 (by decide)).trans h.c1, by rw [World.frozen?_setCell]; exact h.f2, by rw [World.frozen?_setCell]; exact h.f3,
    ⟨x, true, (ho 2 (by decide)).trans s1, World.cell?_setCell_same w _ _ s2, rfl⟩, h.out.kept (fun j _ h2 => Below.heap_setCell w ⟨r, 3, none⟩ _ j (by have := h.far; show j ≠ r; omega))⟩
end

/-- None of the first u edges of s has the letter. -/
def NoneF (es : List Ed) (s : Nat) (l : Int) (u : Nat) : Prop := ∀ v k : Nat, v < u → (fromL es s es.length).getD v 0 = (k : Int) → letB l (es.getD k ed0) = false
theorem NoneF.step {es : List Ed} {s u i : Nat} {l : Int} (h : NoneF es s l u) (hi : (fromL es s es.length).getD u 0 = (i : Int)) (hl : letB l (es.getD i ed0) = false) : NoneF es s l (u + 1) := by
  intro v k hv hk
  by_cases e : v = u
  · subst e
    obtain rfl : i = k := by omega
    exact hl
  · exact h v k (by omega) hk

/-- What step comes to. -/
def StepT (es : List Ed) (f : Nat → Int) (s0 t : Nat) (w w' : World) (r lo hi S : Nat) (V : Nat → Value) (E : Option Addr) (ne ce : Nat) (e : Ending) : Prop :=
  e = .returned (.int .i64 (markU es f s0 t : Nat)) ∧ WkS w' r lo hi S V E ne ce es (runU es f s0 (t + 1)) ∧ w.grownBy w' (some r)

theorem step_ret {w w' : World} {e : Ending} {es : List Ed} {f : Nat → Int} {s0 t r lo hi S ne ce : Nat} {V : Nat → Value} {E : Option Addr} {x : Int} (he : e = .returned (.int .i64 x)) (hx : x = (markU es f s0 t : Nat)) (h : WkS w' r lo hi S V E ne ce es (runU es f s0 (t + 1))) (hg : w.grownBy w' (some r)) : StepT es f s0 t w w' r lo hi S V E ne ce e :=
  ⟨by rw [he, hx], h, hg⟩
theorem grown_set2 {w w1 : World} {r i : Nat} (hg : w.grownBy w1 (some r)) (v : Value) : w.grownBy (w1.setCell ⟨r, i, none⟩ v) (some r) :=
  hg.trans ⟨(Below.refl 0 w1 |>.setCell (p := ⟨r, i, none⟩) (Nat.zero_le _) v).os, (Below.refl 0 w1 |>.setCell (p := ⟨r, i, none⟩) (Nat.zero_le _) v).tape, (Below.refl 0 w1 |>.setCell (p := ⟨r, i, none⟩) (Nat.zero_le _) v).output, (KeepsWalks.setCell w1 ⟨r, i, none⟩ v).size, fun k _ hk => Below.heap_setCell w1 _ v k (fun e => hk (by rw [e]))⟩

set_option maxRecDepth 100000 in
set_option maxHeartbeats 8000000 in
theorem step_run (f : Nat → Int) (s0 t r lo hi S : Nat) (V : Nat → Value) (E : Option Addr) (ne ce : Nat) (es : List Ed) (l : Int) (w : World) (h : WkS w r lo hi S V E ne ce es (runU es f s0 t)) (hE : EdgesAt w E ne es) (hne : ne ≤ 40000) (hS : S ≤ 3000) (hl : f t = l)
    (hes : ∀ j, j < ne → ∃ a b : Nat, (es.getD j ed0).f = (a : Int) ∧ (es.getD j ed0).t = (b : Int) ∧ a < S ∧ b < S) (hms : ∀ j, j < ne → 0 ≤ (es.getD j ed0).m ∧ (es.getD j ed0).m < 2 ^ 40) :
    Calls Try.prog 91 #[.pointer (some ⟨r, 0, none⟩), .int .i64 l] w fun e w' => StepT es f s0 t w w' r lo hi S V E ne ce e := by
  have HW := Lib.hid h
  have HLE := Lib.hid hE.1
  have hr := h.lt
  cases hq : runU es f s0 t with
  | none =>
    have HX := Lib.hid (show markU es f s0 t = 0 ∧ runU es f s0 (t + 1) = none from ⟨markU_dead hq, runU_dead hq 1⟩)
    rw [hq] at h HW
    obtain ⟨x, d, s1, s2, s3⟩ := h.st
    have hd : d = true := s3
    subst hd
    clear h hq hE hes hms s3
    go_enter Try.func91, Try.ntmps91
    go_wp2_with fail
    go_ret
    exact step_ret rfl (by rw [HX.out.1]; rfl) (by rw [HX.out.2]; exact HW.out) (World.grownBy.refl w _)
  | some s =>
    have HQ := Lib.hid hq
    rw [hq] at h HW
    obtain ⟨x, d, s1, s2, s3⟩ := h.st
    obtain ⟨rfl, rfl, hsS⟩ : x = (s : Int) ∧ d = false ∧ s < S := s3
    obtain ⟨A4, c4, hV, k4, hx4⟩ := h.out.2.2 s hsS
    have c0 := h.c0
    have c1 := h.c1
    have f2 := h.f2
    have f3 := h.f3
    have hs0 : (0 : Int) ≤ (s : Int) := by omega
    have hs1 : (s : Int) < (S : Int) := by omega
    have HXX := Lib.hid hx4
    have HEE := Lib.hid hE
    have HES := Lib.hid hes
    have HMS := Lib.hid hms
    obtain ⟨m4, hm4, HM4⟩ : ∃ m4, (fromL es s es.length).length = m4 ∧ Hid ((fromL es s es.length).length = m4) := ⟨_, rfl, rfl⟩
    have hm4b : m4 ≤ 40000 := by rw [← hm4]; have := fromL_len es s es.length; have := HLE.out; omega
    rw [hm4] at k4 hV
    have HV4 := Lib.hid hV
    have hlo : lo + 1 < w.heap.size := by have := h.out.2.1; have := h.far; omega
    clear h hq hE hes hms hV hx4 hm4
    go_enter Try.func91, Try.ntmps91
    go_wp2_with fail
    go_quiet (fail)
    go_wp2_with fail
    have HWD := Lib.hid (show WkS (w.drewN nq) r lo hi S V E ne ce es (some s) from HW.out.below (below_drewN (Below.refl _ _) _))
    have HGD := Lib.hid (show Below w.heap.size w (w.drewN nq) from below_drewN (Below.refl _ _) _)
    generalize w.drewN nq = Z at *
    clear c0 c1 f2 f3 s1 s2 k4 hlo
    go_loopg [23] m4 (fun g i wx => ∃ u : Nat, u + g = m4 ∧ i = .int .i64 u ∧ Hid (NoneF es s l u) ∧ Hid (WkS wx r lo hi S V E ne ce es (some s)) ∧ Hid (Below w.heap.size w wx))
    case atStart => exact ⟨0, by omega, rfl, (fun v k hv => by omega), HWD.out, HGD.out⟩
    case round =>
      clear HWD HGD
      obtain ⟨u, hug, rfl, HNF, HWx, HBx⟩ := hrel
      have hui : (0 : Int) ≤ (u : Int) := by omega
      have hrx := HWx.out.lt
      have c0 := HWx.out.c0
      have f2 := HWx.out.f2
      have f3 := HWx.out.f3
      obtain ⟨x9, d9, s1, s2, s3⟩ := HWx.out.st
      obtain ⟨rfl, rfl, _⟩ : x9 = (s : Int) ∧ d9 = false ∧ s < S := s3
      cases gk with
      | zero =>
        obtain rfl : m4 = u := by omega
        have HX := Lib.hid (runU_stop HQ.out (by rw [hl]; exact nextS_none (fun v k hv hk => HNF.out v k (by rw [← HM4.out]; exact hv) hk)))
        go_wp2_with fail
        go_ret
        exact step_ret rfl (by rw [HX.out.2]; rfl) (by rw [HX.out.1]; exact HWx.out.die) (grown_set2 (grown_of HBx.out) _)
      | succ q =>
        have hu1 : u < m4 := by omega
        have hui2 : (u : Int) < (m4 : Int) := by omega
        obtain ⟨A5, c5, hV5, _, hx5⟩ := HWx.out.out.2.2 s hsS
        obtain ⟨i, hi, hine, hif⟩ := fromL_at (es := es) (s := s) (n := es.length) (u := u) (by rw [HM4.out]; exact hu1)
        have hine2 : i < ne := by have := HLE.out; omega
        have hV6 := HV4.out.symm.trans hV5
        injection hV6 with ee1 ee2 ee3
        subst ee1
        obtain ⟨b5, off5, rfl, hb5a, hb5b, hc5⟩ := hx5 (by rw [HM4.out]; omega)
        have k5 := hc5 u (by rw [HM4.out]; exact hu1)
        rw [hi] at k5
        obtain ⟨b7, off7, rfl, hb7, hc7⟩ := (HEE.out.below HBx.out).2 (by omega)
        obtain ⟨e0, e1, e2, e3, e4⟩ := hc7 i hine2
        obtain ⟨fx, tx, hfx, htx, _, htS⟩ := HES.out i hine2
        obtain ⟨hm0, hm1⟩ := HMS.out i hine2
        have hi0 : (0 : Int) ≤ (i : Int) := by omega
        have hi1 : (i : Int) < (ne : Int) := by omega
        have HNS := Lib.hid (fun h1 => nextS_at (l := l) (by rw [HM4.out]; exact hu1) hi HNF.out h1)
        have HNO := Lib.hid (fun h1 => NoneF.step HNF.out hi h1)
        have HRUN := Lib.hid (fun h1 => runU_next HQ.out (show nextS es s (f t) = some i by rw [hl]; exact h1))
        generalize es.getD i ed0 = y at *
        obtain ⟨ef, et, ec, eb, em⟩ := y
        simp only at e0 e1 e2 e3 e4 hfx htx hm0 hm1 hif
        subst htx
        obtain ⟨mm, rfl⟩ := Int.eq_ofNat_of_zero_le hm0
        have HH := Lib.hid (fun w => has_letB ef tx ec eb mm l w)
        obtain ⟨rb, hrb, HRB⟩ : ∃ rb, letB l ⟨ef, tx, ec, eb, mm⟩ = rb ∧ Hid (letB l ⟨ef, tx, ec, eb, mm⟩ = rb) := ⟨_, rfl, rfl⟩
        rw [hrb] at HH
        have HWR := Lib.hid (fun w1 (hb : Below wr.heap.size wr w1) => (HWx.out.below hb).move (s := tx) ⟨s, rfl⟩ htS)
        have hb5r : b5 < wr.heap.size := by have := HWx.out.far; omega
        clear hrb hV5 ee2 ee3 hx5 hi hif hfx hc5 hc7 hm0 hm1 s1 s2
        go_wp2_with fail
        refine (HH.out _).mono ?_
        rintro z w3 ⟨rfl, hb3⟩
        have hbx3 := box_at hb3
        have d1 : w3.cell? ⟨wr.heap.size, 1, none⟩ = some (.int .i64 tx) := hbx3.2 1
        have d4 : w3.cell? ⟨wr.heap.size, 4, none⟩ = some (.int .i64 mm) := hbx3.2 4
        have hd0 := hbx3.1
        have HBB := Lib.hid (show Below wr.heap.size wr w3 from boxA hb3)
        have hr3 := Nat.lt_of_lt_of_le hrx HBB.out.size
        have g2 := (HBB.out.frozen (p := ⟨r, 2, none⟩) hrx).trans f2
        obtain ⟨x8, d8, s1, _, _⟩ := (HWx.out.below HBB.out).st
        have HB3 := Lib.hid (HBx.out.trans (HBB.out.mono HBx.out.size))
        have hrne : r ≠ wr.heap.size := by omega
        have hrne2 : ¬ wr.heap.size = r := by omega
        clear hb3 hbx3 k5 e0 e1 e2 e3 e4 f2 f3 c0
        cases rb
        · have HN := Lib.hid (HNO.out HRB.out)
          go_wp2_with fail
          go_roundg q
          case measure => omega
          case rel => exact ⟨u + 1, by omega, by go_num, HN.out, HWx.out.below HBB.out, HB3.out⟩
        · have HX := Lib.hid (HRUN.out (HNS.out HRB.out))
          go_wp2_with fail
          go_ret
          exact step_ret rfl (by rw [HX.out.2]; rfl) (by rw [HX.out.1]; exact HWR.out w3 HBB.out) (grown_set2 (grown_of HB3.out) _)

end Go.Proofs.Ytfblnadmbfhjiaa.Wd

namespace Go.Proofs.Ytfblnadmbfhjiaa.Wd
open Go.RowKit
set_option linter.unusedVariables false

theorem markU_lt {es : List Ed} {f : Nat → Int} {s0 t : Nat} (hms : ∀ j, j < es.length → 0 ≤ (es.getD j ed0).m ∧ (es.getD j ed0).m < 2 ^ 40) : markU es f s0 t < 2 ^ 40 := by
  unfold markU
  cases h : (runU es f s0 t).bind fun s => nextS es s (f t) with
  | none => simp
  | some j =>
    rw [Option.bind_eq_some_iff] at h
    obtain ⟨s, _, hj⟩ := h
    have h1 := hms j (nextS_some hj).1
    show (es.getD j ed0).m.toNat < 2 ^ 40
    omega
theorem orU_lt {es : List Ed} {f : Nat → Int} {s0 a : Nat} (hms : ∀ j, j < es.length → 0 ≤ (es.getD j ed0).m ∧ (es.getD j ed0).m < 2 ^ 40) : ∀ c, orU es f s0 a c < 2 ^ 40
  | 0 => by simp [orU]
  | c + 1 => Nat.or_lt_two_pow (orU_lt hms c) (markU_lt hms)

/-- What read comes to. -/
def ReadT (es : List Ed) (f : Nat → Int) (s0 t c : Nat) (w w' : World) (r lo hi S : Nat) (V : Nat → Value) (E : Option Addr) (ne ce : Nat) (e : Ending) : Prop :=
  e = .returned (.int .i64 (orU es f s0 t c : Nat)) ∧ WkS w' r lo hi S V E ne ce es (runU es f s0 (t + c)) ∧ w.grownBy w' (some r)

set_option maxRecDepth 100000 in
set_option maxHeartbeats 8000000 in
theorem read_run (f : Nat → Int) (s0 t0 r lo hi S : Nat) (V : Nat → Value) (E : Option Addr) (ne ce : Nat) (es : List Ed) (A : Option Addr) (n c : Nat) (xs : List Int) (B : Nat) (w : World) (h : WkS w r lo hi S V E ne ce es (runU es f s0 t0)) (hB : B ≤ r) (hBw : B ≤ w.heap.size)
    (hE : ∀ W, Below B w W → EdgesAt W E ne es) (hx : ∀ W, Below B w W → Ints W A n xs) (hn : n ≤ 100000) (hne : ne ≤ 40000) (hS : S ≤ 3000) (hl : ∀ j, j < n → f (t0 + j) = xs.getD j 0)
    (hes : ∀ j, j < ne → ∃ a b : Nat, (es.getD j ed0).f = (a : Int) ∧ (es.getD j ed0).t = (b : Int) ∧ a < S ∧ b < S) (hms : ∀ j, j < ne → 0 ≤ (es.getD j ed0).m ∧ (es.getD j ed0).m < 2 ^ 40) :
    Calls Try.prog 79 #[.pointer (some ⟨r, 0, none⟩), .slice A n c] w fun e w' => ReadT es f s0 t0 n w w' r lo hi S V E ne ce e := by
  have HW := Lib.hid h
  have HX := Lib.hid hx
  have HLE := Lib.hid (hE w (Below.refl _ _)).1
  have HOR := Lib.hid (fun a c => orU_lt (es := es) (f := f) (s0 := s0) (a := a) (by rw [HLE.out]; exact hms) c)
  have HMK := Lib.hid (fun t => markU_lt (es := es) (f := f) (s0 := s0) (t := t) (by rw [HLE.out]; exact hms))
  have HST := Lib.hid (fun t W (hW : Below B w W) (h : WkS W r lo hi S V E ne ce es (runU es f s0 t)) l (hl : f t = l) => step_run f s0 t r lo hi S V E ne ce es l W h (hE W hW) hne hS hl hes hms)
  have HL := Lib.hid hl
  clear h hx hE hl hes hms
  go_enter Try.func79, Try.ntmps79
  go_wp2_with fail
  go_loopg [5, 10] n (fun g m i wx => ∃ t : Nat, t + g = n ∧ i = .int .i64 t ∧ m = .int .i64 (orU es f s0 t0 t : Nat) ∧ Hid (WkS wx r lo hi S V E ne ce es (runU es f s0 (t0 + t))) ∧ Hid (w.grownBy wx (some r)))
  case atStart => exact ⟨0, by omega, rfl, rfl, HW.out, World.grownBy.refl w _⟩
  case round =>
    obtain ⟨t, htq, rfl, rfl, HWr, HBr⟩ := hrel
    have hti : (0 : Int) ≤ (t : Int) := by omega
    cases gk with
    | zero =>
      obtain rfl : n = t := by omega
      go_wp2_with fail
      go_ret
      exact ⟨rfl, HWr.out, HBr.out⟩
    | succ q =>
      have ht1 : t < n := by omega
      have hti2 : (t : Int) < (n : Int) := by omega
      have HBB := Lib.hid (show Below B w wr from (Below.refl _ _).grown HBr.out hBw (fun k hk => by cases hk; exact hB))
      obtain ⟨bA, oA, rfl, hlt, hcell⟩ := (HX.out wr HBB.out).at_ ht1
      have hct := hcell t ht1
      have HSX := Lib.hid (HST.out (t0 + t) wr HBB.out HWr.out _ (HL.out t ht1))
      generalize xs.getD t 0 = l at *
      have hor := or_i64 (orU es f s0 t0 t) (markU es f s0 (t0 + t)) (Nat.lt_of_lt_of_le (HOR.out t0 t) (by decide)) (Nat.lt_of_lt_of_le (HMK.out (t0 + t)) (by decide))
      obtain ⟨X, hX, HXX⟩ : ∃ X, orU es f s0 t0 t ||| markU es f s0 (t0 + t) = X ∧ Hid (orU es f s0 t0 (t + 1) = X) := ⟨_, rfl, rfl⟩
      rw [hX] at hor
      generalize orU es f s0 t0 t = O at *
      have hor2 := Lib.hid hor
      clear hcell hX hor
      go_wp2_with fail
      refine HSX.out.mono ?_
      rintro x w1 ⟨rfl, hw1, hb1⟩
      have HW1 := Lib.hid hw1
      have HB1 := Lib.hid (HBr.out.trans hb1)
      clear hw1 hb1
      go_wp2_with fail
      go_roundg q
      case measure => omega
      case rel => exact ⟨t + 1, by omega, by go_num, (by rw [hor2.out, HXX.out]), HW1, HB1⟩

/-- All of the first c numbers together. -/
def orN (g : Nat → Nat) : Nat → Nat
  | 0 => 0
  | c + 1 => orN g c ||| g c
theorem orN_lt {g : Nat → Nat} (h : ∀ j, g j < 2 ^ 40) : ∀ c, orN g c < 2 ^ 40
  | 0 => by simp [orN]
  | c + 1 => Nat.or_lt_two_pow (orN_lt h c) (h c)

set_option maxRecDepth 100000 in
set_option maxHeartbeats 4000000 in
theorem union_run (g : Nat → Nat) (A : Option Addr) (n c : Nat) (xs : List Int) (w : World) (h : Ints w A n xs) (hn : n ≤ 100000) (hg : ∀ j, g j < 2 ^ 40) (hx : ∀ j, j < n → xs.getD j 0 = (g j : Nat)) :
    Calls Try.prog 80 #[.slice A n c] w fun e w' => e = .returned (.int .i64 (orN g n : Nat)) ∧ w = w' := by
  have HX := Lib.hid h
  have HG := Lib.hid hg
  have HL := Lib.hid hx
  have HOR := Lib.hid (orN_lt hg)
  clear h hg hx
  go_enter Try.func80, Try.ntmps80
  go_wp2_with fail
  go_loopg [3, 8] n (fun q m i wx => ∃ t : Nat, t + q = n ∧ i = .int .i64 t ∧ m = .int .i64 (orN g t : Nat) ∧ wx = w)
  case atStart => exact ⟨0, by omega, rfl, rfl, rfl⟩
  case round =>
    obtain ⟨t, htq, rfl, rfl, rfl⟩ := hrel
    have hti : (0 : Int) ≤ (t : Int) := by omega
    cases gk with
    | zero =>
      obtain rfl : n = t := by omega
      go_wp2_with fail
      go_ret
      exact ⟨rfl, rfl⟩
    | succ q =>
      have ht1 : t < n := by omega
      have hti2 : (t : Int) < (n : Int) := by omega
      obtain ⟨bA, oA, rfl, hlt, hcell⟩ := HX.out.at_ ht1
      have hct := hcell t ht1
      rw [HL.out t ht1] at hct
      have hor := or_i64 (orN g t) (g t) (Nat.lt_of_lt_of_le (HOR.out t) (by decide)) (Nat.lt_of_lt_of_le (HG.out t) (by decide))
      obtain ⟨X, hX, HXX⟩ : ∃ X, orN g t ||| g t = X ∧ Hid (orN g (t + 1) = X) := ⟨_, rfl, rfl⟩
      rw [hX] at hor
      generalize orN g t = O at *
      generalize g t = M at *
      clear hcell hX
      go_wp2_with fail
      go_roundg q
      case measure => omega
      case rel => exact ⟨t + 1, by omega, by go_num, (by rw [HXX.out]), rfl⟩

end Go.Proofs.Ytfblnadmbfhjiaa.Wd

namespace Go.Proofs.Ytfblnadmbfhjiaa.Wd
open Go.RowKit
set_option linter.unusedVariables false

def NewT (w w' : World) (S : Nat) (E : Option Addr) (ne ce : Nat) (es : List Ed) (s0 : Nat) (e : Ending) : Prop :=
  ∃ r lo hi V, e = .returned (.pointer (some ⟨r, 0, none⟩)) ∧ w.heap.size ≤ lo ∧ lo ≤ hi ∧ WkS w' r lo hi S V E ne ce es (some s0) ∧ Below w.heap.size w w'

set_option maxRecDepth 100000 in
set_option maxHeartbeats 8000000 in
theorem newWalker_any (P : Int) (S : Nat) (K M : Int) (A E : Option Addr) (c ne ce : Nat) (st : List Int) (es : List Ed) (s0 : Nat) (w : World) (ha : Ints w A 1 st) (h0 : st.getD 0 0 = (s0 : Int)) (hs0 : s0 < S) (hE : EdgesAt w E ne es) (hS : S ≤ 3000) (hne : ne ≤ 40000)
    (hfr : ∀ j, j < ne → ∃ f : Nat, (es.getD j ed0).f = (f : Int) ∧ f < S) :
    Calls Try.prog 49 #[.agg #[.int .i64 P, .int .i64 S, .slice A 1 c, .int .i64 K, .int .i64 M, .slice E ne ce]] w fun e w' => NewT w w' S E ne ce es s0 e := by
  obtain ⟨bs, os, rfl, hbs, hcs⟩ := ha.at_ (show 0 < 1 by omega)
  have k0 := hcs 0 (by omega)
  rw [h0, Nat.add_zero] at k0
  have HL := Lib.hid hE.1
  have HO := Lib.hid (fun W (hW : Below w.heap.size w W) => outgoing_any P S K M (some ⟨bs, os, none⟩) E 1 c ne ce es W (hE.below hW) hS hne hfr)
  have HX := Lib.hid (Box6.new w P S (some ⟨bs, os, none⟩) 1 c K M E ne ce 25)
  have HBX := Lib.hid (show Below w.heap.size w (w.alloc (.cells #[.int .i64 P, .int .i64 S, .slice (some ⟨bs, os, none⟩) 1 c, .int .i64 K, .int .i64 M, .slice E ne ce] 25)) from (Below.refl _ _).alloc (Nat.le_refl _) _)
  have HK0 := Lib.hid ((HBX.out.cell (p := ⟨bs, os, none⟩) hbs).trans k0)
  clear ha hE hcs k0 hfr
  have hz0 : (w.alloc (.cells #[.int .i64 P, .int .i64 S, .slice (some ⟨bs, os, none⟩) 1 c, .int .i64 K, .int .i64 M, .slice E ne ce] 25)).heap.size = w.heap.size + 1 := by simp
  go_enter Try.func49, Try.ntmps49
  go_wp2_with fail
  generalize w.alloc (.cells #[.int .i64 P, .int .i64 S, .slice (some ⟨bs, os, none⟩) 1 c, .int .i64 K, .int .i64 M, .slice E ne ce] 25) = Z at *
  have HS := Lib.hid (show ∀ V, Below Z.heap.size Z V → (V.cell? ⟨w.heap.size, 0, none⟩ = some (.int .i64 P) ∧ V.cell? ⟨w.heap.size, 1, none⟩ = some (.int .i64 S) ∧ V.cell? ⟨w.heap.size, 2, none⟩ = some (.slice (some ⟨bs, os, none⟩) 1 c) ∧ V.cell? ⟨w.heap.size, 3, none⟩ = some (.int .i64 K) ∧ V.cell? ⟨w.heap.size, 4, none⟩ = some (.int .i64 M) ∧ V.cell? ⟨w.heap.size, 5, none⟩ = some (.slice E ne ce)) ∧ V.cell? ⟨bs, os, none⟩ = some (.int .i64 s0) from
    fun V hV => ⟨(HX.out.below hV).2, (hV.cell (p := ⟨bs, os, none⟩) (by rw [hz0]; show bs < _; omega)).trans HK0.out⟩)
  have HZ := Lib.hid hz0
  clear hz0
  go_region_held3 (fun V => (V.cell? ⟨w.heap.size, 0, none⟩ = some (.int .i64 P) ∧ V.cell? ⟨w.heap.size, 1, none⟩ = some (.int .i64 S) ∧ V.cell? ⟨w.heap.size, 2, none⟩ = some (.slice (some ⟨bs, os, none⟩) 1 c) ∧ V.cell? ⟨w.heap.size, 3, none⟩ = some (.int .i64 K) ∧ V.cell? ⟨w.heap.size, 4, none⟩ = some (.int .i64 M) ∧ V.cell? ⟨w.heap.size, 5, none⟩ = some (.slice E ne ce)) ∧ V.cell? ⟨bs, os, none⟩ = some (.int .i64 s0))
    (first
      | exact HS.out _ k1
      | exact HS.out _ ((Below.refl Z.heap.size Z).drew)
      | exact HS.out _ (k1.alloc k1.size _))
    (first
      | (go_at_call 62; refine (HO.out _ HBX.out.drew).mono ?_; rintro x z1 ⟨V, rfl, hrow, hrows, b1⟩; have k1 : Below Z.heap.size Z z1 := ((Below.refl _ _).drew).trans b1; have HROW := Lib.hid hrow; have HROWS := Lib.hid hrows; clear hrow hrows)
      | fail)
  go_wp2_with fail
  go_ret
  have hw1 : Below w.heap.size w z1 := HBX.out.trans (k1.mono HBX.out.size)
  have hO : OutAt z1 Z.heap.size z1.heap.size (Z.heap.size + 1) S es V := OutAt.of_rows (lo := Z.heap.size) HL.out HROW.out HROWS.out
  refine ⟨z1.heap.size, Z.heap.size, z1.heap.size, V, rfl, by rw [HZ.out]; omega, k1.size, ⟨by simp, Nat.le_refl _, by rw [box_last]; rfl, by rw [box_last]; rfl, box_last_free _ _ _ _, box_last_free _ _ _ _, ⟨s0, false, by rw [box_last]; rfl, by rw [box_last]; rfl, rfl, rfl, hs0⟩, ?_⟩, hw1.alloc hw1.size _⟩
  exact hO.kept (fun j _ h2 => Below.heap_alloc _ _ _ h2)

end Go.Proofs.Ytfblnadmbfhjiaa.Wd

namespace Go.Proofs.Ytfblnadmbfhjiaa.Wd
open Go.RowKit Go.Maps
set_option linter.unusedVariables false

theorem key_int (x : Nat) : WideAt.IsKeyLit (.int .i64 (x : Int)) := by trivial

/-- The first k turns begin in the states of F, each in another one; D tells when. -/
structure Vis (es : List Ed) (f : Nat → Int) (s0 n m S k : Nat) (D : DataW Nat) (F : Nat → Bool) : Prop where
  mem : ∀ x : Nat, F x = true ↔ ∃ i, i < k ∧ turnU es f s0 n m i = some x
  cnt : k + cntF F S = S
  has : ∀ x : Nat, Maps.has D (.int .i64 x) = F x
  at_ : ∀ x : Nat, F x = true → ∀ z, ∃ i : Nat, i < k ∧ turnU es f s0 n m i = some x ∧ D.atKey (.int .i64 x) z = .lit (.int .i64 i)
theorem Vis.start (es : List Ed) (f : Nat → Int) (s0 n m S : Nat) : Vis es f s0 n m S 0 (.map []) (fun _ => false) :=
  ⟨fun x => ⟨fun h => by (cases h), fun ⟨i, hi, _⟩ => by omega⟩, by rw [cntF_none]; omega, fun x => rfl, fun x h => by cases h⟩
theorem Vis.few {es : List Ed} {f : Nat → Int} {s0 n m S k : Nat} {D : DataW Nat} {F : Nat → Bool} (h : Vis es f s0 n m S k D F) : k ≤ S := by have := h.cnt; omega
theorem Vis.next {es : List Ed} {f : Nat → Int} {s0 n m S k s : Nat} {D : DataW Nat} {F : Nat → Bool} (h : Vis es f s0 n m S k D F) (hD : IsMap D) (hq : turnU es f s0 n m k = some s) (hs : s < S) (hf : F s = false) :
    Vis es f s0 n m S (k + 1) (D.put (.int .i64 (s : Int)) (.lit (.int .i64 (k : Int)))) (updB F s) := by
  have hne : ∀ x : Nat, x ≠ s → (Lit.int .i64 (x : Int)) ≠ .int .i64 (s : Int) := fun x hx e => hx (by injection e with _ e; omega)
  refine ⟨fun x => ⟨fun hx => ?_, fun ⟨i, hi, he⟩ => ?_⟩, ?_, fun x => ?_, fun x hx z => ?_⟩
  · rcases updB_true hx with rfl | h2
    · exact ⟨k, by omega, hq⟩
    · obtain ⟨i, hi, he⟩ := (h.mem x).1 h2
      exact ⟨i, by omega, he⟩
  · by_cases e : i = k
    · subst e
      rw [hq] at he
      injection he with he
      subst he
      exact updB_same F s
    · exact updB_mono ((h.mem x).2 ⟨i, by omega, he⟩)
  · have h1 := cntF_set hf S hs
    have h2 := h.cnt
    omega
  · by_cases e : x = s
    · subst e; rw [has_put_same hD (key_int x), updB_same]
    · rw [has_put_other (hne x e), h.has x]; unfold updB; rw [if_neg e]
  · by_cases e : x = s
    · subst e
      exact ⟨k, by omega, hq, atKey_put_same hD (key_int x) _ _⟩
    · rcases updB_true hx with rfl | h2
      · exact absurd rfl e
      · obtain ⟨i, hi, he, ha⟩ := h.at_ x h2 z
        exact ⟨i, by omega, he, by rw [atKey_put_other (hne x e)]; exact ha⟩

theorem orU_add (es : List Ed) (f : Nat → Int) (s0 a c : Nat) : ∀ d, orU es f s0 a (c + d) = orU es f s0 a c ||| orU es f s0 (a + c) d
  | 0 => by simp [orU]
  | d + 1 => by
    show orU es f s0 a (c + d) ||| markU es f s0 (a + (c + d)) = _
    rw [orU_add es f s0 a c d, Nat.or_assoc]
    show _ = orU es f s0 a c ||| (orU es f s0 (a + c) d ||| markU es f s0 (a + c + d))
    rw [Nat.add_assoc]
theorem orN_turns (es : List Ed) (f : Nat → Int) (s0 n m i : Nat) : ∀ c, orN (fun j => orU es f s0 (n + (i + j) * m) m) c = orU es f s0 (n + i * m) (c * m)
  | 0 => by simp [orN, orU]
  | c + 1 => by
    show orN _ c ||| orU es f s0 (n + (i + c) * m) m = _
    rw [orN_turns es f s0 n m i c, Nat.succ_mul, orU_add, show n + (i + c) * m = n + i * m + c * m by rw [Nat.add_mul]; omega]
/-- The marks of the first k turns. -/
def turnL (es : List Ed) (f : Nat → Int) (s0 n m k : Nat) : List Int := (List.range k).map fun i => ((orU es f s0 (n + i * m) m : Nat) : Int)
theorem turnL_len (es : List Ed) (f : Nat → Int) (s0 n m k : Nat) : (turnL es f s0 n m k).length = k := by simp [turnL]
theorem turnL_succ (es : List Ed) (f : Nat → Int) (s0 n m k : Nat) : turnL es f s0 n m (k + 1) = turnL es f s0 n m k ++ [((orU es f s0 (n + k * m) m : Nat) : Int)] := by simp [turnL, List.range_succ]
theorem turnL_at (es : List Ed) (f : Nat → Int) (s0 n m : Nat) {i k : Nat} (h : i < k) : (turnL es f s0 n m k).getD i 0 = ((orU es f s0 (n + i * m) m : Nat) : Int) := by
  simp [turnL, List.getD_eq_getElem?_getD, h]

section
variable {w w' : World} {r lo hi S : Nat} {V : Nat → Value} {E : Option Addr} {ne ce : Nat} {es : List Ed} {q : Option Nat}
theorem WkS.kept (h : WkS w r lo hi S V E ne ce es q) (hs : w.heap.size ≤ w'.heap.size) (hk : ∀ j, j ≤ r → w'.heap[j]? = w.heap[j]?) : WkS w' r lo hi S V E ne ce es q := by
  obtain ⟨x, d, s1, s2, s3⟩ := h.st
  have hr := hk r (Nat.le_refl _)
  exact ⟨Nat.lt_of_lt_of_le h.lt hs, h.far, (World.cell?_of_block (a := ⟨r, 0, none⟩) hr).trans h.c0, (World.cell?_of_block (a := ⟨r, 1, none⟩) hr).trans h.c1, (World.frozen?_of_block (a := ⟨r, 2, none⟩) hr).trans h.f2, (World.frozen?_of_block (a := ⟨r, 3, none⟩) hr).trans h.f3,
    ⟨x, d, (World.cell?_of_block (a := ⟨r, 2, none⟩) hr).trans s1, (World.cell?_of_block (a := ⟨r, 3, none⟩) hr).trans s2, s3⟩, h.out.kept (fun j _ h2 => hk j (by have := h.far; omega))⟩
end
end Go.Proofs.Ytfblnadmbfhjiaa.Wd

namespace Go.Proofs.Ytfblnadmbfhjiaa.Wd
open Go.RowKit Go.Maps
set_option linter.unusedVariables false
set_option linter.unusedSimpArgs false

/-- At the head of a round. -/
structure WalkI (es : List Ed) (f : Nat → Int) (s0 n m S k : Nat) (r lo hi : Nat) (V : Nat → Value) (E : Option Addr) (ne ce : Nat) (B wb mb : Nat) (w : World) (A Bl : Option Addr) (na ca nb cb : Nat) (D : DataW Nat) (F : Nat → Bool) (v : Value) (wx : World) : Prop where
  vis : Vis es f s0 n m S k D F
  own : wx.ownsMap Try.prog 3 (plainElem Try.prog 3) mb k D
  wk : WkS wx r lo hi S V E ne ce es (turnU es f s0 n m k)
  row : wx.ownsRow (mb + 1) 3 1 v k ((turnL es f s0 n m k).map (Value.int .i64))
  p0 : wx.cell? ⟨wb, 0, none⟩ = some (.slice A na ca)
  p1 : wx.cell? ⟨wb, 1, none⟩ = some (.slice Bl nb cb)
  bel : Below B w wx
  ord : r < wb ∧ wb < mb ∧ mb < wx.heap.size ∧ B ≤ r

theorem own_grown {w w' : World} {base size n b : Nat} {e : TypeId} {v : Value} {xs : List Value} (h : w.ownsRow base e size v n xs) (hg : w.grownBy w' (some b)) (hb : b < base) : w'.ownsRow base e size v n xs :=
  h.kept hg (by
    rcases h.2 with ⟨rfl, _⟩ | ⟨g, cap, cur, rfl, h1, _⟩
    · exact .inl rfl
    · exact .inr (by simp only [Value.ownBlock, ne_eq, Option.some.injEq]; omega))
theorem row_far {w : World} {base size n b : Nat} {e : TypeId} {v : Value} {xs : List Value} (h : w.ownsRow base e size v n xs) (hb : b < base) : some b ≠ v.ownBlock := by
  rcases h.2 with ⟨rfl, _⟩ | ⟨g, cap, cur, rfl, h1, _⟩
  · simp [Value.ownBlock]
  · simp only [Value.ownBlock, ne_eq, Option.some.injEq]; omega

/-- What walk comes to. -/
def WalkT (es : List Ed) (f : Nat → Int) (s0 n m S : Nat) (B : Nat) (w w' : World) (e : Ending) : Prop :=
  ∃ x : Nat, ∃ d : Bool, e = .returned (.tuple #[.int .i64 (x : Nat), .bool d]) ∧ WalkA es f s0 n m S x d ∧ Below B w w'

set_option maxRecDepth 100000 in
set_option maxHeartbeats 16000000 in
theorem walk_run (f : Nat → Int) (s0 r lo hi S : Nat) (V : Nat → Value) (E : Option Addr) (ne ce : Nat) (es : List Ed) (A Bl : Option Addr) (n cA m dB : Nat) (st lp : List Int) (B : Nat) (w : World) (h : WkS w r lo hi S V E ne ce es (some s0)) (hB : B ≤ r)
    (hE : ∀ W, Below B w W → EdgesAt W E ne es) (hx : ∀ W, Below B w W → Ints W A n st) (hy : ∀ W, Below B w W → Ints W Bl m lp) (hn : n ≤ 100000) (hm : m ≤ 100000) (hne : ne ≤ 40000) (hS : S ≤ 3000)
    (hl1 : ∀ j, j < n → f (0 + j) = st.getD j 0) (hl2 : ∀ k j, j < m → f (n + k * m + j) = lp.getD j 0)
    (hes : ∀ j, j < ne → ∃ a b : Nat, (es.getD j ed0).f = (a : Int) ∧ (es.getD j ed0).t = (b : Int) ∧ a < S ∧ b < S) (hms : ∀ j, j < ne → 0 ≤ (es.getD j ed0).m ∧ (es.getD j ed0).m < 2 ^ 40) :
    Calls Try.prog 50 #[.pointer (some ⟨r, 0, none⟩), .agg #[.slice A n cA, .slice Bl m dB]] w fun e w' => WalkT es f s0 n m S B w w' e := by
  obtain ⟨i0, hj, hj0, hj1, hj2⟩ := info_parts int_row
  have hmm := @run_makeMap Try.prog
  have hr := h.lt
  have HLE := Lib.hid (hE w (Below.refl _ _)).1
  have HOL := Lib.hid (fun a c => orU_lt (es := es) (f := f) (s0 := s0) (a := a) (by rw [HLE.out]; exact hms) c)
  have HR1 := Lib.hid (fun W (hW : Below w.heap.size w W) => read_run f s0 0 r lo hi S V E ne ce es A n cA st B W (h.below hW) hB (by have := hW.size; omega) (fun W' hW' => hE W' ((hW.mono (by omega)).trans hW')) (fun W' hW' => hx W' ((hW.mono (by omega)).trans hW')) hn hne hS hl1 hes hms)
  have HR2 := Lib.hid (fun k W (hW : Below B w W) (hk : WkS W r lo hi S V E ne ce es (turnU es f s0 n m k)) => read_run f s0 (n + k * m) r lo hi S V E ne ce es Bl m dB lp B W hk hB (by have := hW.size; omega) (fun W' hW' => hE W' (hW.trans hW')) (fun W' hW' => hy W' (hW.trans hW')) hm hne hS (fun j hj => hl2 k j hj) hes hms)
  have HRS := Lib.hid (fun (x : Nat) (t : Nat) (hq : runU es f s0 t = some x) (h0 : s0 < S) => runU_lt (P := 0) (M := 0) (S := S) (es := es) (f := f) (s0 := s0) (by rw [HLE.out]; exact hes) h0 hq)
  have hs0 : s0 < S := by obtain ⟨x, d, _, _, hh⟩ := h.st; exact hh.2.2
  clear h hE hx hy hl1 hl2 hes hms
  go_enter Try.func50, Try.ntmps50
  go_wp2_with fail
  refine (HR1.out _ ((Below.refl _ _).alloc (Nat.le_refl _) _)).mono ?_
  rintro x w1 ⟨rfl, hw1, hg1⟩
  have p0 : w1.cell? ⟨w.heap.size, 0, none⟩ = some (.slice A n cA) := (hg1.cell_far ⟨w.heap.size, 0, none⟩ (by simp) (by simp; omega)).trans (by rw [box_last]; rfl)
  have p1 : w1.cell? ⟨w.heap.size, 1, none⟩ = some (.slice Bl m dB) := (hg1.cell_far ⟨w.heap.size, 1, none⟩ (by simp) (by simp; omega)).trans (by rw [box_last]; rfl)
  have hz1 : w.heap.size < w1.heap.size := by have := hg1.size; simp at this; omega
  have HB1 := Lib.hid (show Below B w w1 from ((Below.refl _ _).alloc (by omega) _).grown hg1 (by simp; omega) (fun k hk => by cases hk; exact hB))
  have HW1 := Lib.hid hw1
  clear hw1 hg1
  go_wp2_with fail
  have HI0 := Lib.hid (show WalkI es f s0 n m S 0 r lo hi V E ne ce B w.heap.size w1.heap.size w A Bl n cA m dB (.map []) (fun _ => false) (.slice none 0 0) (w1.alloc (.map #[] 0)) from
    ⟨Vis.start es f s0 n m S, World.ownsMap_made (H := Nat) w1 Try.prog 3 (plainElem Try.prog 3),
      by have h1 := HW1.out.below ((Below.refl w1.heap.size w1).alloc (Nat.le_refl _) (.map #[] 0)); unfold turnU; simpa using h1,
      by simpa [turnL] using World.ownsRow_nil (w1.alloc (.map #[] 0)) (w1.heap.size + 1) 3 1,
      (Below.cell ((Below.refl w1.heap.size w1).alloc (Nat.le_refl _) (.map #[] 0)) (p := ⟨w.heap.size, 0, none⟩) hz1).trans p0,
      (Below.cell ((Below.refl w1.heap.size w1).alloc (Nat.le_refl _) (.map #[] 0)) (p := ⟨w.heap.size, 1, none⟩) hz1).trans p1,
      HB1.out.alloc (by have := HB1.out.size; omega) _, ⟨hr, hz1, by simp, hB⟩⟩)
  generalize hmb : w1.heap.size = mb at *
  generalize w1.alloc (.map #[] 0) = W2 at *
  clear hmb p0 p1 hz1 HW1 HB1 HR1
  go_loopg [7] (S + 1) (fun g v wx => ∃ k : Nat, k + g = S + 1 ∧ Hid (∃ D F, WalkI es f s0 n m S k r lo hi V E ne ce B w.heap.size mb w A Bl n cA m dB D F v wx))
  case atStart => exact ⟨0, by omega, _, _, HI0.out⟩
  case round =>
    clear HI0
    obtain ⟨k, hkg, HI⟩ := hrel
    obtain ⟨D, F, hI⟩ := HI.out
    have hkS := hI.vis.few
    cases hq : turnU es f s0 n m k with
    | none =>
      have HF := Lib.hid (show WalkA es f s0 n m S 0 true from .inl ⟨k, hkS, hq, rfl, rfl⟩)
      have HBx := Lib.hid hI.bel
      have hwk := hI.wk
      rw [hq] at hwk
      obtain ⟨x9, d9, s1, s2, s3⟩ := hwk.st
      have hd9 : d9 = true := s3
      subst hd9
      have hrx := hwk.lt
      clear hI HI hq hwk s3
      go_wp2_with fail
      go_ret2
      exact ⟨0, true, rfl, HF.out, HBx.out⟩
    | some s =>
      have hwk := hI.wk
      rw [hq] at hwk
      obtain ⟨x9, d9, s1, s2, s3⟩ := hwk.st
      obtain ⟨rfl, rfl, hsS⟩ : x9 = (s : Int) ∧ d9 = false ∧ s < S := s3
      have hrx := hwk.lt
      have hown := hI.own
      have hwf : (Lit.int .i64 (s : Int)).wf = true := by
        simp only [Lit.wf, Bool.and_eq_true, decide_eq_true_eq]
        show -9223372036854775808 ≤ (s : Int) ∧ (s : Int) ≤ 9223372036854775807
        omega
      have hkey := keyOf_int_mk (P := Try.prog) Try.underlying3 hwf
      have hHas := hI.vis.has s
      obtain ⟨Av, cv, hve, hcv⟩ := own_slice hI.row
      subst hve
      cases hF : F s
      · rw [hF] at hHas
        have hwk2 : (Lit.int .i64 (k : Int)).wf = true := by
          simp only [Lit.wf, Bool.and_eq_true, decide_eq_true_eq]
          show -9223372036854775808 ≤ (k : Int) ∧ (k : Int) ≤ 9223372036854775807
          omega
        have hval := plainElem_int (H := Nat) (P := Try.prog) Try.underlying3 hwk2
        have HII := Lib.hid hI
        have HQ := Lib.hid hq
        have HFF := Lib.hid hF
        have hwb : w.heap.size < wr.heap.size := by have := hI.ord; omega
        have hrm : r < mb := by have := hI.ord; omega
        have hwm : w.heap.size < mb := by have := hI.ord; omega
        have hmw : mb < wr.heap.size := by have := hI.ord; omega
        have q1 := hI.p1
        clear hI HI hq hF hwk
        go_wp2_with (first
          | (at_lookup; refine wpList_lookup_own_ok_int _ rfl _ _ 41 rfl 3 3 .i64 lawInt Try.underlying41 Try.underlying3 (zeroInt _) mb k D rfl hown _ _ rfl hkey ?_; intro cc hat hwc)
          | (at_mapUpdate; refine wpList_mapUpdate_own _ rfl _ _ _ 41 rfl 3 3 lawInt Try.underlying41 _ mb k D rfl hown (by unfold maxLen; omega) _ _ _ rfl rfl hkey _ [] hval ?_; intro w3 hown3 hgrow3
             have q3 : w3.cell? ⟨w.heap.size, 1, none⟩ = some (.slice Bl m dB) := (hgrow3.cell_far ⟨w.heap.size, 1, none⟩ (by simpa using hwb) (by simp; omega)).trans q1
             have hwb3 : w.heap.size < w3.heap.size := Nat.lt_of_lt_of_le hwb hgrow3.size
             have HM3 := Lib.hid hown3
             have HG3 := Lib.hid hgrow3
             have HW3 := Lib.hid (HII.out.wk.kept hgrow3.size (fun j hj => hgrow3.block j (by omega) (by simp; omega)))
             clear hown3 hgrow3 hown q1 s1 s2 hrx hwb hval hHas hat hwc))
        have HB3 := Lib.hid (HII.out.bel.grown HG3.out (by have := HII.out.bel.size; have := HII.out.ord; omega) (fun k hk => by cases hk; have := HII.out.ord; omega))
        refine (HR2.out k w3 HB3.out HW3.out).mono ?_
        rintro x w4 ⟨rfl, hw4, hg4⟩
        have HW4 := Lib.hid (show WkS w4 r lo hi S V E ne ce es (turnU es f s0 n m (k + 1)) by unfold turnU; rw [Nat.succ_mul, ← Nat.add_assoc]; exact hw4)
        have HG4 := Lib.hid hg4
        have hmw4 : mb < w4.heap.size := Nat.lt_of_lt_of_le (Nat.lt_of_lt_of_le hmw HG3.out.size) hg4.size
        have HROW4 := Lib.hid (own_grown (own_grown HII.out.row HG3.out (by omega)) hg4 (by omega))
        have HM4 := Lib.hid (HM3.out.kept hg4 (by simp; omega))
        have HTL := Lib.hid (turnL_succ es f s0 n m k)
        obtain ⟨M, hM⟩ : ∃ M : Int, ((orU es f s0 (n + k * m) m : Nat) : Int) = M := ⟨_, rfl⟩
        rw [hM] at HTL
        rw [hM]
        clear hw4 hg4 hM q3 hwb3
        go_wp2_with (at_builtin; refine wpList_append_ints _ (by rfl) _ _ 22 (by rfl) (mb + 1) 3 i0 _ Try.underlying22 hj hj0 hj1 hj2 rfl (.slice Av k cv) k ((turnL es f s0 n m k).map (Value.int .i64)) (by rfl) (by exact HROW4.out.alloc _) (some ⟨w4.heap.size, 0, none⟩) 1 1 [M] (by rfl) (ints_one w4 M _) (by omega) (by simp; omega) ?_)
        intro v' w5 hown5 hgrow5 _
        obtain ⟨A', c', hve', _⟩ := own_slice hown5
        subst hve'
        have HB5 := Lib.hid (show Below (mb + 1) w4 w5 from ((Below.refl _ _).alloc (by omega) _).trans (below_own (HROW4.out.alloc _) hgrow5 (by simp; omega)))
        have HM5 := Lib.hid ((HM4.out.kept (row := none) (World.grownBy_alloc w4 (.cells #[.int .i64 M] 3) none) (by simp)).kept hgrow5 (row_far (HROW4.out) (by omega)))
        have HO5 := Lib.hid hown5
        clear hown5 hgrow5
        have hrb : r < w.heap.size := HII.out.ord.1
        have hBr : B ≤ r := HII.out.ord.2.2.2
        have HI5 := Lib.hid (show WalkI es f s0 n m S (k + 1) r lo hi V E ne ce B w.heap.size mb w A Bl n cA m dB (D.put (.int .i64 (s : Int)) (.lit (.int .i64 (k : Int)))) (updB F s) (.slice A' (k + 1) c') w5 from
          ⟨HII.out.vis.next HII.out.own.isMap HQ.out hsS HFF.out, HM5.out, HW4.out.kept HB5.out.size (fun j hj => HB5.out.block j (by omega)), by rw [HTL.out, List.map_append]; exact HO5.out,
            (HB5.out.cell (p := ⟨w.heap.size, 0, none⟩) (by show w.heap.size < _; omega)).trans ((HG4.out.cell_far ⟨w.heap.size, 0, none⟩ (by have := HG3.out.size; simp; omega) (by simp; omega)).trans ((HG3.out.cell_far ⟨w.heap.size, 0, none⟩ (by simp; omega) (by simp; omega)).trans HII.out.p0)),
            (HB5.out.cell (p := ⟨w.heap.size, 1, none⟩) (by show w.heap.size < _; omega)).trans ((HG4.out.cell_far ⟨w.heap.size, 1, none⟩ (by have := HG3.out.size; simp; omega) (by simp; omega)).trans ((HG3.out.cell_far ⟨w.heap.size, 1, none⟩ (by simp; omega) (by simp; omega)).trans HII.out.p1)),
            (HB3.out.grown HG4.out (by have := HB3.out.size; have := HII.out.bel.size; omega) (fun k hk => by cases hk; exact hBr)).trans (HB5.out.mono (by omega)), ⟨hrb, hwm, Nat.lt_of_lt_of_le hmw4 HB5.out.size, hBr⟩⟩)
        go_wp2_with fail
        cases gk with
        | zero => have := HI5.out.vis.few; omega
        | succ q =>
          go_roundg q
          case measure => omega
          case rel => exact ⟨k + 1, by omega, _, _, HI5.out⟩
      · rw [hF] at hHas
        obtain ⟨i, hik, hqi, hat0⟩ := hI.vis.at_ s hF (.lit (.int .i64 0))
        have HAT := Lib.hid hat0
        obtain ⟨g, cap, hgv, _, hglt⟩ := hI.row.form (by omega)
        injection hgv with e1 e2 e3
        subst e1 e3
        have hi0 : (0 : Int) ≤ (i : Int) := by omega
        have hi1 : (i : Int) ≤ (k : Int) := by omega
        have hi2 : (k : Int) ≤ (cv : Int) := by omega
        have hi3 : ¬ cv = i := by omega
        have hi4 : i ≤ k := by omega
        have hi5 : i ≤ cv := by omega
        have HII := Lib.hid hI
        have HQ := Lib.hid hq
        clear hI HI hq hF hat0 e2 hwk
        go_wp2_with (at_lookup; refine wpList_lookup_own_ok_int _ rfl _ _ 41 rfl 3 3 .i64 lawInt Try.underlying41 Try.underlying3 (zeroInt _) mb k D rfl hown _ _ rfl hkey ?_; intro cc hat hwc
                     rw [HAT.out] at hat
                     cases hat
                     clear hwc)
        have hints := (Ints.of_own HII.out.row).cut (k := i) (cap := cv) hi4 (by omega)
        rw [if_neg hi3] at hints
        have hints2 : Ints wr (some ⟨g, i, none⟩) (k - i) ((turnL es f s0 n m k).drop i) := by simpa [Addr.add_lit] using hints
        refine (union_run (fun j => orU es f s0 (n + (i + j) * m) m) (some ⟨g, i, none⟩) (k - i) (cv - i) ((turnL es f s0 n m k).drop i) wr hints2 (by omega) (fun j => HOL.out _ _) (fun j hj => by
          rw [List.getD_eq_getElem?_getD, List.getElem?_drop, ← List.getD_eq_getElem?_getD]
          exact turnL_at es f s0 n m (by omega))).mono ?_
        rintro x w9 ⟨rfl, rfl⟩
        have HFIN := Lib.hid (show WalkA es f s0 n m S (orN (fun j => orU es f s0 (n + (i + j) * m) m) (k - i)) false from .inr ⟨i, k, hik, hkS, hqi.trans HQ.out.symm, by rw [hqi]; exact (fun e => by cases e), orN_turns es f s0 n m i (k - i), rfl⟩)
        have HBx := Lib.hid HII.out.bel
        clear hints hints2
        go_wp2_with fail
        go_ret2
        exact ⟨_, false, rfl, HFIN.out, HBx.out⟩

end Go.Proofs.Ytfblnadmbfhjiaa.Wd

namespace Go.Proofs.Ytfblnadmbfhjiaa.Wd
open Go Go.RowKit
set_option linter.unusedVariables false

theorem and_i64 (a b : Nat) (ha : a < 2 ^ 62) (hb : b < 2 ^ 62) : bits .and .i64 (a : Int) (b : Int) = ((a &&& b : Nat) : Int) :=
  (bits_nat .i64 62 (by decide) (fun n h0 h1 => by rw [IntKind.wrap_i64]; omega) a b ha hb).1

/-- Bits that are all among those of a small set are a small number. -/
theorem bits_among {b : Int} {c : Nat} (hr : -9223372036854775808 ≤ b ∧ b < 9223372036854775808) (hc : c < 64) (h : bits .andNot .i64 b (c : Int) = 0) : ∃ n : Nat, b = (n : Int) ∧ n ≤ c ∧ n &&& c = n := by
  have h1 : IntKind.i64.wrap (((BitVec.ofInt 64 b &&& ~~~ BitVec.ofInt 64 (c : Int)).toNat : Nat) : Int) = 0 := h
  generalize hB : BitVec.ofInt 64 b = B at h1
  generalize hC : BitVec.ofInt 64 (c : Int) = C at h1
  have h2 : (B &&& ~~~ C).toNat < 2 ^ 64 := (B &&& ~~~ C).isLt
  rw [IntKind.wrap_i64] at h1
  have h3 : (B &&& ~~~ C).toNat = 0 := by omega
  have h4 : B &&& ~~~ C = 0#64 := BitVec.eq_of_toNat_eq (by simpa using h3)
  have h5 : B &&& C = B := by
    apply BitVec.eq_of_getLsbD_eq
    intro i hi
    have h6 : (B &&& ~~~ C).getLsbD i = false := by rw [h4]; simp
    rw [BitVec.getLsbD_and, BitVec.getLsbD_not] at h6
    rw [BitVec.getLsbD_and]
    cases hb : B.getLsbD i <;> cases hc : C.getLsbD i <;> simp_all
  have h7 : C.toNat = c := by
    rw [← hC, BitVec.ofInt_natCast, BitVec.toNat_ofNat]
    omega
  have h8 : B.toNat &&& c = B.toNat := by rw [← h7, ← BitVec.toNat_and, h5]
  have h9 : B.toNat ≤ c := by rw [← h8]; exact Nat.and_le_right
  have h10 : B.toNat = (b % ((2 ^ 64 : Nat) : Int)).toNat := by rw [← hB, BitVec.toNat_ofInt]
  exact ⟨B.toNat, by omega, h9, h8⟩

/-- A letter in common. -/
theorem common_letter {p c c' b b' : Nat} (hc : c < 2 ^ p) (hc' : c' < 2 ^ p) (hb : b &&& c = b) (hb' : b' &&& c' = b') : (∃ l, l < 2 ^ p ∧ l &&& c = b ∧ l &&& c' = b') ↔ b' &&& c = b &&& c' := by
  constructor
  · rintro ⟨l, _, rfl, rfl⟩
    rw [Nat.and_assoc, Nat.and_assoc, Nat.and_comm c' c]
  · intro h
    have hbl : b < 2 ^ p := by rw [← hb]; exact Nat.and_lt_two_pow _ hc
    have hbl' : b' < 2 ^ p := by rw [← hb']; exact Nat.and_lt_two_pow _ hc'
    have key : ∀ i, (b.testBit i = true → c.testBit i = true) ∧ (b'.testBit i = true → c'.testBit i = true) ∧ ((b'.testBit i && c.testBit i) = (b.testBit i && c'.testBit i)) := by
      intro i
      have h1 := congrArg (fun n => Nat.testBit n i) hb
      have h2 := congrArg (fun n => Nat.testBit n i) hb'
      have h3 := congrArg (fun n => Nat.testBit n i) h
      simp only [Nat.testBit_and] at h1 h2 h3
      refine ⟨fun hx => ?_, fun hx => ?_, h3⟩
      · rw [hx] at h1; simpa using h1
      · rw [hx] at h2; simpa using h2
    refine ⟨b ||| b', Nat.or_lt_two_pow hbl hbl', ?_, ?_⟩
    · apply Nat.eq_of_testBit_eq
      intro i
      obtain ⟨k1, k2, k3⟩ := key i
      rw [Nat.testBit_and, Nat.testBit_or]
      cases h1 : b.testBit i <;> cases h2 : b'.testBit i <;> cases h3 : c.testBit i <;> cases h4 : c'.testBit i <;> simp_all
    · apply Nat.eq_of_testBit_eq
      intro i
      obtain ⟨k1, k2, k3⟩ := key i
      rw [Nat.testBit_and, Nat.testBit_or]
      cases h1 : b.testBit i <;> cases h2 : b'.testBit i <;> cases h3 : c.testBit i <;> cases h4 : c'.testBit i <;> simp_all

theorem fitN_bit (p : Nat) (e : Ed) (j : Nat) : (fitN p e).testBit j = (decide (j < 2 ^ p) && letB (j : Int) e) := setN_bit _ _ _
theorem setsN_bit (p : Nat) (es : List Ed) (k s j : Nat) : (setsN p es k s).testBit j = true ↔ ∃ i, i < k ∧ (es.getD i ed0).f = (s : Int) ∧ (fitN p (es.getD i ed0)).testBit j = true := by
  induction k with
  | zero => simp [setsN]
  | succ k ih =>
    by_cases h : (es.getD k ed0).f = (s : Int)
    · rw [setsN_same h, Nat.testBit_or, Bool.or_eq_true, ih]
      constructor
      · rintro (⟨i, h1, h2, h3⟩ | h1)
        · exact ⟨i, by omega, h2, h3⟩
        · exact ⟨k, by omega, h, h1⟩
      · rintro ⟨i, h1, h2, h3⟩
        by_cases e : i = k
        · subst e; exact .inr h3
        · exact .inl ⟨i, by omega, h2, h3⟩
    · rw [setsN_other h, ih]
      constructor
      · rintro ⟨i, h1, h2, h3⟩
        exact ⟨i, by omega, h2, h3⟩
      · rintro ⟨i, h1, h2, h3⟩
        by_cases e : i = k
        · subst e; exact absurd h2 h
        · exact ⟨i, by omega, h2, h3⟩
theorem and_ne_zero {a b : Nat} : a &&& b ≠ 0 ↔ ∃ j, a.testBit j = true ∧ b.testBit j = true := by
  constructor
  · intro h
    obtain ⟨j, hj⟩ := Nat.exists_testBit_of_ne_zero h
    rw [Nat.testBit_and, Bool.and_eq_true] at hj
    exact ⟨j, hj⟩
  · rintro ⟨j, h1, h2⟩ h
    have h3 : (a &&& b).testBit j = true := by rw [Nat.testBit_and, h1, h2]; rfl
    rw [h, Nat.zero_testBit] at h3
    cases h3
/-- Two edges with a letter in common. -/
def Meet (p : Nat) (e e' : Ed) : Prop := ∃ l : Nat, l < 2 ^ p ∧ letB (l : Int) e = true ∧ letB (l : Int) e' = true
theorem clashB_iff (p : Nat) (es : List Ed) (k : Nat) (hf : ∀ i, i < k → ∃ f : Nat, (es.getD i ed0).f = (f : Int)) : clashB p es k = true ↔ ∃ i j, i < j ∧ j < k ∧ (es.getD i ed0).f = (es.getD j ed0).f ∧ Meet p (es.getD i ed0) (es.getD j ed0) := by
  induction k with
  | zero => simp [clashB]
  | succ k ih =>
    obtain ⟨f, hfk⟩ := hf k (by omega)
    rw [clashB_step hfk, Bool.or_eq_true, ih (fun i hi => hf i (by omega)), decide_eq_true_eq, and_ne_zero]
    constructor
    · rintro (⟨i, j, h1, h2, h3⟩ | ⟨l, h1, h2⟩)
      · exact ⟨i, j, h1, by omega, h3⟩
      · obtain ⟨i, h3, h4, h5⟩ := (setsN_bit p es k f l).1 h1
        rw [fitN_bit, Bool.and_eq_true] at h2 h5
        exact ⟨i, k, h3, by omega, h4.trans hfk.symm, l, of_decide_eq_true h2.1, h5.2, h2.2⟩
    · rintro ⟨i, j, h1, h2, h3, l, h4, h5, h6⟩
      by_cases e : j = k
      · subst e
        refine .inr ⟨l, (setsN_bit p es j f l).2 ⟨i, h1, h3.trans hfk, ?_⟩, ?_⟩
        · rw [fitN_bit, decide_eq_true h4, h5]; rfl
        · rw [fitN_bit, decide_eq_true h4, h6]; rfl
      · exact .inl ⟨i, j, h1, by omega, h3, l, h4, h5, h6⟩
theorem fullB_iff {p S : Nat} (hp : p ≤ 6) (es : List Ed) : fullB p es S = true ↔ ∀ s, s < S → ∀ l : Nat, l < 2 ^ p → ∃ i, i < es.length ∧ (es.getD i ed0).f = (s : Int) ∧ letB (l : Int) (es.getD i ed0) = true := by
  have h0 : ∀ l : Nat, l < 2 ^ p → letB (l : Int) ed0 = true := fun l hl => by
    have h64 := (pow_six hp).2
    have h1 := and_i64 l 0 (by omega) (by omega)
    rw [Nat.and_zero] at h1
    exact decide_eq_true h1
  unfold fullB
  rw [List.all_eq_true]
  constructor
  · intro h s hs l hl
    have h1 := of_decide_eq_true (h s (List.mem_range.2 hs))
    have h2 : (setsN p es es.length s).testBit l = true := by rw [h1, fitN_bit, decide_eq_true hl, h0 l hl]; rfl
    obtain ⟨i, h3, h4, h5⟩ := (setsN_bit p es es.length s l).1 h2
    rw [fitN_bit, Bool.and_eq_true] at h5
    exact ⟨i, h3, h4, h5.2⟩
  · intro h s hs
    apply decide_eq_true
    apply Nat.eq_of_testBit_eq
    intro l
    rw [fitN_bit]
    by_cases hl : l < 2 ^ p
    · rw [decide_eq_true hl, h0 l hl]
      obtain ⟨i, h3, h4, h5⟩ := h s (List.mem_range.1 hs) l hl
      exact (setsN_bit p es es.length s l).2 ⟨i, h3, h4, by rw [fitN_bit, decide_eq_true hl, h5]; rfl⟩
    · rw [decide_eq_false hl, Bool.false_and, Bool.eq_false_iff]
      intro h1
      obtain ⟨i, h3, h4, h5⟩ := (setsN_bit p es es.length s l).1 h1
      rw [fitN_bit, decide_eq_false hl, Bool.false_and] at h5
      cases h5
/-- Two edges of a valid automaton meet if their bits agree where both care. -/
theorem meet_iff {p : Nat} {S : Int} {M : Nat} {e e' : Ed} (hp : p ≤ 6) (h : edB p S M e = true) (h' : edB p S M e' = true) (hr : -9223372036854775808 ≤ e.b ∧ e.b < 9223372036854775808) (hr' : -9223372036854775808 ≤ e'.b ∧ e'.b < 9223372036854775808) :
    Meet p e e' ↔ bits .and .i64 e'.b e.c = bits .and .i64 e.b e'.c := by
  have h64 := (pow_six hp).2
  have hpc : ((2 : Int) ^ p) = ((2 ^ p : Nat) : Int) := by simp
  obtain ⟨_, _, ⟨k1, k2⟩, k3, _⟩ := of_decide_eq_true h
  obtain ⟨_, _, ⟨m1, m2⟩, m3, _⟩ := of_decide_eq_true h'
  obtain ⟨ef, et, ec, eb, em⟩ := e
  obtain ⟨ef', et', ec', eb', em'⟩ := e'
  simp only at k1 k2 k3 m1 m2 m3 hr hr' ⊢
  obtain ⟨c, rfl⟩ := Int.eq_ofNat_of_zero_le k1
  obtain ⟨c', rfl⟩ := Int.eq_ofNat_of_zero_le m1
  rw [hpc] at k2 m2
  obtain ⟨b, rfl, n1, n2⟩ := bits_among hr (by omega) k3
  obtain ⟨b', rfl, n1', n2'⟩ := bits_among hr' (by omega) m3
  rw [and_i64 b' c (by omega) (by omega), and_i64 b c' (by omega) (by omega)]
  have hcl := common_letter (p := p) (c := c) (c' := c') (b := b) (b' := b') (by omega) (by omega) n2 n2'
  have hl : ∀ l : Nat, l < 2 ^ p → ((letB (l : Int) ⟨ef, et, c, b, em⟩ = true ∧ letB (l : Int) ⟨ef', et', c', b', em'⟩ = true) ↔ (l &&& c = b ∧ l &&& c' = b')) := fun l hl => by
    unfold letB
    rw [and_i64 l c (by omega) (by omega), and_i64 l c' (by omega) (by omega), decide_eq_true_eq, decide_eq_true_eq]
    exact and_congr Int.ofNat_inj Int.ofNat_inj
  constructor
  · rintro ⟨l, h1, h2⟩
    exact congrArg (fun n : Nat => (n : Int)) (hcl.1 ⟨l, h1, (hl l h1).1 h2⟩)
  · intro h3
    obtain ⟨l, h1, h2⟩ := hcl.2 (Int.ofNat.inj h3)
    exact ⟨l, h1, (hl l h1).2 h2⟩

end Go.Proofs.Ytfblnadmbfhjiaa.Wd

namespace Go.Proofs.Ytfblnadmbfhjiaa.Wd
open Go.RowKit
set_option linter.unusedVariables false

theorem edge_info : (Try.prog.info? 54).map (fun i => (i.zero, i.size, i.bytes)) = some (some (.agg #[.int .i64 0, .int .i64 0, .int .i64 0, .int .i64 0, .int .i64 0]), 5, 40) := by kernel_rfl

/-- The cells of an edge, and of a list of edges. -/
def edV (e : Ed) : List Value := [.int .i64 e.f, .int .i64 e.t, .int .i64 e.c, .int .i64 e.b, .int .i64 e.m]
def edsV (l : List Ed) : List Value := l.flatMap edV
theorem edsV_cons (e : Ed) (l : List Ed) : edsV (e :: l) = edV e ++ edsV l := rfl
theorem edsV_snoc (l : List Ed) (e : Ed) : edsV (l ++ [e]) = edsV l ++ edV e := by unfold edsV; rw [List.flatMap_append]; simp
theorem edsV_len (l : List Ed) : (edsV l).length = l.length * 5 := by
  induction l with
  | nil => rfl
  | cons e l ih => rw [edsV_cons, List.length_append, ih, List.length_cons]; show 5 + _ = _; omega
theorem edV_at (e : Ed) : (edV e)[0]? = some (.int .i64 e.f) ∧ (edV e)[1]? = some (.int .i64 e.t) ∧ (edV e)[2]? = some (.int .i64 e.c) ∧ (edV e)[3]? = some (.int .i64 e.b) ∧ (edV e)[4]? = some (.int .i64 e.m) := ⟨rfl, rfl, rfl, rfl, rfl⟩
theorem edsV_at (l : List Ed) (u k : Nat) (hu : u < l.length) (hk : k < 5) : (edsV l)[u * 5 + k]? = (edV (l.getD u ed0))[k]? := by
  induction l generalizing u with
  | nil => simp at hu
  | cons e l ih =>
    rw [edsV_cons]
    cases u with
    | zero =>
      rw [List.getElem?_append_left (by show 0 * 5 + k < 5; omega)]
      simp
    | succ u =>
      rw [List.getElem?_append_right (by show 5 ≤ _; omega)]
      show (edsV l)[(u + 1) * 5 + k - 5]? = _
      rw [show (u + 1) * 5 + k - 5 = u * 5 + k by omega, ih u (by simpa using hu)]
      simp

/-- An own row of edges: the cells of the edge u. -/
theorem own_edge {w : World} {B n : Nat} {v : Value} {l : List Ed} (h : w.ownsRow B 54 5 v n (edsV l)) (hn : l.length = n) {u : Nat} (hu : u < n) :
    ∃ g cap, v = .slice (some ⟨g, 0, none⟩) n cap ∧ B ≤ g ∧ g < w.heap.size ∧ w.cell? ⟨g, u * 5, none⟩ = some (.int .i64 (l.getD u ed0).f) ∧ w.cell? ⟨g, u * 5 + 1, none⟩ = some (.int .i64 (l.getD u ed0).t) ∧
      w.cell? ⟨g, u * 5 + 2, none⟩ = some (.int .i64 (l.getD u ed0).c) ∧ w.cell? ⟨g, u * 5 + 3, none⟩ = some (.int .i64 (l.getD u ed0).b) ∧ w.cell? ⟨g, u * 5 + 4, none⟩ = some (.int .i64 (l.getD u ed0).m) := by
  have hc := fun g (hg : v.ownBlock = some g) => h.cells hg
  have hl := h.lt
  rcases h.2 with ⟨rfl, hn0⟩ | ⟨g, cap, cur, rfl, hb, _⟩
  · omega
  · have hg : Value.ownBlock (.slice (some ⟨g, 0, none⟩) n cap) = some g := by simp [Value.ownBlock]
    have key : ∀ k, k < 5 → ∀ x, (edV (l.getD u ed0))[k]? = some x → w.cell? ⟨g, u * 5 + k, none⟩ = some x := fun k hk x hx => by
      have := hc g hg (u * 5 + k) x (by rw [edsV_at l u k (by omega) hk]; exact hx)
      rw [Addr.add_lit] at this
      simpa using this
    obtain ⟨e0, e1, e2, e3, e4⟩ := edV_at (l.getD u ed0)
    exact ⟨g, cap, rfl, hb, (hl g hg).2, key 0 (by omega) _ e0, key 1 (by omega) _ e1, key 2 (by omega) _ e2, key 3 (by omega) _ e3, key 4 (by omega) _ e4⟩
/-- Its length, as a slice. -/
theorem own_edges {w : World} {B n : Nat} {v : Value} {xs : List Value} (h : w.ownsRow B 54 5 v n xs) : ∃ A cap, v = .slice A n cap ∧ n ≤ cap := by
  rcases h.2 with ⟨rfl, hn⟩ | ⟨g, cap, cur, rfl, _, _, hnc, _⟩
  · exact ⟨none, 0, by rw [hn], by omega⟩
  · exact ⟨_, cap, rfl, hnc⟩

/-- append of one edge, as a step of a region that draws its order. -/
theorem step_append_edge {P : Program} (w : World) {ops : Array Oper} {o : Oper} {a : Act} {K : Act → World → Prop} {Q : Exit → Act → World → Prop} {E : Prop} (hgd : o.guard = none) (s x : Operand) (t : TypeId)
    (ho : o.op = .call { callee := .builtin .append, args := #[s, x], argTypes := #[t, t] })
    (base : Nat) (e : TypeId) (i : TypeInfo) (z : Value) (ht : P.underlying t = some (.slice e)) (hi : P.info? e = some i) (hz : i.zero = some z)
    (hsize : i.size = 5) (hby : i.bytes = 40) (hzs : z.cells.size = 5)
    (v : Value) (n : Nat) (xs : List Value) (hs : a.eval s = v) (hown : w.ownsRow base e 5 v n xs)
    (ad : Addr) (c : Nat) (y : Ed) (hx : a.eval x = .slice (some ad) 1 c) (hnews : ∀ j u, (edV y)[j]? = some u → w.cell? (ad.add j) = some u) (hn : n ≤ 1000000) (hbase : base ≤ w.heap.size)
    (h : ∀ v' w', w'.ownsRow base e 5 v' (n + 1) (xs ++ edV y) → w.grownBy w' v.ownBlock → (v'.ownBlock = v.ownBlock ∨ v'.ownBlock = some w.heap.size) → K (a.put o.dst v') w') :
    if Region.wanted o (yielded ops a.tmps) = true then Oper.wp P o a w K Q else E := by
  have hw : Region.wanted o (yielded ops a.tmps) = true := by simp [Region.wanted, hgd]
  rw [if_pos hw]
  obtain ⟨v', w', hrun, h2, h3, _, h4⟩ := run_append_own_at (P := P) w base t o.type e i z 5 40 ht hi hz hsize hby hzs (by omega) v n xs hown ad 1 c (edV y) (by rfl) hnews (by
    intro u hu
    simp only [edV, List.mem_cons, List.not_mem_nil, or_false] at hu
    rcases hu with rfl | rfl | rfl | rfl | rfl <;> rfl) (by unfold maxLen; omega) (by omega) hbase
  unfold Oper.wp execOp
  simp only [ho, resolve, invoke, builtin, Sem.run_bind, Sem.run_pure, Result.andThen_ok, List.map_toArray, List.map_cons, List.map_nil, hs, hx, hrun]
  exact h v' w' h2 h3 h4

/-- S rows of edges, own to the walk, each in a block of its own. -/
structure RowsE (B S : Nat) (w : World) (V : Nat → Value) (L : Nat → List Ed) : Prop where
  own : ∀ s, s < S → w.ownsRow B 54 5 (V s) (L s).length (edsV (L s))
  apt : ∀ s s', s < S → s' < S → s ≠ s' → Apt (V s) (V s')
theorem RowsE.start (B S : Nat) (w : World) : RowsE B S w (fun _ => .slice none 0 0) (fun _ => []) := ⟨fun s _ => World.ownsRow_nil _ _ _ _, fun _ _ _ _ _ => .inl rfl⟩
theorem RowsE.below {B S : Nat} {w w' : World} {V : Nat → Value} {L : Nat → List Ed} (h : RowsE B S w V L) (hb : Below w.heap.size w w') : RowsE B S w' V L := ⟨fun s hs => own_keep (h.own s hs) hb, h.apt⟩
theorem RowsE.put {B S : Nat} {w : World} {V : Nat → Value} {L : Nat → List Ed} (h : RowsE B S w V L) {a : Addr} (ha : a.block < B) (v : Value) : RowsE B S (w.setCell a v) V L := ⟨fun s hs => ownsRow_setCell_below (h.own s hs) ha v, h.apt⟩
theorem RowsE.lists {B S : Nat} {w : World} {V : Nat → Value} {L L' : Nat → List Ed} (h : RowsE B S w V L) (e : ∀ s, s < S → L s = L' s) : RowsE B S w V L' := ⟨fun s hs => by rw [← e s hs]; exact h.own s hs, h.apt⟩
def putE (L : Nat → List Ed) (f : Nat) (l : List Ed) (j : Nat) : List Ed := if j = f then l else L j
theorem RowsE.grow {B S f : Nat} {w w2 : World} {V : Nat → Value} {L : Nat → List Ed} {v v' : Value} {l : List Ed} {x : Ed} (h : RowsE B S w V L) (hf : f < S) (hl : V f = v ∧ L f = l)
    (hown : w2.ownsRow B 54 5 v' (l.length + 1) (edsV l ++ edV x)) (hg : w.grownBy w2 v.ownBlock) (hat : v'.ownBlock = v.ownBlock ∨ v'.ownBlock = some w.heap.size) :
    RowsE B S w2 (putV V f v') (putE L f (l ++ [x])) := by
  obtain ⟨rfl, rfl⟩ := hl
  refine ⟨fun s hs => ?_, fun s s' hs hs' hne => ?_⟩
  · unfold putV putE
    by_cases e : s = f
    · rw [if_pos e, if_pos e, List.length_append, edsV_snoc]; exact hown
    · rw [if_neg e, if_neg e]; exact (apt_grow (h.own s hs) (h.apt s f hs hf e) hg hat).1
  · unfold putV
    by_cases e : s = f
    · rw [if_pos e, if_neg (fun e' => hne (e.trans e'.symm))]
      exact (apt_grow (h.own s' hs') (h.apt s' f hs' hf (fun e' => hne (e.trans e'.symm))) hg hat).2.symm
    · rw [if_neg e]
      by_cases e' : s' = f
      · rw [if_pos e']; exact (apt_grow (h.own s hs) (h.apt s f hs hf e) hg hat).2
      · rw [if_neg e']; exact h.apt s s' hs hs' hne

/-- Of the first k edges those from s. -/
def fromE (es : List Ed) (s k : Nat) : List Ed := ((List.range k).map fun j => es.getD j ed0).filter fun e => decide (e.f = (s : Int))
theorem fromE_yes {es : List Ed} {s k : Nat} (h : (es.getD k ed0).f = (s : Int)) : fromE es s (k + 1) = fromE es s k ++ [es.getD k ed0] := by
  unfold fromE
  rw [List.range_succ, List.map_append, List.filter_append]
  simp only [List.map_cons, List.map_nil, List.filter_cons, List.filter_nil, h, decide_true, if_true]
theorem fromE_no {es : List Ed} {s k : Nat} (h : ¬ (es.getD k ed0).f = (s : Int)) : fromE es s (k + 1) = fromE es s k := by
  unfold fromE
  rw [List.range_succ, List.map_append, List.filter_append]
  simp only [List.map_cons, List.map_nil, List.filter_cons, List.filter_nil, decide_eq_false h, Bool.false_eq_true, if_false, List.append_nil]
theorem fromE_len (es : List Ed) (s k : Nat) : (fromE es s k).length ≤ k := by
  unfold fromE
  exact Nat.le_trans (List.length_filter_le _ _) (by simp)
theorem fromE_mem {es : List Ed} {s k : Nat} {e : Ed} : e ∈ fromE es s k ↔ ∃ i, i < k ∧ es.getD i ed0 = e ∧ e.f = (s : Int) := by
  unfold fromE
  rw [List.mem_filter, List.mem_map]
  constructor
  · rintro ⟨⟨i, h1, h2⟩, h3⟩
    exact ⟨i, List.mem_range.1 h1, h2, of_decide_eq_true h3⟩
  · rintro ⟨i, h1, h2, h3⟩
    exact ⟨⟨i, List.mem_range.2 h1, h2⟩, decide_eq_true h3⟩

end Go.Proofs.Ytfblnadmbfhjiaa.Wd

namespace Go.Proofs.Ytfblnadmbfhjiaa.Wd
open Go.RowKit
set_option linter.unusedVariables false
set_option linter.unusedSimpArgs false

/-- The edge e and a later one e' agree where both care. -/
def HitP (e e' : Ed) : Prop := bits .and .i64 e'.b e.c = bits .and .i64 e.b e'.c
/-- No two of the first k edges do that at one state. -/
def NoHit (es : List Ed) (k : Nat) : Prop := ∀ i j, i < j → j < k → (es.getD i ed0).f = (es.getD j ed0).f → ¬ HitP (es.getD i ed0) (es.getD j ed0)
theorem noHit_zero (es : List Ed) : NoHit es 0 := fun i j h1 h2 => by omega
theorem noHit_step {es : List Ed} {k f : Nat} (h : NoHit es k) (hf : (es.getD k ed0).f = (f : Int)) (hx : ∀ x, x < (fromE es f k).length → ¬ HitP ((fromE es f k).getD x ed0) (es.getD k ed0)) : NoHit es (k + 1) := by
  intro i j h1 h2 h3
  by_cases e : j = k
  · subst e
    have hm : es.getD i ed0 ∈ fromE es f j := fromE_mem.2 ⟨i, h1, rfl, h3.trans hf⟩
    obtain ⟨x, hx1, hx2⟩ := List.getElem_of_mem hm
    have := hx x hx1
    rw [List.getD_eq_getElem?_getD, List.getElem?_eq_getElem hx1, Option.getD_some, hx2] at this
    exact this
  · exact h i j h1 (by omega) h3
theorem hit_found {es : List Ed} {n k f x : Nat} (hk : k < n) (hf : (es.getD k ed0).f = (f : Int)) (hx : x < (fromE es f k).length) (h : HitP ((fromE es f k).getD x ed0) (es.getD k ed0)) : ¬ NoHit es n := by
  intro hn
  have hm : (fromE es f k).getD x ed0 ∈ fromE es f k := by rw [List.getD_eq_getElem?_getD, List.getElem?_eq_getElem hx]; exact List.getElem_mem hx
  obtain ⟨i, h1, h2, h3⟩ := fromE_mem.1 hm
  refine hn i k h1 hk ?_ ?_
  · rw [h2, h3, hf]
  · rw [h2]; exact h

theorem one_edge (w : World) (y : Ed) (t : TypeId) : ∀ j u, (edV y)[j]? = some u → (w.alloc (.cells #[.int .i64 y.f, .int .i64 y.t, .int .i64 y.c, .int .i64 y.b, .int .i64 y.m] t)).drew.cell? ((⟨w.heap.size, 0, none⟩ : Addr).add j) = some u := by
  intro j u hj
  rw [Addr.add_lit]
  show World.cell? (w.alloc _) _ = _
  rw [show 0 + j = j by omega, box_last, ← hj]
  simp [edV]
theorem own_apart5 {w : World} {B e k n g : Nat} {v : Value} {xs : List Value} (h : w.ownsRow B e k v n xs) (hg : w.heap.size ≤ g) : some g ≠ v.ownBlock := by
  intro he
  rcases h.2 with ⟨rfl, _⟩ | ⟨b, cap, cur, rfl, h1, hgg, _⟩
  · cases he
  · cases he
    exact Nat.lt_irrefl _ (Nat.lt_of_lt_of_le (Array.getElem?_eq_some_iff.1 hgg).1 hg)
theorem edges_info : (Try.prog.info? 23).map (fun i => (i.zero, i.size, i.bytes)) = some (some (.slice none 0 0), 1, 24) := by kernel_rfl

set_option maxRecDepth 100000 in
set_option maxHeartbeats 8000000 in
theorem refApart_any (P : Int) (S : Nat) (K M : Int) (A E : Option Addr) (n c ne ce : Nat) (es : List Ed) (w : World) (hE : EdgesAt w E ne es) (hS : S ≤ 3000) (hne : ne ≤ 40000)
    (hfr : ∀ j, j < ne → ∃ f : Nat, (es.getD j ed0).f = (f : Int) ∧ f < S) :
    Calls Try.prog 54 #[.agg #[.int .i64 P, .int .i64 S, .slice A n c, .int .i64 K, .int .i64 M, .slice E ne ce]] w fun e w' => ∃ r, e = .returned (.bool r) ∧ Hid (r = true ↔ NoHit es ne) ∧ Below w.heap.size w w' := by
  obtain ⟨i0, hi, hi0, hi1, hi2⟩ := info_parts edge_info
  have hmk := run_make_row' (P := Try.prog) 111 23 (.slice none 0 0) 24 Try.underlying111 edges_info rfl .i64 .i64 S (by omega) (by omega)
  have HA := Lib.hid hE
  have HFR := Lib.hid hfr
  clear hE hfr
  go_enter Try.func54, Try.ntmps54
  go_wp2_with fail
  obtain ⟨W0, hW0⟩ : ∃ W0, w.alloc (.cells #[.int .i64 P, .int .i64 S, .slice A n c, .int .i64 K, .int .i64 M, .slice E ne ce] 25) = W0 := ⟨_, rfl⟩
  have hz : W0.heap.size = w.heap.size + 1 := by rw [← hW0]; simp
  have HB0 := Lib.hid (show Below w.heap.size w W0 by rw [← hW0]; exact (Below.refl _ _).alloc (Nat.le_refl _) _)
  rw [hW0]
  clear hW0
  obtain ⟨W1, hW1⟩ : ∃ W1, W0.alloc (.cells (madeCells #[.slice none 0 0] S) 23) = W1 := ⟨_, rfl⟩
  have HR0 := Lib.hid (show W1.rowIs (w.heap.size + 1) 23 S (fun _ => .slice none 0 0) by rw [← hW1, ← hz]; exact World.rowIs_made W0 _ S _)
  have HB1 := Lib.hid (show Below (w.heap.size + 1) W0 W1 by rw [← hW1, ← hz]; exact (Below.refl _ _).alloc (Nat.le_refl _) _)
  have hz1 : W1.heap.size = w.heap.size + 2 := by rw [← hW1]; simp [hz]
  rw [hW1]
  clear hW1
  go_loopg [14] ne (fun g i wx => ∃ t : Nat, t + g = ne ∧ i = .int .i64 t ∧ Hid (∃ V, wx.rowIs (w.heap.size + 1) 23 S V ∧ RowsE (w.heap.size + 2) S wx V (fun s => fromE es s t)) ∧ Hid (NoHit es t) ∧ Hid (Below (w.heap.size + 1) W0 wx) ∧ Hid (w.heap.size + 2 ≤ wx.heap.size))
  case atStart => exact ⟨0, by omega, rfl, ⟨_, HR0.out, RowsE.start _ _ _⟩, noHit_zero es, HB1.out, (by show _ ≤ _; omega)⟩
  case round =>
    obtain ⟨t, htg, rfl, HR, HNH, HBx, HZ⟩ := hrel
    have hti : (0 : Int) ≤ (t : Int) := by omega
    have HBw := Lib.hid (HB0.out.trans (HBx.out.mono (by omega)))
    obtain ⟨V, hrow, hrs⟩ := HR.out
    have HROW := Lib.hid hrow
    have HRS := Lib.hid hrs
    have hzw := HZ.out
    clear hrow hrs HR HZ
    cases gk with
    | zero =>
      obtain rfl : ne = t := by omega
      go_wp2_with fail
      go_ret
      first | exact ⟨rfl, ⟨fun _ => HNH.out, fun _ => rfl⟩, HBw.out⟩ | exact ⟨true, rfl, ⟨fun _ => HNH.out, fun _ => rfl⟩, HBw.out⟩
    | succ q =>
      have ht1 : t < ne := by omega
      have hti2 : (t : Int) < (ne : Int) := by omega
      obtain ⟨b, off, rfl, hlt, hcell⟩ := (HA.out.below HBw.out).2 (by omega)
      obtain ⟨c0, c1, c2, c3, c4⟩ := hcell t ht1
      obtain ⟨f, hf, hfS⟩ := HFR.out t ht1
      have HYES := Lib.hid (fromE_yes hf)
      have HNO := Lib.hid (fun s (hs : ¬ s = f) => fromE_no (es := es) (s := s) (k := t) (by rw [hf]; omega))
      have HLN := Lib.hid (fromE_len es f t)
      have HSTEP := Lib.hid (fun h => noHit_step HNH.out hf h)
      have HFOUND := Lib.hid (fun x hx h => hit_found (x := x) ht1 hf hx h)
      generalize es.getD t ed0 = x at *
      obtain ⟨ef, et, ec, eb, em⟩ := x
      simp only at c0 c1 c2 c3 c4 hf
      subst hf
      clear hcell
      have hf0 : (0 : Int) ≤ (f : Int) := by omega
      have hf1 : (f : Int) < (S : Int) := by omega
      obtain ⟨v, hvf, HVF⟩ : ∃ v, V f = v ∧ Hid (V f = v) := ⟨_, rfl, rfl⟩
      have hv : wr.cell? ⟨w.heap.size + 1, f, none⟩ = some v := by rw [← hvf]; exact HROW.out.cell hfS
      have hfz := HROW.out.frozen f
      have ho : wr.ownsRow (w.heap.size + 2) 54 5 v (fromE es f t).length (edsV (fromE es f t)) := by rw [← hvf]; exact HRS.out.own f hfS
      obtain ⟨Av, cv, hve, hcv⟩ := own_edges ho
      clear hvf
      obtain ⟨nv, hnv, HNL⟩ : ∃ nv, (fromE es f t).length = nv ∧ Hid ((fromE es f t).length = nv) := ⟨_, rfl, rfl⟩
      rw [hnv] at hve ho hcv
      subst hve
      have HNV := Lib.hid (show nv ≤ 40000 by have := HLN.out; omega)
      have HO := Lib.hid ho
      have HAP := Lib.hid (own_apart5 ho (Nat.le_refl _))
      have hz0 : w.heap.size + 1 < wr.heap.size := by omega
      have hnv0 : (0 : Int) ≤ (nv : Int) := by omega
      clear hnv ho
      go_wp2_with fail
      obtain ⟨be, hbe⟩ : ∃ be, wr.heap.size = be := ⟨_, rfl⟩
      obtain ⟨We, hWe⟩ : ∃ We, wr.alloc (.cells #[.int .i64 f, .int .i64 et, .int .i64 ec, .int .i64 eb, .int .i64 em] 54) = We := ⟨_, rfl⟩
      have z0 : We.cell? ⟨be, 0, none⟩ = some (.int .i64 f) := by rw [← hWe, ← hbe, box_last]; rfl
      have z1 : We.cell? ⟨be, 1, none⟩ = some (.int .i64 et) := by rw [← hWe, ← hbe, box_last]; rfl
      have z2 : We.cell? ⟨be, 2, none⟩ = some (.int .i64 ec) := by rw [← hWe, ← hbe, box_last]; rfl
      have z3 : We.cell? ⟨be, 3, none⟩ = some (.int .i64 eb) := by rw [← hWe, ← hbe, box_last]; rfl
      have z4 : We.cell? ⟨be, 4, none⟩ = some (.int .i64 em) := by rw [← hWe, ← hbe, box_last]; rfl
      have hbz : We.heap.size = be + 1 := by rw [← hWe, ← hbe]; simp
      have hzb : w.heap.size + 1 < be := by omega
      have HBE := Lib.hid (show Below wr.heap.size wr We by rw [← hWe]; exact (Below.refl _ _).alloc (Nat.le_refl _) _)
      have hve : We.cell? ⟨w.heap.size + 1, f, none⟩ = some (.slice Av nv cv) := (HBE.out.cell (p := ⟨w.heap.size + 1, f, none⟩) hz0).trans hv
      have HFZ := Lib.hid ((HBE.out.frozen (p := ⟨w.heap.size + 1, f, none⟩) hz0).trans hfz)
      have HOE := Lib.hid (own_keep HO.out HBE.out)
      have HRSE := Lib.hid (HRS.out.below HBE.out)
      have HROWE := Lib.hid (HROW.out.of_block (HBE.out.block _ hz0))
      have HBXE := Lib.hid (HBx.out.trans (HBE.out.mono (by omega)))
      rw [hbe] at HAP
      rw [hWe, hbe]
      clear hWe hbe HBE HO HRS HROW HBx HBw hv hfz c0 c1 c2 c3 c4 hlt hz0 hzw
      go_loopg [24] nv (fun g i wx => ∃ u : Nat, u + g = nv ∧ i = .int .i64 u ∧ Hid (∀ x, x < u → ¬ HitP ((fromE es f t).getD x ed0) ⟨f, et, ec, eb, em⟩) ∧ Hid (Below We.heap.size We wx))
      case atStart => exact ⟨0, by omega, rfl, (fun x h => by omega), Below.refl _ _⟩
      case round =>
        obtain ⟨u, hug, rfl, HH, HBi⟩ := hrel
        have hui : (0 : Int) ≤ (u : Int) := by omega
        have hbr : be < wr.heap.size := Nat.lt_of_lt_of_le (by omega) HBi.out.size
        have hz0 : w.heap.size + 1 < wr.heap.size := by omega
        have r0 := (HBi.out.cell (p := ⟨be, 0, none⟩) (by show be < _; omega)).trans z0
        have r1 := (HBi.out.cell (p := ⟨be, 1, none⟩) (by show be < _; omega)).trans z1
        have r2 := (HBi.out.cell (p := ⟨be, 2, none⟩) (by show be < _; omega)).trans z2
        have r3 := (HBi.out.cell (p := ⟨be, 3, none⟩) (by show be < _; omega)).trans z3
        have r4 := (HBi.out.cell (p := ⟨be, 4, none⟩) (by show be < _; omega)).trans z4
        cases gk with
        | zero =>
          obtain rfl : nv = u := by omega
          have HNEXT := Lib.hid (HSTEP.out (by rw [HNL.out]; exact HH.out))
          have hvr := (HBi.out.cell (p := ⟨w.heap.size + 1, f, none⟩) (by show w.heap.size + 1 < _; omega)).trans hve
          have hfr := (HBi.out.frozen (p := ⟨w.heap.size + 1, f, none⟩) (by show w.heap.size + 1 < _; omega)).trans HFZ.out
          have HOR := Lib.hid (own_keep HOE.out HBi.out)
          have HRSR := Lib.hid (HRSE.out.below HBi.out)
          have hzz : w.heap.size + 2 ≤ wr.heap.size := by omega
          have HBA := Lib.hid (show Below wr.heap.size wr (wr.alloc (.cells #[.int .i64 f, .int .i64 et, .int .i64 ec, .int .i64 eb, .int .i64 em] 54)).drew from ((Below.refl _ _).alloc (Nat.le_refl _) _).drew)
          clear z0 z1 z2 z3 z4 hve
          go_wp2_with fail
          refine wp_region_until_drew (st := [12]) (S := fun V => V.cell? ⟨be, 0, none⟩ = some (.int .i64 f) ∧ V.cell? ⟨be, 1, none⟩ = some (.int .i64 et) ∧ V.cell? ⟨be, 2, none⟩ = some (.int .i64 ec) ∧ V.cell? ⟨be, 3, none⟩ = some (.int .i64 eb) ∧ V.cell? ⟨be, 4, none⟩ = some (.int .i64 em) ∧ V.cell? ⟨w.heap.size + 1, f, none⟩ = some (.slice Av nv cv)) (by kernel_rfl) ⟨r0, r1, r2, r3, r4, hvr⟩ (fun hHeld => ?_)
          refine wpAnyU_pure (i := 0) (v := ?vo0) rfl (by kernel_rfl) (by kernel_rfl) (by kernel_rfl) (by kernel_rfl) (fun _ _ _ h => h) (Or.inl ⟨by rfl, fun V _ => ?hyo0⟩) (fun _ => hHeld) ?resto0
          case hyo0 => go_simp; try with_reducible rfl
          try simp only [Act.put, List.getElem_toArray, List.getElem_cons_zero, List.getElem_cons_succ, List.setIfInBounds_toArray, List.set_cons_zero, List.set_cons_succ]
          refine wpAnyU_pure (i := 1) (v := ?vo1) rfl (by kernel_rfl) (by kernel_rfl) (by kernel_rfl) (by kernel_rfl) (fun _ _ _ h => h) (Or.inl ⟨by rfl, fun V _ => ?hyo1⟩) (fun _ => hHeld) ?resto1
          case hyo1 => go_simp; try with_reducible rfl
          try simp only [Act.put, List.getElem_toArray, List.getElem_cons_zero, List.getElem_cons_succ, List.setIfInBounds_toArray, List.set_cons_zero, List.set_cons_succ]
          refine wpAnyU_load (i := 2) (v := ?vo2) rfl (by kernel_rfl) (by kernel_rfl) (by kernel_rfl) (by kernel_rfl) (fun _ _ _ h => h) (Or.inl ⟨by rfl, fun V hSw => ?hyo2⟩) hHeld ?resto2
          case hyo2 => (obtain ⟨hs0, hs1, hs2, hs3, hs4, hs5⟩ := hSw); go_simp; try with_reducible rfl
          try simp only [Act.put, List.getElem_toArray, List.getElem_cons_zero, List.getElem_cons_succ, List.setIfInBounds_toArray, List.set_cons_zero, List.set_cons_succ]
          refine wpAnyU_pure (i := 3) (v := ?vo3) rfl (by kernel_rfl) (by kernel_rfl) (by kernel_rfl) (by kernel_rfl) (fun _ _ _ h => h) (Or.inl ⟨by rfl, fun V _ => ?hyo3⟩) (fun _ => hHeld) ?resto3
          case hyo3 => go_simp; try with_reducible rfl
          try simp only [Act.put, List.getElem_toArray, List.getElem_cons_zero, List.getElem_cons_succ, List.setIfInBounds_toArray, List.set_cons_zero, List.set_cons_succ]
          refine wpAnyU_pure (i := 4) (v := ?vo4) rfl (by kernel_rfl) (by kernel_rfl) (by kernel_rfl) (by kernel_rfl) (fun _ _ _ h => h) (Or.inl ⟨by rfl, fun V _ => ?hyo4⟩) (fun _ => hHeld) ?resto4
          case hyo4 => go_simp; try with_reducible rfl
          try simp only [Act.put, List.getElem_toArray, List.getElem_cons_zero, List.getElem_cons_succ, List.setIfInBounds_toArray, List.set_cons_zero, List.set_cons_succ]
          refine wpAnyU_load (i := 5) (v := ?vo5) rfl (by kernel_rfl) (by kernel_rfl) (by kernel_rfl) (by kernel_rfl) (fun _ _ _ h => h) (Or.inl ⟨by rfl, fun V hSw => ?hyo5⟩) hHeld ?resto5
          case hyo5 => (obtain ⟨hs0, hs1, hs2, hs3, hs4, hs5⟩ := hSw); go_simp; try with_reducible rfl
          try simp only [Act.put, List.getElem_toArray, List.getElem_cons_zero, List.getElem_cons_succ, List.setIfInBounds_toArray, List.set_cons_zero, List.set_cons_succ]
          refine wpAnyU_pure (i := 6) (v := ?vo6) rfl (by kernel_rfl) (by kernel_rfl) (by kernel_rfl) (by kernel_rfl) (fun _ _ _ h => h) (Or.inl ⟨by rfl, fun V _ => ?hyo6⟩) (fun _ => hHeld) ?resto6
          case hyo6 => go_simp; try with_reducible rfl
          try simp only [Act.put, List.getElem_toArray, List.getElem_cons_zero, List.getElem_cons_succ, List.setIfInBounds_toArray, List.set_cons_zero, List.set_cons_succ]
          refine wpAnyU_load (i := 7) (v := ?vo7) rfl (by kernel_rfl) (by kernel_rfl) (by kernel_rfl) (by kernel_rfl) (fun _ _ _ h => h) (Or.inl ⟨by rfl, fun V hSw => ?hyo7⟩) hHeld ?resto7
          case hyo7 => (obtain ⟨hs0, hs1, hs2, hs3, hs4, hs5⟩ := hSw); go_simp; try with_reducible rfl
          try simp only [Act.put, List.getElem_toArray, List.getElem_cons_zero, List.getElem_cons_succ, List.setIfInBounds_toArray, List.set_cons_zero, List.set_cons_succ]
          refine wpAnyU_load (i := 8) (v := ?vo8) rfl (by kernel_rfl) (by kernel_rfl) (by kernel_rfl) (by kernel_rfl) (fun _ _ _ h => h) (Or.inl ⟨by rfl, fun V hSw => ?hyo8⟩) hHeld ?resto8
          case hyo8 => (obtain ⟨hs0, hs1, hs2, hs3, hs4, hs5⟩ := hSw); go_simp; try with_reducible rfl
          try simp only [Act.put, List.getElem_toArray, List.getElem_cons_zero, List.getElem_cons_succ, List.setIfInBounds_toArray, List.set_cons_zero, List.set_cons_succ]
          refine wpAnyU_ready (rs := [9]) (by kernel_rfl) (by simp) (AllU.cons (i := 9) rfl (fun K hK => ?_) AllU.nil)
          simp only [List.getElem_toArray, List.getElem_cons_zero, List.getElem_cons_succ]
          go_simp
          refine hK.out _ _ (fun _ => ⟨(HBA.out.cell (p := ⟨be, 0, none⟩) hbr).trans r0, (HBA.out.cell (p := ⟨be, 1, none⟩) hbr).trans r1, (HBA.out.cell (p := ⟨be, 2, none⟩) hbr).trans r2, (HBA.out.cell (p := ⟨be, 3, none⟩) hbr).trans r3, (HBA.out.cell (p := ⟨be, 4, none⟩) hbr).trans r4, (HBA.out.cell (p := ⟨w.heap.size + 1, f, none⟩) hz0).trans hvr⟩) ?re
          clear hK K
          try simp only [Act.put, List.getElem_toArray, List.getElem_cons_zero, List.getElem_cons_succ, List.setIfInBounds_toArray, List.set_cons_zero, List.set_cons_succ]
          refine wpAnyU_ready (rs := [10]) (by kernel_rfl) (by simp) (AllU.cons (i := 10) rfl (fun K hK => ?_) AllU.nil)
          have hown0 := own_keep HOR.out HBA.out
          have hbase : w.heap.size + 2 ≤ (wr.alloc (.cells #[.int .i64 f, .int .i64 et, .int .i64 ec, .int .i64 eb, .int .i64 em] 54)).drew.heap.size := Nat.le_trans hzz HBA.out.size
          refine step_append_edge _ (by rfl) _ _ _ (by rfl) (w.heap.size + 2) 54 i0 _ Try.underlying23 hi hi0 hi1 hi2 rfl (.slice Av nv cv) nv (edsV (fromE es f t)) (by rfl) (by exact hown0) ⟨wr.heap.size, 0, none⟩ 1 ⟨f, et, ec, eb, em⟩ (by rfl) (by exact one_edge wr ⟨f, et, ec, eb, em⟩ _) (by have := HNV.out; omega) (by exact hbase) ?_
          intro v' w2 hown hgrow hat
          obtain ⟨A', c', hve, hcc⟩ := own_edges hown
          have HRW := Lib.hid ((HRSR.out.below HBA.out).grow (x := ⟨f, et, ec, eb, em⟩) hfS (l := fromE es f t) ⟨HVF.out, rfl⟩ (by rw [HNL.out]; exact hown) hgrow hat)
          rw [hve] at HRW
          rw [hve] at hown hat ⊢
          have hb2 := below_own hown0 hgrow hbase
          have HB2 := Lib.hid hb2
          have hc2 : w2.cell? ⟨w.heap.size + 1, f, none⟩ = some (.slice Av nv cv) := (hb2.cell (p := ⟨w.heap.size + 1, f, none⟩) (by simp)).trans ((HBA.out.cell (p := ⟨w.heap.size + 1, f, none⟩) hz0).trans hvr)
          have hf2 : w2.frozen? ⟨w.heap.size + 1, f, none⟩ = false := (hb2.frozen (p := ⟨w.heap.size + 1, f, none⟩) (by simp)).trans ((HBA.out.frozen (p := ⟨w.heap.size + 1, f, none⟩) hz0).trans hfr)
          have hbs : be < (wr.alloc (.cells #[.int .i64 f, .int .i64 et, .int .i64 ec, .int .i64 eb, .int .i64 em] 54)).drew.heap.size := Nat.lt_of_lt_of_le hbr HBA.out.size
          have s0 : w2.cell? ⟨be, 0, none⟩ = some (.int .i64 f) := (hgrow.cell_far ⟨be, 0, none⟩ hbs HAP.out).trans ((HBA.out.cell (p := ⟨be, 0, none⟩) hbr).trans r0)
          have s1 : w2.cell? ⟨be, 1, none⟩ = some (.int .i64 et) := (hgrow.cell_far ⟨be, 1, none⟩ hbs HAP.out).trans ((HBA.out.cell (p := ⟨be, 1, none⟩) hbr).trans r1)
          have s2 : w2.cell? ⟨be, 2, none⟩ = some (.int .i64 ec) := (hgrow.cell_far ⟨be, 2, none⟩ hbs HAP.out).trans ((HBA.out.cell (p := ⟨be, 2, none⟩) hbr).trans r2)
          have s3 : w2.cell? ⟨be, 3, none⟩ = some (.int .i64 eb) := (hgrow.cell_far ⟨be, 3, none⟩ hbs HAP.out).trans ((HBA.out.cell (p := ⟨be, 3, none⟩) hbr).trans r3)
          have s4 : w2.cell? ⟨be, 4, none⟩ = some (.int .i64 em) := (hgrow.cell_far ⟨be, 4, none⟩ hbs HAP.out).trans ((HBA.out.cell (p := ⟨be, 4, none⟩) hbr).trans r4)
          clear hve hown0 hown hgrow hat hb2 hHeld
          have hHeld := And.intro s0 (And.intro s1 (And.intro s2 (And.intro s3 (And.intro s4 hc2))))
          refine hK.out _ _ (fun _ => hHeld) ?_
          clear hK K
          try simp only [Act.put, List.getElem_toArray, List.getElem_cons_zero, List.getElem_cons_succ, List.setIfInBounds_toArray, List.set_cons_zero, List.set_cons_succ]
          refine wpAnyU_pure (i := 11) (v := ?vq11) rfl (by kernel_rfl) (by kernel_rfl) (by kernel_rfl) (by kernel_rfl) (fun _ _ _ h => h) (Or.inl ⟨by rfl, fun V _ => ?hyq11⟩) (fun _ => hHeld) ?restq11
          case hyq11 => go_simp; try with_reducible rfl
          try simp only [Act.put, List.getElem_toArray, List.getElem_cons_zero, List.getElem_cons_succ, List.setIfInBounds_toArray, List.set_cons_zero, List.set_cons_succ]
          refine wpAnyU_ready (rs := [12]) (by kernel_rfl) (by simp) (AllU.cons (i := 12) rfl (fun K hK => ?_) AllU.nil)
          simp only [List.getElem_toArray, List.getElem_cons_zero, List.getElem_cons_succ]
          go_simp
          refine hK.out _ _ (fun h => by have h2 : false = true := h; cases h2) ?_
          clear hK K
          try simp only [Act.put, List.getElem_toArray, List.getElem_cons_zero, List.getElem_cons_succ, List.setIfInBounds_toArray, List.set_cons_zero, List.set_cons_succ]
          refine wpAnyU_done (by kernel_rfl) ?_ _
          clear hHeld
          go_wp2_with fail
          go_roundg q
          case measure => omega
          case rel =>
            refine ⟨t + 1, by omega, by go_num, ⟨_, ((((HROWE.out.of_block (HBi.out.block _ (by omega))).of_block (HBA.out.block _ hz0)).of_block (HB2.out.block _ (by omega))).set f (.slice A' (nv + 1) c')), ?_⟩, HNEXT, ?_, ?_⟩
            · have h1 := (HRW.out.put (a := ⟨w.heap.size + 1, f, none⟩) (by show w.heap.size + 1 < w.heap.size + 2; omega) (.slice A' (nv + 1) c')).lists (L' := fun s => fromE es s (t + 1)) (fun s hs => by
                show putE _ f _ s = fromE es s (t + 1)
                unfold putE
                by_cases e : s = f
                · subst e; rw [if_pos rfl, HYES.out]
                · rw [if_neg e, HNO.out s e])
              exact h1
            · exact (((HBXE.out.trans (HBi.out.mono (by omega))).trans (HBA.out.mono (by omega))).trans (HB2.out.mono (by omega))).setCell (p := ⟨w.heap.size + 1, f, none⟩) (by simp) _
            · have := Nat.le_trans hbase HB2.out.size
              show _ ≤ _
              simpa using this
        | succ g =>
          have hu1 : u < nv := by omega
          have hui2 : (u : Int) < (nv : Int) := by omega
          have hnv4 := HNV.out
          obtain ⟨gv, cap, hva, hgB, hgl, k0, k1, k2, k3, k4⟩ := own_edge (own_keep HOE.out HBi.out) HNL.out hu1
          injection hva with hva1 hva2 hva3
          subst hva1
          subst hva3
          have HF := Lib.hid (fun h => HFOUND.out u (by rw [HNL.out]; exact hu1) h)
          have HMORE := Lib.hid (fun (hno : ¬ HitP ((fromE es f t).getD u ed0) ⟨f, et, ec, eb, em⟩) => show ∀ x, x < u + 1 → ¬ HitP ((fromE es f t).getD x ed0) ⟨f, et, ec, eb, em⟩ from fun x hx => by
            by_cases e : x = u
            · subst e; exact hno
            · exact HH.out x (by omega))
          generalize (fromE es f t).getD u ed0 = y at *
          obtain ⟨yf, yt, yc, yb, ym⟩ := y
          simp only at k0 k1 k2 k3 k4
          obtain ⟨a1, ha1, HA1⟩ : ∃ a1, bits .and .i64 eb yc = a1 ∧ Hid (bits .and .i64 eb yc = a1) := ⟨_, rfl, rfl⟩
          obtain ⟨a2, ha2, HA2⟩ : ∃ a2, bits .and .i64 yb ec = a2 ∧ Hid (bits .and .i64 yb ec = a2) := ⟨_, rfl, rfl⟩
          have HIT := Lib.hid (show HitP ⟨yf, yt, yc, yb, ym⟩ ⟨f, et, ec, eb, em⟩ ↔ a1 = a2 by unfold HitP; simp only; rw [HA1.out, HA2.out])
          have HBW := Lib.hid (HB0.out.trans ((HBXE.out.trans (HBi.out.mono (by omega))).mono (by omega)))
          clear z0 z1 z2 z3 z4 hve
          by_cases h : a1 = a2
          · have HX := Lib.hid (HF.out (HIT.out.2 h))
            subst h
            go_wp2_with fail
            go_ret
            have HB9 := HBW.out.alloc HBW.out.size (.cells #[.int .i64 yf, .int .i64 yt, .int .i64 yc, .int .i64 yb, .int .i64 ym] 54)
            exact .inl ⟨rfl, HB9⟩
          · have HX := Lib.hid (HMORE.out (fun hh => h (HIT.out.1 hh)))
            have h1 : (a1 == a2) = false := by rw [beq_eq_false_iff_ne]; exact h
            have h2 : decide (a1 = a2) = false := decide_eq_false h
            go_wp2_with fail
            go_roundg g
            case measure => omega
            case rel => exact ⟨u + 1, by omega, by go_num, HX, HBi.out.alloc HBi.out.size _⟩

end Go.Proofs.Ytfblnadmbfhjiaa.Wd

namespace Go.Proofs.Ytfblnadmbfhjiaa.Wd
open Go.RowKit
set_option linter.unusedVariables false

/-- The contract of the reference's Valid. -/
def RefValidOK : Prop := ∀ (P S K M : Int) (A E : Option Addr) (n c ne ce : Nat) (st : List Int) (es : List Ed) (w : World), Ints w A n st → n ≤ 17592186044416 → EdgesAt w E ne es → ne ≤ 17592186044416 →
  Calls Try.prog 19 #[.agg #[.int .i64 P, .int .i64 S, .slice A n c, .int .i64 K, .int .i64 M, .slice E ne ce]] w fun e w' => e = .returned (.bool (autB P S K M st es)) ∧ Below w.heap.size w w'

theorem letter_six (x : Int) (p : Nat) (w : World) (hp : p ≤ 6) : Calls Try.prog 43 #[.int .i64 x, .int .i64 p] w fun e w' => e = .returned (.bool (decide (0 ≤ x ∧ x < 2 ^ p))) ∧ w = w' := by
  obtain ⟨PP, hPP, HPP⟩ : ∃ X : Int, IntKind.i64.wrap ((2 : Int) ^ p) = X ∧ Hid ((2 : Int) ^ p = X) := ⟨_, pow_wrap6 hp, rfl⟩
  rw [HPP.out]
  have hp0 : (0 : Int) ≤ (p : Int) := by omega
  have hp6 : (p : Int) ≤ 6 := by omega
  obtain ⟨d, hd, HD⟩ : ∃ d, decide (0 ≤ x ∧ x < PP) = d ∧ Hid (decide (0 ≤ x ∧ x < PP) = d) := ⟨_, rfl, rfl⟩
  rw [hd]
  clear hd
  have hc : x < 0 ∨ (0 ≤ x ∧ PP ≤ x) ∨ (0 ≤ x ∧ x < PP) := by omega
  rcases hc with h | ⟨h, h2⟩ | ⟨h, h2⟩
  · have HF := Lib.hid (show d = false by rw [← HD.out]; exact decide_eq_false (by omega))
    go_enter Try.func43, Try.ntmps43
    go_wp2_with fail
    go_ret
    exact ⟨ret_bool HF.out.symm, rfl⟩
  · have HF := Lib.hid (show d = false by rw [← HD.out]; exact decide_eq_false (by omega))
    go_enter Try.func43, Try.ntmps43
    go_wp2_with fail
    go_ret
    exact ⟨ret_bool (by rw [HF.out]; exact decide_eq_false (by omega)), rfl⟩
  · have HF := Lib.hid (show d = true by rw [← HD.out]; exact decide_eq_true ⟨h, h2⟩)
    go_enter Try.func43, Try.ntmps43
    go_wp2_with fail
    go_ret
    exact ⟨ret_bool HF.out.symm, rfl⟩

set_option maxRecDepth 100000 in
set_option maxHeartbeats 2000000 in
theorem refStep_bad (hV : RefValidOK) (P S K M s l : Int) (A E : Option Addr) (n c ne ce : Nat) (st : List Int) (es : List Ed) (w : World) (ha : Ints w A n st) (hn : n ≤ 17592186044416) (he : EdgesAt w E ne es) (hne : ne ≤ 17592186044416) (hv : autB P S K M st es = false) :
    Calls Try.prog 17 #[.agg #[.int .i64 P, .int .i64 S, .slice A n c, .int .i64 K, .int .i64 M, .slice E ne ce], .int .i64 s, .int .i64 l] w fun e w' => ResS w w' P S K M st es s l e := by
  have HV := Lib.hid (fun W (hW : Below w.heap.size w W) => hV P S K M A E n c ne ce st es W (ha.below hW) hn (he.below hW) hne)
  have HF := Lib.hid hv
  rw [hv] at HV
  clear hv ha he hV
  go_enter Try.func17, Try.ntmps17
  go_wp2_with fail
  refine (HV.out _ ((Below.refl _ _).alloc (Nat.le_refl _) _)).mono ?_
  rintro r w1 ⟨rfl, hb1⟩
  have HB1 := Lib.hid (boxB hb1)
  clear hb1
  go_wp2_with fail
  go_ret2
  exact ⟨_, [], 1, rfl, World.ownsRow_nil _ _ _ _, .inl ⟨HF.out, rfl, rfl⟩, HB1.out⟩

set_option maxRecDepth 100000 in
set_option maxHeartbeats 4000000 in
theorem refStep_range (hV : RefValidOK) (p : Nat) (S K M s l : Int) (A E : Option Addr) (n c ne ce : Nat) (st : List Int) (es : List Ed) (w : World) (ha : Ints w A n st) (hn : n ≤ 17592186044416) (he : EdgesAt w E ne es) (hne : ne ≤ 17592186044416) (hp : p ≤ 6) (hv : autB p S K M st es = true)
    (hr : ¬ (0 ≤ s ∧ s < S ∧ 0 ≤ l ∧ l < 2 ^ p)) :
    Calls Try.prog 17 #[.agg #[.int .i64 p, .int .i64 S, .slice A n c, .int .i64 K, .int .i64 M, .slice E ne ce], .int .i64 s, .int .i64 l] w fun e w' => ResS w w' p S K M st es s l e := by
  have HV := Lib.hid (fun W (hW : Below w.heap.size w W) => hV p S K M A E n c ne ce st es W (ha.below hW) hn (he.below hW) hne)
  have HF := Lib.hid hv
  have HR := Lib.hid hr
  have HLT := Lib.hid (fun w => letter_six l p w hp)
  have HX := Lib.hid (Box6.new w p S A n c K M E ne ce 25)
  rw [hv] at HV
  obtain ⟨lb, hlb, HLB⟩ : ∃ lb, decide (0 ≤ l ∧ l < 2 ^ p) = lb ∧ Hid (decide (0 ≤ l ∧ l < 2 ^ p) = lb) := ⟨_, rfl, rfl⟩
  rw [hlb] at HLT
  have hcase : s < 0 ∨ (0 ≤ s ∧ S ≤ s) ∨ (0 ≤ s ∧ s < S ∧ lb = false) := by
    rcases Int.lt_or_le s 0 with h | h
    · exact .inl h
    rcases Int.lt_or_le s S with h2 | h2
    · refine .inr (.inr ⟨h, h2, ?_⟩)
      rw [← hlb]
      exact decide_eq_false (fun h3 => hr ⟨h, h2, h3.1, h3.2⟩)
    · exact .inr (.inl ⟨h, h2⟩)
  clear hv ha he hr hlb hV
  rcases hcase with h | ⟨h, h2⟩ | ⟨h, h2, rfl⟩
  · go_enter Try.func17, Try.ntmps17
    go_wp2_with fail
    refine (HV.out _ ((Below.refl _ _).alloc (Nat.le_refl _) _)).mono ?_
    rintro r w1 ⟨rfl, hb1⟩
    obtain ⟨hz, p0, p1, p2, p3, p4, p5⟩ := HX.out.below hb1
    have HB1 := Lib.hid (boxB hb1)
    clear hb1
    go_wp2_with fail
    go_ret2
    exact ⟨_, [], 6, rfl, World.ownsRow_nil _ _ _ _, .inr (.inl ⟨HF.out, HR.out, rfl, rfl⟩), HB1.out⟩
  · go_enter Try.func17, Try.ntmps17
    go_wp2_with fail
    refine (HV.out _ ((Below.refl _ _).alloc (Nat.le_refl _) _)).mono ?_
    rintro r w1 ⟨rfl, hb1⟩
    obtain ⟨hz, p0, p1, p2, p3, p4, p5⟩ := HX.out.below hb1
    have HB1 := Lib.hid (boxB hb1)
    clear hb1
    go_wp2_with fail
    go_ret2
    exact ⟨_, [], 6, rfl, World.ownsRow_nil _ _ _ _, .inr (.inl ⟨HF.out, HR.out, rfl, rfl⟩), HB1.out⟩
  · go_enter Try.func17, Try.ntmps17
    go_wp2_with fail
    refine (HV.out _ ((Below.refl _ _).alloc (Nat.le_refl _) _)).mono ?_
    rintro r w1 ⟨rfl, hb1⟩
    obtain ⟨hz, p0, p1, p2, p3, p4, p5⟩ := HX.out.below hb1
    have HB1 := Lib.hid (boxB hb1)
    clear hb1
    go_wp2_with fail
    refine (HLT.out _).mono ?_
    rintro r w2 ⟨rfl, rfl⟩
    go_wp2_with fail
    go_ret2
    exact ⟨_, [], 6, rfl, World.ownsRow_nil _ _ _ _, .inr (.inl ⟨HF.out, HR.out, rfl, rfl⟩), HB1.out⟩

set_option maxRecDepth 100000 in
set_option maxHeartbeats 4000000 in
theorem refStep_good (hV : RefValidOK) (p : Nat) (S K M s l : Int) (A E : Option Addr) (n c ne ce : Nat) (st : List Int) (es : List Ed) (w : World) (ha : Ints w A n st) (hn : n ≤ 17592186044416) (he : EdgesAt w E ne es) (hne : ne ≤ 40000) (hp : p ≤ 6) (hv : autB p S K M st es = true)
    (hr : 0 ≤ s ∧ s < S ∧ 0 ≤ l ∧ l < 2 ^ p) :
    Calls Try.prog 17 #[.agg #[.int .i64 p, .int .i64 S, .slice A n c, .int .i64 K, .int .i64 M, .slice E ne ce], .int .i64 s, .int .i64 l] w fun e w' => ResS w w' p S K M st es s l e := by
  have HV := Lib.hid (fun W (hW : Below w.heap.size w W) => hV p S K M A E n c ne ce st es W (ha.below hW) hn (he.below hW) (by omega))
  have HOUT := Lib.hid (fun W (hW : Below w.heap.size w W) => refOut_any p S K M s l A E n c ne ce es W (he.below hW) hne)
  have HV2 := Lib.hid hv
  have HR := Lib.hid hr
  have HL := Lib.hid he.1
  have HLT := Lib.hid (fun w => letter_six l p w hp)
  have HX := Lib.hid (Box6.new w p S A n c K M E ne ce 25)
  rw [hv] at HV
  rw [show decide (0 ≤ l ∧ l < 2 ^ p) = true from decide_eq_true hr.2.2] at HLT
  obtain ⟨h, h2, _⟩ := hr
  clear hv ha he hV
  go_enter Try.func17, Try.ntmps17
  go_wp2_with fail
  refine (HV.out _ ((Below.refl _ _).alloc (Nat.le_refl _) _)).mono ?_
  rintro r w1 ⟨rfl, hb1⟩
  obtain ⟨hz, p0, p1, p2, p3, p4, p5⟩ := HX.out.below hb1
  have HB1 := Lib.hid (boxB hb1)
  clear hb1
  go_wp2_with fail
  refine (HLT.out _).mono ?_
  rintro r w2 ⟨rfl, rfl⟩
  go_wp2_with fail
  refine (HOUT.out _ HB1.out).mono ?_
  rintro r w3 ⟨v, rfl, hown, hb3⟩
  have HOWN := Lib.hid hown
  have HB3 := Lib.hid (HB1.out.trans (hb3.mono HB1.out.size))
  clear hown hb3
  go_wp2_with fail
  go_ret2
  refine ⟨_, _, 0, rfl, own_le' HOWN.out HB1.out.size, .inr (.inr ⟨HV2.out, HR.out, ?_, rfl⟩), HB3.out⟩
  rw [HL.out]

theorem refStep_any (hV : RefValidOK) (P S K M s l : Int) (A E : Option Addr) (n c ne ce : Nat) (st : List Int) (es : List Ed) (w : World) (ha : Ints w A n st) (hn : n ≤ 17592186044416) (he : EdgesAt w E ne es) (hne : ne ≤ 17592186044416) :
    Calls Try.prog 17 #[.agg #[.int .i64 P, .int .i64 S, .slice A n c, .int .i64 K, .int .i64 M, .slice E ne ce], .int .i64 s, .int .i64 l] w fun e w' => ResS w w' P S K M st es s l e := by
  cases hv : autB P S K M st es
  · exact refStep_bad hV P S K M s l A E n c ne ce st es w ha hn he hne hv
  · obtain ⟨⟨h1, h2, _⟩, _, _, h4, _⟩ := autB_true hv
    obtain ⟨p, rfl⟩ := Int.eq_ofNat_of_zero_le h1
    have h3 := he.1
    by_cases hr : 0 ≤ s ∧ s < S ∧ 0 ≤ l ∧ l < 2 ^ p
    · exact refStep_good hV p S K M s l A E n c ne ce st es w ha hn he (by omega) (by omega) hv hr
    · exact refStep_range hV p S K M s l A E n c ne ce st es w ha hn he hne (by omega) hv hr

end Go.Proofs.Ytfblnadmbfhjiaa.Wd

namespace Go.Proofs.Ytfblnadmbfhjiaa.Wd
open Go.RowKit
set_option linter.unusedVariables false

/-- All bits are words of 64 bits. -/
def BitsOK (es : List Ed) : Prop := ∀ i, i < es.length → -9223372036854775808 ≤ (es.getD i ed0).b ∧ (es.getD i ed0).b < 9223372036854775808
theorem edge_ok {P M : Nat} {S : Int} {es : List Ed} (h : edgesB P S M es = true) {i : Nat} (hi : i < es.length) : edB P S M (es.getD i ed0) = true := by
  rw [List.getD_eq_getElem?_getD, List.getElem?_eq_getElem hi]
  exact List.all_eq_true.1 h es[i] (List.getElem_mem hi)
/-- The two ways to say that no two edges of a state have a letter in common. -/
theorem apart_clash {p S M : Nat} {es : List Ed} (hp : p ≤ 6) (h : edgesB p S M es = true) (hb : BitsOK es) : NoHit es es.length ↔ clashB p es es.length = false := by
  have hfr := fun i hi => (from_state h i hi).imp fun f hf => hf.1
  rw [← Bool.not_eq_true, clashB_iff p es es.length hfr]
  constructor
  · rintro hn ⟨i, j, h1, h2, h3, h4⟩
    exact hn i j h1 h2 h3 ((meet_iff hp (edge_ok h (by omega)) (edge_ok h h2) (hb i (by omega)) (hb j h2)).1 h4)
  · intro hn i j h1 h2 h3 h4
    exact hn ⟨i, j, h1, h2, h3, (meet_iff hp (edge_ok h (by omega)) (edge_ok h h2) (hb i (by omega)) (hb j h2)).2 h4⟩

set_option maxRecDepth 100000 in
set_option maxHeartbeats 2000000 in
theorem refOne_any (p S : Nat) (K M : Int) (A E : Option Addr) (n c ne ce : Nat) (st : List Int) (es : List Ed) (w : World) (hst : st.length = n) (hE : EdgesAt w E ne es) (hne : ne ≤ 40000) (hp : p ≤ 6) (hS : S ≤ 3000) (hes : edgesB p S M.toNat es = true) (hb : BitsOK es) :
    Calls Try.prog 29 #[.agg #[.int .i64 p, .int .i64 S, .slice A n c, .int .i64 K, .int .i64 M, .slice E ne ce]] w fun e w' => e = .returned (.bool (decide (st.length = 1) && !clashB p es es.length)) ∧ Below w.heap.size w w' := by
  have hL := hE.1
  have HAP := Lib.hid (fun W (hW : Below w.heap.size w W) => refApart_any p S K M A E n c ne ce es W (hE.below hW) hS hne (fun j hj => from_state hes j (by rw [hL]; exact hj)))
  have HCL := Lib.hid (apart_clash hp hes hb)
  rw [hL] at HCL
  rw [hst, hL]
  clear hE hes hb hL hst
  obtain ⟨cl, hcl, HC⟩ : ∃ cl, clashB p es ne = cl ∧ Hid (clashB p es ne = cl) := ⟨_, rfl, rfl⟩
  rw [hcl] at HCL ⊢
  clear hcl
  by_cases h1 : n = 1
  · subst h1
    go_enter Try.func29, Try.ntmps29
    go_wp2_with fail
    refine (HAP.out _ ((Below.refl _ _).alloc (Nat.le_refl _) _)).mono ?_
    rintro e w1 ⟨r, rfl, hr, hb1⟩
    have HB1 := Lib.hid (boxB hb1)
    obtain rfl : r = !cl := by
      have h2 : (r = true) ↔ cl = false := hr.trans HCL.out
      cases r <;> cases cl <;> simp_all
    clear hr hb1 HCL
    go_wp2_with fail
    go_ret
    exact ⟨ret_bool (by simp), HB1.out⟩
  · have h2 : ((n : Int) == 1) = false := by rw [beq_eq_false_iff_ne]; omega
    have h3 : ¬ (n : Int) = 1 := by omega
    have h4 : decide ((n : Int) = 1) = false := decide_eq_false h3
    go_enter Try.func29, Try.ntmps29
    go_wp2_with fail
    go_ret
    exact ⟨ret_bool (by rw [decide_eq_false h1]; rfl), (Below.refl _ _).alloc (Nat.le_refl _) _⟩

set_option maxRecDepth 100000 in
set_option maxHeartbeats 2000000 in
theorem refDet_any (hV : RefValidOK) (P S K M : Int) (A E : Option Addr) (n c ne ce : Nat) (st : List Int) (es : List Ed) (w : World) (ha : Ints w A n st) (hn : n ≤ 17592186044416) (he : EdgesAt w E ne es) (hne : ne ≤ 17592186044416) (hb : BitsOK es) :
    Calls Try.prog 11 #[.agg #[.int .i64 P, .int .i64 S, .slice A n c, .int .i64 K, .int .i64 M, .slice E ne ce]] w fun e w' => ResB (DetR P S K M st es) w w' e := by
  have HV := Lib.hid (fun W (hW : Below w.heap.size w W) => hV P S K M A E n c ne ce st es W (ha.below hW) hn (he.below hW) hne)
  cases hv : autB P S K M st es
  · have HF := Lib.hid hv
    rw [hv] at HV
    clear hv ha he hV hb
    go_enter Try.func11, Try.ntmps11
    go_wp2_with fail
    refine (HV.out _ ((Below.refl _ _).alloc (Nat.le_refl _) _)).mono ?_
    rintro r w1 ⟨rfl, hb1⟩
    have HB1 := Lib.hid (boxB hb1)
    clear hb1
    go_wp2_with fail
    go_ret2
    exact ⟨_, _, rfl, .inl ⟨HF.out, rfl, rfl⟩, HB1.out⟩
  · obtain ⟨⟨h1, h2, h5, h6, _⟩, _, _, h4, h7⟩ := autB_true hv
    obtain ⟨p, rfl⟩ := Int.eq_ofNat_of_zero_le h1
    obtain ⟨s, rfl⟩ := Int.eq_ofNat_of_zero_le h5
    have hL := he.1
    have HO := Lib.hid (fun W (hW : Below w.heap.size w W) => refOne_any p s K M A E n c ne ce st es W ha.1 (he.below hW) (by omega) (by omega) (by omega) h7 hb)
    have HX := Lib.hid (Box6.new w p s A n c K M E ne ce 25)
    have HV2 := Lib.hid hv
    have HR := Lib.hid (show DetR p s K M st es (decide (st.length = 1) && !clashB p es es.length) 0 from .inr ⟨hv, rfl, rfl⟩)
    rw [hv] at HV
    generalize (decide (st.length = 1) && !clashB p es es.length) = rb at *
    clear hv ha he hV hb h1 h2 h4 h5 h6 h7 hL
    go_enter Try.func11, Try.ntmps11
    go_wp2_with fail
    refine (HV.out _ ((Below.refl _ _).alloc (Nat.le_refl _) _)).mono ?_
    rintro r w1 ⟨rfl, hb1⟩
    obtain ⟨hz, p0, p1, p2, p3, p4, p5⟩ := HX.out.below hb1
    have HB1 := Lib.hid (boxB hb1)
    clear hb1
    go_wp2_with fail
    refine (HO.out _ HB1.out).mono ?_
    rintro r w2 ⟨rfl, hb2⟩
    have HB2 := Lib.hid (HB1.out.trans (hb2.mono HB1.out.size))
    clear hb2
    go_wp2_with fail
    go_ret2
    exact ⟨_, _, rfl, HR, HB2.out⟩

end Go.Proofs.Ytfblnadmbfhjiaa.Wd

namespace Go.Proofs.Ytfblnadmbfhjiaa.Wd
open Go.RowKit
set_option linter.unusedVariables false

/-- A list of bools in memory. -/
def BoolsAt (w : World) (A : Option Addr) (n : Nat) (F : Nat → Bool) : Prop := n = 0 ∨ ∃ b, A = some ⟨b, 0, none⟩ ∧ RowF w b n F
theorem BoolsAt.below {w w' : World} {A : Option Addr} {n : Nat} {F : Nat → Bool} (h : BoolsAt w A n F) (hb : Below w.heap.size w w') : BoolsAt w' A n F :=
  h.imp id fun ⟨b, e, hr⟩ => ⟨b, e, World.rowIs.of_block hr (hb.block _ hr.lt)⟩
def boolsB (n m : Nat) (F G : Nat → Bool) : Bool := decide (n = m) && (List.range n).all fun i => F i == G i
theorem boolsB_len {n m : Nat} {F G : Nat → Bool} (h : ¬ n = m) : boolsB n m F G = false := by unfold boolsB; rw [decide_eq_false h]; rfl
theorem boolsB_all {n : Nat} {F G : Nat → Bool} (h : ∀ i, i < n → F i = G i) : boolsB n n F G = true := by
  unfold boolsB
  rw [decide_eq_true rfl, Bool.true_and, List.all_eq_true]
  intro i hi
  rw [h i (List.mem_range.1 hi)]
  simp
theorem boolsB_part {n i : Nat} {F G : Nat → Bool} (hi : i < n) (h : ¬ F i = G i) : boolsB n n F G = false := by
  unfold boolsB
  rw [decide_eq_true rfl, Bool.true_and, Bool.eq_false_iff]
  intro ht
  exact h (by simpa using List.all_eq_true.1 ht i (List.mem_range.2 hi))

set_option maxHeartbeats 2000000 in
theorem bools_any (A B : Option Addr) (n c m d : Nat) (F G : Nat → Bool) (w : World) (h : BoolsAt w A n F) (h' : BoolsAt w B m G) (hn : n ≤ 100000) (hm : m ≤ 100000) :
    Calls Try.prog 20 #[.slice A n c, .slice B m d] w fun e w' => ∃ k : Nat, e = .returned (.bool (boolsB n m F G)) ∧ w' = w.drewN k := by
  by_cases hl : n = m
  · subst hl
    have hnn : ((n : Int) != (n : Int)) = false := by simp
    go_enter Try.func20, Try.ntmps20
    go_wp2_with fail
    go_loopg [13] n (fun g i wx => ∃ j k : Nat, j + g = n ∧ i = .int .i64 j ∧ wx = w.drewN k ∧ Hid (∀ i, i < j → F i = G i))
    case atStart => exact ⟨0, 0, by omega, rfl, rfl, fun i hi => by omega⟩
    case round =>
      obtain ⟨j, k, hjg, rfl, rfl, HI⟩ := hrel
      have hj0 : (0 : Int) ≤ (j : Int) := by omega
      cases gk with
      | zero =>
        obtain rfl : n = j := by omega
        have HF := Lib.hid (boolsB_all HI.out)
        go_wp2_with fail
        go_ret
        exact ⟨_, ret_bool HF.out.symm, rfl⟩
      | succ g =>
        have hjl : j < n := by omega
        have hjl2 : (j : Int) < (n : Int) := by omega
        obtain ⟨bA, rfl, ra⟩ : ∃ b, A = some ⟨b, 0, none⟩ ∧ RowF w b n F := by rcases h with h | h; exact absurd h (by omega); exact h
        obtain ⟨bB, rfl, rb⟩ : ∃ b, B = some ⟨b, 0, none⟩ ∧ RowF w b n G := by rcases h' with h' | h'; exact absurd h' (by omega); exact h'
        have c1 := ra.cell hjl
        have c2 := rb.cell hjl
        clear h h' ra rb
        have HP := Lib.hid (fun e => boolsB_part (F := F) (G := G) hjl e)
        have HQ := Lib.hid (fun (e : F j = G j) => show ∀ i, i < j + 1 → F i = G i from fun i hi => by
          by_cases hij : i = j
          · subst hij; exact e
          · exact HI.out i (by omega))
        generalize F j = va at *
        generalize G j = vb at *
        cases va <;> cases vb
        · have HN := Lib.hid (HQ.out rfl)
          go_wp2_with fail
          go_quiet (fail)
          go_wp2_with fail
          go_roundg g
          case measure => omega
          case rel => exact ⟨j + 1, _, by omega, by go_num, rfl, HN⟩
        · have HN := Lib.hid (HP.out (by decide))
          go_wp2_with fail
          go_quiet (fail)
          go_wp2_with fail
          go_ret
          exact ⟨_, ret_bool HN.out.symm, World.drewN_drewN _ _ _⟩
        · have HN := Lib.hid (HP.out (by decide))
          go_wp2_with fail
          go_quiet (fail)
          go_wp2_with fail
          go_ret
          exact ⟨_, ret_bool HN.out.symm, World.drewN_drewN _ _ _⟩
        · have HN := Lib.hid (HQ.out rfl)
          go_wp2_with fail
          go_quiet (fail)
          go_wp2_with fail
          go_roundg g
          case measure => omega
          case rel => exact ⟨j + 1, _, by omega, by go_num, rfl, HN⟩
  · have hnn : ((n : Int) != (m : Int)) = true := by simp; omega
    have HF := Lib.hid (boolsB_len (F := F) (G := G) hl)
    go_enter Try.func20, Try.ntmps20
    go_wp2_with fail
    go_ret
    exact ⟨0, ret_bool HF.out.symm, rfl⟩

end Go.Proofs.Ytfblnadmbfhjiaa.Wd

namespace Go.Proofs.Ytfblnadmbfhjiaa.Wd
open Go.RowKit
set_option linter.unusedVariables false

/-- The Start states of a valid automaton are states. -/
theorem start_state {S : Nat} {st : List Int} (h : startB S st = true) : ∀ j, j < st.length → ∃ s : Nat, st.getD j 0 = (s : Int) ∧ s < S := by
  intro j hj
  have h1 := List.all_eq_true.1 h j (List.mem_range.2 hj)
  have h2 := of_decide_eq_true h1
  have h3 : -1 ≤ prv st j := by
    have key : ∀ k, k ≤ st.length → startP S st k = true := fun k hk => by
      unfold startP
      rw [List.all_eq_true]
      intro i hi
      exact List.all_eq_true.1 h i (List.mem_range.2 (by have := List.mem_range.1 hi; omega))
    exact prv_low (key j (by omega))
  exact ⟨(st.getD j 0).toNat, by omega, by omega⟩
/-- Both ends of a valid automaton's edges are states. -/
theorem ends_state {P M S : Nat} {es : List Ed} (h : edgesB P S M es = true) : ∀ j, j < es.length → ∃ a b : Nat, (es.getD j ed0).f = (a : Int) ∧ (es.getD j ed0).t = (b : Int) ∧ a < S ∧ b < S := by
  intro j hj
  have h1 := of_decide_eq_true (edge_ok h hj)
  exact ⟨(es.getD j ed0).f.toNat, (es.getD j ed0).t.toNat, by omega, by omega, by omega, by omega⟩

/-- What Reach comes to. -/
def ReaR (P S K M : Int) (st : List Int) (es : List Ed) (n : Nat) (F : Nat → Bool) (code : Int) : Prop :=
  (autB P S K M st es = false ∧ n = 0 ∧ code = 1) ∨ (autB P S K M st es = true ∧ n = S.toNat ∧ (∀ i, i < n → (F i = true ↔ Rch st es i)) ∧ code = 0)
theorem ReaR.unique {P S K M : Int} {st : List Int} {es : List Ed} {n n' : Nat} {F F' : Nat → Bool} {c c' : Int} (h : ReaR P S K M st es n F c) (h' : ReaR P S K M st es n' F' c') : boolsB n n' F F' = true ∧ c = c' := by
  rcases h with ⟨a1, rfl, rfl⟩ | ⟨a1, rfl, a2, rfl⟩ <;> rcases h' with ⟨b1, rfl, rfl⟩ | ⟨b1, rfl, b2, rfl⟩
  · exact ⟨boolsB_all (fun i hi => by omega), rfl⟩
  · rw [a1] at b1; cases b1
  · rw [a1] at b1; cases b1
  · refine ⟨boolsB_all (fun i hi => ?_), rfl⟩
    have h1 := (a2 i hi).trans (b2 i hi).symm
    cases hF : F i <;> cases hF' : F' i <;> simp_all
def ResF5 (w w' : World) (P S K M : Int) (st : List Int) (es : List Ed) (e : Ending) : Prop :=
  ∃ A n c F code, e = .returned (.tuple #[.slice A n c, .int .i64 code]) ∧ BoolsAt w' A n F ∧ n ≤ 3000 ∧ Hid (ReaR P S K M st es n F code) ∧ Below w.heap.size w w'

set_option maxRecDepth 100000 in
set_option maxHeartbeats 2000000 in
theorem refReach_any (hV : RefValidOK) (P S K M : Int) (A E : Option Addr) (n c ne ce : Nat) (st : List Int) (es : List Ed) (w : World) (ha : Ints w A n st) (hn : n ≤ 17592186044416) (he : EdgesAt w E ne es) (hne : ne ≤ 17592186044416) :
    Calls Try.prog 15 #[.agg #[.int .i64 P, .int .i64 S, .slice A n c, .int .i64 K, .int .i64 M, .slice E ne ce]] w fun e w' => ResF5 w w' P S K M st es e := by
  have HV := Lib.hid (fun W (hW : Below w.heap.size w W) => hV P S K M A E n c ne ce st es W (ha.below hW) hn (he.below hW) hne)
  cases hv : autB P S K M st es
  · have HF := Lib.hid hv
    rw [hv] at HV
    clear hv ha he hV
    go_enter Try.func15, Try.ntmps15
    go_wp2_with fail
    refine (HV.out _ ((Below.refl _ _).alloc (Nat.le_refl _) _)).mono ?_
    rintro r w1 ⟨rfl, hb1⟩
    have HB1 := Lib.hid (boxB hb1)
    clear hb1
    go_wp2_with fail
    go_ret2
    exact ⟨none, 0, 0, fun _ => false, 1, rfl, .inl rfl, by omega, .inl ⟨HF.out, rfl, rfl⟩, HB1.out⟩
  · obtain ⟨⟨h1, h2, h5, h6, _⟩, _, hs, h4, h7⟩ := autB_true hv
    obtain ⟨s, rfl⟩ := Int.eq_ofNat_of_zero_le h5
    have hL := he.1
    have hL2 := ha.1
    have HO := Lib.hid (fun W (hW : Below w.heap.size w W) => refReached_any P s K M A E n c ne ce st es W (ha.below hW) hn (he.below hW) (by omega) (by omega) (fun j hj => start_state hs j (by rw [hL2]; exact hj)) (fun j hj => ends_state h7 j (by rw [hL]; exact hj)))
    have HX := Lib.hid (Box6.new w P s A n c K M E ne ce 25)
    have HV2 := Lib.hid hv
    have hs3 : s ≤ 3000 := by omega
    rw [hv] at HV
    clear hv ha he hV h1 h2 h4 h5 h6 h7 hL hL2 hs
    go_enter Try.func15, Try.ntmps15
    go_wp2_with fail
    refine (HV.out _ ((Below.refl _ _).alloc (Nat.le_refl _) _)).mono ?_
    rintro r w1 ⟨rfl, hb1⟩
    obtain ⟨hz, p0, p1, p2, p3, p4, p5⟩ := HX.out.below hb1
    have HB1 := Lib.hid (boxB hb1)
    clear hb1
    go_wp2_with fail
    refine (HO.out _ HB1.out).mono ?_
    rintro r w2 ⟨b, F, rfl, hrow, hF, _, hb2⟩
    have HROW := Lib.hid hrow
    have HFF := Lib.hid hF
    have HB2 := Lib.hid (HB1.out.trans (hb2.mono HB1.out.size))
    clear hb2 hrow hF
    go_wp2_with fail
    go_ret2
    exact ⟨_, _, _, F, _, rfl, .inr ⟨b, rfl, HROW.out⟩, hs3, .inr ⟨HV2.out, by simp, fun i _ => HFF.out i, rfl⟩, HB2.out⟩

end Go.Proofs.Ytfblnadmbfhjiaa.Wd

namespace Go.Proofs.Ytfblnadmbfhjiaa.Wd
open Go.RowKit Go.Maps
set_option linter.unusedVariables false
set_option linter.unusedSimpArgs false

/-- Is the automaton deterministic? -/
def detB (P : Int) (st : List Int) (es : List Ed) : Bool := decide (st.length = 1) && !clashB P.toNat es es.length
/-- What Walk comes to, where the run comes to Wk. -/
def WalR (P S K M : Int) (st : List Int) (es : List Ed) (sl lp : List Int) (Wk : Nat → Bool → Prop) (x : Int) (d : Bool) (code : Int) : Prop :=
  (autB P S K M st es = false ∧ x = 0 ∧ d = false ∧ code = 1) ∨
  (autB P S K M st es = true ∧ detB P st es = false ∧ x = 0 ∧ d = false ∧ code = 7) ∨
  (autB P S K M st es = true ∧ detB P st es = true ∧ validB P sl lp = false ∧ x = 0 ∧ d = false ∧ code = 2) ∨
  (autB P S K M st es = true ∧ detB P st es = true ∧ validB P sl lp = true ∧ (∃ xn : Nat, x = (xn : Int) ∧ Wk xn d) ∧ code = 0)
theorem WalR.unique {P S K M : Int} {st : List Int} {es : List Ed} {sl lp : List Int} {Wk Wk' : Nat → Bool → Prop} {x x' : Int} {d d' : Bool} {c c' : Int} (hw : validB P sl lp = true → ∀ x x' d d', Wk x d → Wk' x' d' → x = x' ∧ d = d') (h : WalR P S K M st es sl lp Wk x d c) (h' : WalR P S K M st es sl lp Wk' x' d' c') : x = x' ∧ d = d' ∧ c = c' := by
  rcases h with ⟨a1, rfl, rfl, rfl⟩ | ⟨a1, a2, rfl, rfl, rfl⟩ | ⟨a1, a2, a3, rfl, rfl, rfl⟩ | ⟨a1, a2, a3, ⟨xn, rfl, hx⟩, rfl⟩ <;> rcases h' with ⟨b1, rfl, rfl, rfl⟩ | ⟨b1, b2, rfl, rfl, rfl⟩ | ⟨b1, b2, b3, rfl, rfl, rfl⟩ | ⟨b1, b2, b3, ⟨yn, rfl, hy⟩, rfl⟩
  all_goals first
    | exact ⟨rfl, rfl, rfl⟩
    | (rw [a1] at b1; cases b1; done)
    | (rw [a2] at b2; cases b2; done)
    | (rw [a3] at b3; cases b3; done)
    | (obtain ⟨rfl, rfl⟩ := hw a3 _ _ _ _ hx hy; exact ⟨rfl, rfl, rfl⟩)
def ResW (R : Int → Bool → Int → Prop) (w w' : World) (e : Ending) : Prop := ∃ x d code, e = .returned (.tuple #[.int .i64 x, .bool d, .int .i64 code]) ∧ Hid (R x d code) ∧ Below w.heap.size w w'
theorem DetR.bad {P S K M : Int} {st : List Int} {es : List Ed} {r : Bool} {c : Int} (h : DetR P S K M st es r c) (hv : autB P S K M st es = false) : r = false ∧ c = 1 := by
  rcases h with ⟨_, rfl, rfl⟩ | ⟨h1, _⟩
  · exact ⟨rfl, rfl⟩
  · rw [hv] at h1; cases h1
theorem DetR.good {P S K M : Int} {st : List Int} {es : List Ed} {r : Bool} {c : Int} (h : DetR P S K M st es r c) (hv : autB P S K M st es = true) : r = detB P st es ∧ c = 0 := by
  rcases h with ⟨h1, _⟩ | ⟨_, rfl, rfl⟩
  · rw [hv] at h1; cases h1
  · exact ⟨rfl, rfl⟩

theorem marks_small {P S K M : Int} {es : List Ed} (hmk : marksB K M = true) (h : edgesB P.toNat S M.toNat es = true) {j : Nat} (hj : j < es.length) : 0 ≤ (es.getD j ed0).m ∧ (es.getD j ed0).m < 2 ^ 40 := by
  have h1 := of_decide_eq_true (edge_ok h hj)
  have h2 := marksB_few hmk
  obtain ⟨m, rfl⟩ := Int.eq_ofNat_of_zero_le h2.1
  rw [Int.toNat_natCast] at h1
  have h3 : (2 : Int) ^ m ≤ 2 ^ 40 := by
    have h4 : 2 ^ m ≤ 2 ^ 40 := Nat.pow_le_pow_right (by decide) (show m ≤ 40 by omega)
    have h5 : ((2 ^ m : Nat) : Int) ≤ ((2 ^ 40 : Nat) : Int) := Int.ofNat_le.2 h4
    simpa using h5
  exact ⟨h1.2.2.2.2.1, by have := h1.2.2.2.2.2; omega⟩

/-- The box of a word. -/
def Box2 (w : World) (b : Nat) (A : Option Addr) (n c : Nat) (B : Option Addr) (m d : Nat) : Prop := b < w.heap.size ∧ w.cell? ⟨b, 0, none⟩ = some (.slice A n c) ∧ w.cell? ⟨b, 1, none⟩ = some (.slice B m d)
theorem Box2.below {w w' : World} {b : Nat} {A : Option Addr} {n c : Nat} {B : Option Addr} {m d : Nat} (h : Box2 w b A n c B m d) (hb : Below w.heap.size w w') : Box2 w' b A n c B m d :=
  ⟨Nat.lt_of_lt_of_le h.1 hb.size, (hb.cell (p := ⟨b, 0, none⟩) h.1).trans h.2.1, (hb.cell (p := ⟨b, 1, none⟩) h.1).trans h.2.2⟩
theorem Box2.new (w : World) (A : Option Addr) (n c : Nat) (B : Option Addr) (m d : Nat) (t : TypeId) : Box2 (w.alloc (.cells #[.slice A n c, .slice B m d] t)) w.heap.size A n c B m d := ⟨by simp, by rw [box_last]; rfl, by rw [box_last]; rfl⟩
/-- Both boxes. -/
theorem boxes62 (w : World) (P S : Int) (A : Option Addr) (n c : Nat) (K M : Int) (E : Option Addr) (ne ce : Nat) (A' : Option Addr) (n' c' : Nat) (B' : Option Addr) (m' d' : Nat) :
    Below w.heap.size w ((w.alloc (.cells #[.int .i64 P, .int .i64 S, .slice A n c, .int .i64 K, .int .i64 M, .slice E ne ce] 25)).alloc (.cells #[.slice A' n' c', .slice B' m' d'] 45)) ∧
    Box6 ((w.alloc (.cells #[.int .i64 P, .int .i64 S, .slice A n c, .int .i64 K, .int .i64 M, .slice E ne ce] 25)).alloc (.cells #[.slice A' n' c', .slice B' m' d'] 45)) w.heap.size P S A n c K M E ne ce ∧
    Box2 ((w.alloc (.cells #[.int .i64 P, .int .i64 S, .slice A n c, .int .i64 K, .int .i64 M, .slice E ne ce] 25)).alloc (.cells #[.slice A' n' c', .slice B' m' d'] 45)) (w.heap.size + 1) A' n' c' B' m' d' := by
  have h2 := Box2.new (w.alloc (.cells #[.int .i64 P, .int .i64 S, .slice A n c, .int .i64 K, .int .i64 M, .slice E ne ce] 25)) A' n' c' B' m' d' 45
  rw [World.size_alloc] at h2
  exact ⟨((Below.refl _ _).alloc (Nat.le_refl _) _).alloc (by simp) _, (Box6.new w P S A n c K M E ne ce 25).below ((Below.refl _ _).alloc (Nat.le_refl _) _), h2⟩

set_option maxRecDepth 100000 in
set_option maxHeartbeats 4000000 in
theorem walk_bad (P S K M : Int) (A E : Option Addr) (n c ne ce : Nat) (st : List Int) (es : List Ed) (A' B' : Option Addr) (n' c' m' d' : Nat) (sl lp : List Int) (Wk : Nat → Bool → Prop) (w : World) (ha : Ints w A n st) (hn : n ≤ 17592186044416) (he : EdgesAt w E ne es) (hne : ne ≤ 17592186044416)
    (hb : autB P S K M st es = false ∨ (autB P S K M st es = true ∧ detB P st es = false)) :
    Calls Try.prog 25 #[.agg #[.int .i64 P, .int .i64 S, .slice A n c, .int .i64 K, .int .i64 M, .slice E ne ce], .agg #[.slice A' n' c', .slice B' m' d']] w fun e w' => ResW (WalR P S K M st es sl lp Wk) w w' e := by
  have HD := Lib.hid (fun W (hW : Below w.heap.size w W) => det_any P S K M A E n c ne ce st es W (ha.below hW) hn (he.below hW) hne)
  obtain ⟨hB0, hx6, hx2⟩ := boxes62 w P S A n c K M E ne ce A' n' c' B' m' d'
  have HB0 := Lib.hid hB0
  have HBAD := Lib.hid hb
  clear ha he hb hB0 hx6 hx2
  go_enter Try.func25, Try.ntmps25
  go_wp2_with fail
  refine (HD.out _ HB0.out).mono ?_
  rintro x w1 ⟨r, code, rfl, hR, hb1⟩
  have HB1 := Lib.hid (HB0.out.trans (hb1.mono HB0.out.size))
  clear hb1
  rcases HBAD.out with hv | ⟨hv, hd⟩
  · obtain ⟨rfl, rfl⟩ := hR.out.bad hv
    have HF := Lib.hid (show WalR P S K M st es sl lp Wk 0 false 1 from .inl ⟨hv, rfl, rfl, rfl⟩)
    clear hv
    go_wp2_with fail
    go_ret3
    exact ⟨0, false, 1, rfl, HF, HB1.out⟩
  · obtain ⟨hr, rfl⟩ := hR.out.good hv
    rw [hd] at hr
    subst hr
    have HF := Lib.hid (show WalR P S K M st es sl lp Wk 0 false 7 from .inr (.inl ⟨hv, hd, rfl, rfl, rfl⟩))
    clear hv hd
    go_wp2_with fail
    go_ret3
    exact ⟨0, false, 7, rfl, HF, HB1.out⟩

set_option maxRecDepth 100000 in
set_option maxHeartbeats 8000000 in
theorem walk_good (p S : Nat) (K M : Int) (A E : Option Addr) (n c ne ce : Nat) (st : List Int) (es : List Ed) (A' B' : Option Addr) (n' c' m' d' : Nat) (sl lp : List Int) (w : World) (ha : Ints w A n st) (hn : n ≤ 17592186044416) (he : EdgesAt w E ne es) (hne : ne ≤ 17592186044416) (hx : Ints w A' n' sl) (hy : Ints w B' m' lp) (hn' : n' ≤ 100000) (hm' : m' ≤ 100000)
    (hv : autB p S K M st es = true) (hd : detB p st es = true) :
    Calls Try.prog 25 #[.agg #[.int .i64 p, .int .i64 S, .slice A n c, .int .i64 K, .int .i64 M, .slice E ne ce], .agg #[.slice A' n' c', .slice B' m' d']] w fun e w' => ResW (WalR p S K M st es sl lp (WalkA es (at_ sl lp) (st.getD 0 0).toNat n' m' S)) w w' e := by
  obtain ⟨⟨_, _, _, hS3, _⟩, hmk, hst, hes4, h7⟩ := autB_true hv
  have hne4 : ne ≤ 40000 := by rw [← he.1]; exact hes4
  have hd1 : st.length = 1 := by unfold detB at hd; rw [Bool.and_eq_true] at hd; exact of_decide_eq_true hd.1
  obtain rfl : n = 1 := by rw [← ha.1]; exact hd1
  obtain ⟨s0, hs0, hs0S⟩ := start_state hst 0 (by omega)
  have hends := fun j (hj : j < ne) => ends_state h7 j (by rw [he.1]; exact hj)
  have hmarks := fun j (hj : j < ne) => marks_small hmk h7 (by rw [he.1]; exact hj)
  have e0 : (st.getD 0 0).toNat = s0 := by omega
  rw [e0]
  have HD := Lib.hid (fun W (hW : Below w.heap.size w W) => det_any p S K M A E 1 c ne ce st es W (ha.below hW) hn (he.below hW) hne)
  have HV := Lib.hid (fun W (hW : Below w.heap.size w W) => valid_any A' B' n' c' m' d' p sl lp W (hx.below hW) (hy.below hW) hn' hm')
  have HNW := Lib.hid (fun W (hW : Below w.heap.size w W) => newWalker_any p S K M A E c ne ce st es s0 W (ha.below hW) hs0 hs0S (he.below hW) (by omega) hne4 (fun j hj => (hends j hj).imp fun a h => ⟨h.choose_spec.1, h.choose_spec.2.2.1⟩))
  have HWK := Lib.hid (fun W0 (h0 : Below w.heap.size w W0) W (hW : Below W0.heap.size W0 W) r lo hi V (hk : WkS W r lo hi S V E ne ce es (some s0)) (hr : W0.heap.size ≤ r) (hl2 : ∀ k j, j < m' → at_ sl lp (n' + k * m' + j) = lp.getD j 0) => walk_run (at_ sl lp) s0 r lo hi S V E ne ce es A' B' n' c' m' d' sl lp W0.heap.size W hk hr (fun W' h => (he.below h0).below (hW.trans h)) (fun W' h => (hx.below h0).below (hW.trans h)) (fun W' h => (hy.below h0).below (hW.trans h)) hn' hm' hne4 (by omega) (fun j hj => by rw [Nat.zero_add]; exact at_lt (by rw [hx.1]; exact hj)) hl2 hends hmarks)
  have HL2 := Lib.hid (show validB p sl lp = true → ∀ k j, j < m' → at_ sl lp (n' + k * m' + j) = lp.getD j 0 from fun hvb k j hj => by
    have h1 := hx.1
    have h2 := hy.1
    rw [at_ge (by omega), h1, h2, show n' + k * m' + j - n' = j + m' * k by rw [Nat.mul_comm m' k]; omega, Nat.add_mul_mod_self_left, Nat.mod_eq_of_lt hj])
  obtain ⟨hB0, hx6, hx2⟩ := boxes62 w p S A 1 c K M E ne ce A' n' c' B' m' d'
  have HB0 := Lib.hid hB0
  have HX6 := Lib.hid hx6
  have HX2 := Lib.hid hx2
  have HVV := Lib.hid hv
  have HDD := Lib.hid hd
  clear ha he hx hy hv hd hB0 hx6 hx2 hmk hst hes4 h7 hends hmarks hs0 e0 hd1
  cases hvb : validB p sl lp
  all_goals
    rw [hvb] at HV
    have HVB := Lib.hid hvb
    clear hvb
    go_enter Try.func25, Try.ntmps25
    go_wp2_with fail
    refine (HD.out _ HB0.out).mono ?_
    rintro x w1 ⟨r, code, rfl, hR, hb1⟩
    have HB1 := Lib.hid (HB0.out.trans (hb1.mono HB0.out.size))
    have HX61 := Lib.hid (HX6.out.below hb1)
    have HX21 := Lib.hid (HX2.out.below hb1)
    obtain ⟨hr, rfl⟩ := hR.out.good HVV.out
    rw [HDD.out] at hr
    subst hr
    obtain ⟨hz, p0, p1, p2, p3, p4, p5⟩ := HX61.out
    obtain ⟨hz2, r0, r1⟩ := HX21.out
    clear hb1 hR HD HX6 HX2 HB0
    go_wp2_with fail
    refine (HV.out _ HB1.out).mono ?_
    rintro x w2 ⟨rfl, hb2⟩
    have HB2 := Lib.hid (HB1.out.trans (hb2.mono HB1.out.size))
    have HX62 := Lib.hid (HX61.out.below hb2)
    have HX22 := Lib.hid (HX21.out.below hb2)
    clear hb2 hz p0 p1 p2 p3 p4 p5 hz2 r0 r1 HX61 HX21 HB1 HV
    go_wp2_with fail
  · go_ret3
    exact ⟨0, false, 2, rfl, .inr (.inr (.inl ⟨HVV.out, HDD.out, HVB.out, rfl, rfl, rfl⟩)), HB2.out⟩
  · have HL3 := Lib.hid (HL2.out HVB.out)
    have HS := Lib.hid (show ∀ V, Below w2.heap.size w2 V → (V.cell? ⟨w.heap.size, 0, none⟩ = some (.int .i64 p) ∧ V.cell? ⟨w.heap.size, 1, none⟩ = some (.int .i64 S) ∧ V.cell? ⟨w.heap.size, 2, none⟩ = some (.slice A 1 c) ∧ V.cell? ⟨w.heap.size, 3, none⟩ = some (.int .i64 K) ∧ V.cell? ⟨w.heap.size, 4, none⟩ = some (.int .i64 M) ∧ V.cell? ⟨w.heap.size, 5, none⟩ = some (.slice E ne ce)) ∧ (V.cell? ⟨w.heap.size + 1, 0, none⟩ = some (.slice A' n' c') ∧ V.cell? ⟨w.heap.size + 1, 1, none⟩ = some (.slice B' m' d')) from fun V hV => ⟨(HX62.out.below hV).2, (HX22.out.below hV).2⟩)
    clear HX62 HX22
    go_region_held3 (fun V => (V.cell? ⟨w.heap.size, 0, none⟩ = some (.int .i64 p) ∧ V.cell? ⟨w.heap.size, 1, none⟩ = some (.int .i64 S) ∧ V.cell? ⟨w.heap.size, 2, none⟩ = some (.slice A 1 c) ∧ V.cell? ⟨w.heap.size, 3, none⟩ = some (.int .i64 K) ∧ V.cell? ⟨w.heap.size, 4, none⟩ = some (.int .i64 M) ∧ V.cell? ⟨w.heap.size, 5, none⟩ = some (.slice E ne ce)) ∧ (V.cell? ⟨w.heap.size + 1, 0, none⟩ = some (.slice A' n' c') ∧ V.cell? ⟨w.heap.size + 1, 1, none⟩ = some (.slice B' m' d')))
      (first
        | exact HS.out _ k2
        | exact HS.out _ k1
        | exact HS.out _ ((Below.refl w2.heap.size w2).drew))
      (first
        | (go_at_call 50; refine (HWK.out w2 HB2.out _ k1 r lo hi V h3 (by have h4 := h3.far; omega) HL3.out).mono ?_; rintro x z2 ⟨xn, d, rfl, hW2, b2⟩; have k2 : Below w2.heap.size w2 z2 := k1.trans b2; have HWW := Lib.hid hW2; clear hW2)
        | (go_at_call 49; refine (HNW.out _ HB2.out.drew).mono ?_; rintro x z1 ⟨r, lo, hi, V, rfl, h1, h2, h3, b1⟩; have k1 : Below w2.heap.size w2 z1 := ((Below.refl _ _).drew).trans b1; have h1' : w2.heap.size ≤ lo := h1; clear h1)
        | fail)
    go_wp2_with fail
    go_ret3
    exact ⟨_, d, 0, rfl, .inr (.inr (.inr ⟨HVV.out, HDD.out, HVB.out, ⟨xn, rfl, HWW.out⟩, rfl⟩)), HB2.out.trans (k2.mono HB2.out.size)⟩

end Go.Proofs.Ytfblnadmbfhjiaa.Wd
