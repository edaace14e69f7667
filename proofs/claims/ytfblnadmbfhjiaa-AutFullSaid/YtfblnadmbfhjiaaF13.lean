/-
  Valid of the reference of layer 5, for all automata.
  The closure meet of reachable: a state that was not seen is seen, and waits.
  The walk of reachable as data: what was seen, the list of what waits, how far it was followed. The closure meet in one contract.
  A loop over an iterator that ends, and that keeps state of its own in cells: the body writes what lay before the loop alone, the iterator what it laid itself.
  The iterator of reachable, for all automata.
  bools of the law: are two lists of bools the same?
  Reach of the reference, given its Valid.
  Reach of package aut, for all automata.
  Few of the law, for one automaton, given the reference's Valid.
  Walk of the example automaton, and awake of lodesmanlaw05: the chapter's examples hold.
  slices.Clone at []int, and rotated of package word.
  rotated of package word.
  period of package word: the least period of a list.
  The normal form that package word reckons: the loop cut to its period, turned back by as many letters as the stem gives up. No program in it.
  normal of package word: it returns the normal form.
  slices.Equal at []int, and lodesmanref01.List and Written: the lists are equal.
-/
import Derived.Test.YtfblnadmbfhjiaaF08
import Derived.Test.YtfblnadmbfhjiaaF09
import Derived.Test.YtfblnadmbfhjiaaF10
import Derived.Test.YtfblnadmbfhjiaaF11
import Derived.Test.YtfblnadmbfhjiaaF12
import Derived.Test.YtfblnadmbfhjiaaF07
import Derived.Below
import Derived.RangeFuncNested
import Derived.RangeFuncBound
import Derived.RangeFuncBox
import Derived.RangeFuncCalls
import Derived.RangeFuncLeaves
import Derived.Test.YtfblnadmbfhjiaaF05
import Derived.Shelf.Abstract
import Derived.Shelf.RegionOpen
import Derived.WalkKit
import Derived.OwnWalkIn
import Derived.TacticsInMore
import Derived.LoopNIn
import Derived.LoopIn
import Derived.Outline
import Derived.Test.YtfblnadmbfhjiaaF01
import Derived.Deep.RegionHeld3
namespace Go.Proofs.Ytfblnadmbfhjiaa.Wd
open Go.RowKit
set_option linter.unusedVariables false

theorem refValid_ok : RefValidOK := by
  intro P S K M A E n c ne ce st es w ha hn hE hne
  by_cases h : headP P S K
  · cases hq : marksB K M
    · exact refValid_marks P S K M A E n c ne ce st es w h hq
    · by_cases hm : 40000 < ne
      · exact refValid_many P S K M A E n c ne ce st es w h hq hE.1 hne hm
      · have hfew := autB_few (P := P) (S := S) (st := st) (es := es) h hq (by have := hE.1; omega)
        rw [hfew]
        obtain ⟨h1, h2, h3, h4, h5, h6⟩ := h
        obtain ⟨p, rfl⟩ := Int.eq_ofNat_of_zero_le h1
        obtain ⟨hm0, hm4⟩ := marksB_few hq
        obtain ⟨m, rfl⟩ := Int.eq_ofNat_of_zero_le hm0
        rw [Int.toNat_natCast, Int.toNat_natCast]
        rcases wrong_ways p m S es ne hE.1 with hw | hw | hw | hw | hw
        · exact refValid_a p m S K A E n c ne ce st es w (by omega) (by omega) h3 h4 h5 h6 hq ha hn hE (by omega) hw
        · exact refValid_b p m S K A E n c ne ce st es w (by omega) (by omega) h3 h4 h5 h6 hq ha hn hE (by omega) hw
        · exact refValid_c p m S K A E n c ne ce st es w (by omega) (by omega) h3 h4 h5 h6 hq ha hn hE (by omega) hw
        · exact refValid_d p m S K A E n c ne ce st es w (by omega) (by omega) h3 h4 h5 h6 hq ha hn hE (by omega) hw
        · exact refValid_e p m S K A E n c ne ce st es w (by omega) (by omega) h3 h4 h5 h6 hq ha hn hE (by omega) hw
  · exact refValid_head P S K M A E n c ne ce st es w h

end Go.Proofs.Ytfblnadmbfhjiaa.Wd

namespace Go.Proofs.Ytfblnadmbfhjiaa.Wd
open Go.RowKit
set_option linter.unusedVariables false
set_option linter.unusedSimpArgs false

/-- What was seen, and what waits: the boxes bs (a row of bools at br) and bw (an own row of states). -/
structure Seen (B bs bw br S : Nat) (w : World) (F : Nat → Bool) (v : Value) (L : List Int) : Prop where
  seen : w.cell? ⟨bs, 0, none⟩ = some (.slice (some ⟨br, 0, none⟩) S S)
  row : RowF w br S F
  wait : w.cell? ⟨bw, 0, none⟩ = some v
  free : w.frozen? ⟨bw, 0, none⟩ = false
  own : w.ownsRow B 3 1 v L.length (L.map (Value.int .i64))
  lt : bs < B ∧ bw < B ∧ br < B ∧ bs ≠ bw ∧ br ≠ bw ∧ bs ≠ br
  size : B ≤ w.heap.size

/-- Below B only the blocks br and bw may have turned. -/
structure KeepT (B br bw : Nat) (w w' : World) : Prop where
  os : w'.os = w.os
  tape : w'.tape = w.tape
  output : w'.output = w.output
  size : w.heap.size ≤ w'.heap.size
  block : ∀ j, j < B → j ≠ br → j ≠ bw → w'.heap[j]? = w.heap[j]?

set_option maxRecDepth 100000 in
set_option maxHeartbeats 4000000 in
theorem meet_old (B bs bw br S s : Nat) (F : Nat → Bool) (v : Value) (L : List Int) (w : World) (h : Seen B bs bw br S w F v L) (hs : s < S) (hf : F s = true) :
    Calls Try.prog 63 #[.int .i64 s, .pointer (some ⟨bs, 0, none⟩), .pointer (some ⟨bw, 0, none⟩)] w fun e w' => (∃ r, e = .returned r) ∧ w = w' := by
  have p0 := h.seen
  have p1 := h.row.cell hs
  rw [hf] at p1
  have hs0 : (0 : Int) ≤ (s : Int) := by omega
  have hs1 : (s : Int) < (S : Int) := by omega
  clear h hf
  go_enter Try.func63, Try.ntmps63
  go_wp2_with fail
  exact bodyPost_end (results_none rfl _ _ _) rfl ⟨⟨_, rfl⟩, rfl⟩

theorem one_at (w : World) (g : Nat) (hg : w.heap.size = g) (x : Int) (t : TypeId) : Ints (w.alloc (.cells #[.int .i64 x] t)) (some ⟨g, 0, none⟩) 1 [x] := one_new w g hg x t

set_option maxRecDepth 100000 in
set_option maxHeartbeats 4000000 in
theorem meet_new (B bs bw br S s : Nat) (F : Nat → Bool) (v : Value) (L : List Int) (w : World) (h : Seen B bs bw br S w F v L) (hs : s < S) (hf : F s = false) (hL : L.length ≤ 100000) :
    Calls Try.prog 63 #[.int .i64 s, .pointer (some ⟨bs, 0, none⟩), .pointer (some ⟨bw, 0, none⟩)] w fun e w' => (∃ r, e = .returned r) ∧ (∃ v', Seen B bs bw br S w' (updB F s) v' (L ++ [(s : Int)])) ∧ KeepT B br bw w w' := by
  obtain ⟨i0, hi, hi0, hi1, hi2⟩ := info_parts int_row
  have p0 := h.seen
  have p1 := h.row.cell hs
  have p2 := h.row.free s
  have p3 := h.wait
  have p4 := h.free
  rw [hf] at p1
  have HS := Lib.hid h
  have HRU := Lib.hid (h.row.upd (j := s))
  have hs0 : (0 : Int) ≤ (s : Int) := by omega
  have hs1 : (s : Int) < (S : Int) := by omega
  obtain ⟨l1, l2, l3, n1, n2, n3⟩ := h.lt
  have hz := h.size
  have d1 : bs < w.heap.size := by omega
  have d2 : bw < w.heap.size := by omega
  have d3 : br < w.heap.size := by omega
  have n4 : ¬ bw = bs := fun e => n1 e.symm
  have n5 : ¬ bw = br := fun e => n2 e.symm
  have n6 : ¬ br = bs := fun e => n3 e.symm
  have HOX := Lib.hid (ownsRow_setCell_below h.own (a := ⟨br, s, none⟩) l3 (.bool true))
  obtain ⟨Av, cv, hve, hcv⟩ := own_slice h.own
  clear h hf
  subst hve
  have HB1 := Lib.hid (show Below B w ((w.setCell ⟨br, s, none⟩ (.bool true)).alloc (.cells #[.int .i64 s] 3)) → True from fun _ => trivial)
  go_enter Try.func63, Try.ntmps63
  go_wp2_with (at_builtin; refine wpList_append_ints _ (by rfl) _ _ 22 (by rfl) B 3 i0 _ Try.underlying22 hi hi0 hi1 hi2 rfl (.slice Av L.length cv) L.length (L.map (Value.int .i64)) (by rfl) (by exact HOX.out.alloc _) (some ⟨w.heap.size, 0, none⟩) 1 1 [(s : Int)] (by rfl) (by exact one_at (w.setCell ⟨br, s, none⟩ (.bool true)) w.heap.size (by simp) s _) (by omega) (by simp; omega) ?_)
  intro v' w2 hown hgrow hat
  have HBA := Lib.hid (show Below B (w.setCell ⟨br, s, none⟩ (.bool true)) ((w.setCell ⟨br, s, none⟩ (.bool true)).alloc (.cells #[.int .i64 s] 3)) from (Below.refl _ _).alloc (by simp; omega) _)
  have HBB := Lib.hid (HBA.out.trans (below_own (HOX.out.alloc _) hgrow (by simp; omega)))
  have HOW := Lib.hid hown
  obtain ⟨A', c', hve, hcc⟩ := own_slice hown
  subst hve
  have k3 : w2.cell? ⟨bw, 0, none⟩ = some (.slice Av L.length cv) := (HBB.out.cell (p := ⟨bw, 0, none⟩) l2).trans ((World.cell?_setCell_other w ⟨br, s, none⟩ ⟨bw, 0, none⟩ _ (by simp [n2])).trans p3)
  have k4 : w2.frozen? ⟨bw, 0, none⟩ = false := (HBB.out.frozen (p := ⟨bw, 0, none⟩) l2).trans (by rw [World.frozen?_setCell]; exact p4)
  have k0 : w2.cell? ⟨bs, 0, none⟩ = some (.slice (some ⟨br, 0, none⟩) S S) := (HBB.out.cell (p := ⟨bs, 0, none⟩) l1).trans ((World.cell?_setCell_other w ⟨br, s, none⟩ ⟨bs, 0, none⟩ _ (by simp [n6])).trans p0)
  have HRW := Lib.hid (show RowF w2 br S (updB F s) from World.rowIs.of_block HRU.out (HBB.out.block br l3))
  have hsz : B ≤ w2.heap.size := by have := HBB.out.size; simp at this; omega
  have d4 : bw < w2.heap.size := by omega
  clear hown hgrow hat p0 p1 p2 p3 p4 HOX HRU
  go_wp2_with fail
  refine bodyPost_end (results_none rfl _ _ _) rfl ⟨⟨_, rfl⟩, ⟨.slice A' (L.length + 1) c', ?_⟩, ⟨HBB.out.os, HBB.out.tape, HBB.out.output, by have := HBB.out.size; simpa using this, fun j hj h1 h2 => (Go.Deep.blk_setCell_other w2 _ _ _ h2).trans ((HBB.out.block j hj).trans (Go.Deep.blk_setCell_other w _ _ _ h1))⟩⟩
  have hlen : (L ++ [(s : Int)]).length = L.length + 1 := by simp
  refine ⟨(World.cell?_setCell_other w2 ⟨bw, 0, none⟩ ⟨bs, 0, none⟩ _ (by simp [n4])).trans k0, World.rowIs.setOther HRW.out (a := ⟨bw, 0, none⟩) n2 _, World.cell?_setCell_same w2 _ _ k3, by rw [World.frozen?_setCell]; exact k4, ?_, ⟨l1, l2, l3, n1, n2, n3⟩, by simpa using hsz⟩
  rw [hlen, List.map_append]
  exact ownsRow_setCell_below HOW.out (a := ⟨bw, 0, none⟩) l2 _

end Go.Proofs.Ytfblnadmbfhjiaa.Wd

namespace Go.Proofs.Ytfblnadmbfhjiaa.Wd
open Go.RowKit
set_option linter.unusedVariables false

structure Mets (st : List Int) (es : List Ed) (S : Nat) (F : Nat → Bool) (L : List Int) : Prop where
  mem : ∀ i : Nat, F i = true ↔ (i : Int) ∈ L
  lt : ∀ x, x ∈ L → ∃ i : Nat, x = (i : Int) ∧ i < S
  sound : SoundF st es F
  len : L.length + cntF F S = S

theorem cntF_none (S : Nat) : cntF (fun _ => false) S = S := by
  induction S with
  | zero => rfl
  | succ n ih => unfold cntF; rw [ih, if_neg (by decide)]; omega
theorem Mets.start (st : List Int) (es : List Ed) (S : Nat) : Mets st es S (fun _ => false) [] :=
  ⟨fun i => by simp, fun x h => (by cases h), (fun i h => by cases h), by rw [cntF_none]; simp⟩
theorem Mets.short {st : List Int} {es : List Ed} {S : Nat} {F : Nat → Bool} {L : List Int} (h : Mets st es S F L) : L.length ≤ S := by have := h.len; omega
theorem Mets.next {st : List Int} {es : List Ed} {S s : Nat} {F : Nat → Bool} {L : List Int} (h : Mets st es S F L) (hs : s < S) (hf : F s = false) (hr : Rch st es s) : Mets st es S (updB F s) (L ++ [(s : Int)]) := by
  refine ⟨fun i => ⟨fun hi => ?_, fun hi => ?_⟩, fun x hx => ?_, fun i hi => ?_, ?_⟩
  · rcases updB_true hi with rfl | h2
    · simp
    · exact List.mem_append.2 (.inl ((h.mem i).1 h2))
  · rcases List.mem_append.1 hi with h2 | h2
    · exact updB_mono ((h.mem i).2 h2)
    · obtain rfl : i = s := by have := List.mem_singleton.1 h2; omega
      exact updB_same F i
  · rcases List.mem_append.1 hx with h2 | h2
    · exact h.lt x h2
    · exact ⟨s, List.mem_singleton.1 h2, hs⟩
  · rcases updB_true hi with rfl | h2
    · exact hr
    · exact h.sound i h2
  · have h1 := cntF_set hf S hs
    have h2 := h.len
    simp only [List.length_append, List.length_cons, List.length_nil]
    omega

/-- The states that were followed: all that their edges lead to has been seen. -/
def DoneF (es : List Ed) (F : Nat → Bool) (L : List Int) (k : Nat) : Prop :=
  ∀ j k' a b : Nat, j < k → k' < es.length → (es.getD k' ed0).f = (a : Int) → L.getD j 0 = (a : Int) → (es.getD k' ed0).t = (b : Int) → F b = true
/-- Of the edges from s the first u. -/
def PartF (es : List Ed) (F : Nat → Bool) (s u : Nat) : Prop := ∀ v k b : Nat, v < u → (fromL es s es.length).getD v 0 = (k : Int) → (es.getD k ed0).t = (b : Int) → F b = true
/-- More was seen. -/
def MoreF (F F' : Nat → Bool) (L L' : List Int) : Prop := (∀ i, F i = true → F' i = true) ∧ ∃ l, L' = L ++ l
theorem MoreF.refl (F : Nat → Bool) (L : List Int) : MoreF F F L L := ⟨fun _ h => h, [], by simp⟩
theorem MoreF.at_ {F F' : Nat → Bool} {L L' : List Int} (h : MoreF F F' L L') {j : Nat} (hj : j < L.length) : L'.getD j 0 = L.getD j 0 := by
  obtain ⟨_, l, rfl⟩ := h
  simp [List.getD_eq_getElem?_getD, List.getElem?_append_left hj]
theorem MoreF.take {F F' : Nat → Bool} {L L' : List Int} (h : MoreF F F' L L') {j : Nat} (hj : j ≤ L.length) : L'.take j = L.take j := by
  obtain ⟨_, l, rfl⟩ := h
  rw [List.take_append_of_le_length hj]
theorem MoreF.len {F F' : Nat → Bool} {L L' : List Int} (h : MoreF F F' L L') : L.length ≤ L'.length := by
  obtain ⟨_, l, rfl⟩ := h
  simp
theorem DoneF.more {es : List Ed} {F F' : Nat → Bool} {L L' : List Int} {k : Nat} (h : DoneF es F L k) (hm : MoreF F F' L L') (hk : k ≤ L.length) : DoneF es F' L' k := by
  intro j k' a b hj h1 h2 h3 h4
  rw [hm.at_ (by omega)] at h3
  exact hm.1 b (h j k' a b hj h1 h2 h3 h4)
theorem StartF.more {st : List Int} {F F' : Nat → Bool} {L L' : List Int} {t : Nat} (h : StartF st F t) (hm : MoreF F F' L L') : StartF st F' t := fun k s hk hs => hm.1 s (h k s hk hs)
theorem PartF.more {es : List Ed} {F F' : Nat → Bool} {L L' : List Int} {s u : Nat} (h : PartF es F s u) (hm : MoreF F F' L L') : PartF es F' s u := fun v k b hv h1 h2 => hm.1 b (h v k b hv h1 h2)

theorem fromL_mem {es : List Ed} {s k n : Nat} (hk : k < n) (h : (es.getD k ed0).f = (s : Int)) : (k : Int) ∈ fromL es s n := by
  unfold fromL
  exact List.mem_map.2 ⟨k, List.mem_filter.2 ⟨List.mem_range.2 hk, decide_eq_true h⟩, rfl⟩
theorem fromL_is {es : List Ed} {s n : Nat} {x : Int} (h : x ∈ fromL es s n) : ∃ k : Nat, x = (k : Int) ∧ k < n ∧ (es.getD k ed0).f = (s : Int) := by
  unfold fromL at h
  obtain ⟨k, hk, rfl⟩ := List.mem_map.1 h
  have h2 := List.mem_filter.1 hk
  exact ⟨k, rfl, List.mem_range.1 h2.1, of_decide_eq_true h2.2⟩
theorem fromL_at {es : List Ed} {s n u : Nat} (h : u < (fromL es s n).length) : ∃ k : Nat, (fromL es s n).getD u 0 = (k : Int) ∧ k < n ∧ (es.getD k ed0).f = (s : Int) :=
  fromL_is (by rw [List.getD_eq_getElem?_getD, List.getElem?_eq_getElem h]; exact List.getElem_mem h)
theorem PartF.step {es : List Ed} {F : Nat → Bool} {s u k b : Nat} (h : PartF es F s u) (hk : (fromL es s es.length).getD u 0 = (k : Int)) (hb : (es.getD k ed0).t = (b : Int)) (hf : F b = true) : PartF es F s (u + 1) := by
  intro v k' b' hv h1 h2
  by_cases e : v = u
  · subst e
    obtain rfl : k = k' := by omega
    obtain rfl : b = b' := by omega
    exact hf
  · exact h v k' b' (by omega) h1 h2
theorem PartF.zero (es : List Ed) (F : Nat → Bool) (s : Nat) : PartF es F s 0 := fun v k b hv => by omega
theorem DoneF.step {es : List Ed} {F : Nat → Bool} {L : List Int} {k s : Nat} (h : DoneF es F L k) (hs : L.getD k 0 = (s : Int)) (hp : PartF es F s (fromL es s es.length).length) : DoneF es F L (k + 1) := by
  intro j k' a b hj h1 h2 h3 h4
  by_cases e : j = k
  · subst e
    obtain rfl : s = a := by omega
    have hm := fromL_mem h1 h2
    obtain ⟨v, hv, he⟩ := List.getElem_of_mem hm
    exact hp v k' b hv (by rw [List.getD_eq_getElem?_getD, List.getElem?_eq_getElem hv]; exact he) h4
  · exact h j k' a b (by omega) h1 h2 h3 h4
theorem all_done {st : List Int} {es : List Ed} {S : Nat} {F : Nat → Bool} {L : List Int} (hm : Mets st es S F L) (hs : StartF st F st.length) (hd : DoneF es F L L.length) (i : Nat) : F i = true ↔ Rch st es i := by
  refine reach_done hm.sound hs (fun k a b hk ha hb hf => ?_) i
  obtain ⟨j, hj, he⟩ := List.getElem_of_mem ((hm.mem a).1 hf)
  exact hd j k a b hj hk ha (by rw [List.getD_eq_getElem?_getD, List.getElem?_eq_getElem hj]; exact he) hb

/-- Which states have been handed out: those of the list, so far. -/
def GaveF (G : Nat → Bool) (L : List Int) (k : Nat) : Prop := ∀ i : Nat, G i = true ↔ (i : Int) ∈ L.take k
theorem GaveF.zero (L : List Int) : GaveF (fun _ => false) L 0 := fun i => by simp
theorem GaveF.step {G : Nat → Bool} {L : List Int} {k s : Nat} (h : GaveF G L k) (hk : k < L.length) (hs : L.getD k 0 = (s : Int)) : GaveF (updB G s) L (k + 1) := by
  have e : L[k] = (s : Int) := by rw [List.getD_eq_getElem?_getD, List.getElem?_eq_getElem hk] at hs; exact hs
  intro i
  rw [List.take_succ_eq_append_getElem hk, e, List.mem_append, List.mem_singleton]
  constructor
  · intro hi
    rcases updB_true hi with rfl | h2
    · exact .inr rfl
    · exact .inl ((h i).1 h2)
  · rintro (h2 | h2)
    · exact updB_mono ((h i).2 h2)
    · obtain rfl : i = s := by omega
      exact updB_same G i

/-- What meet leaves. -/
def MetR (st : List Int) (es : List Ed) (B bs bw br S s : Nat) (F : Nat → Bool) (L : List Int) (w w' : World) : Prop :=
  ∃ F' v' L', Seen B bs bw br S w' F' v' L' ∧ Mets st es S F' L' ∧ F' s = true ∧ MoreF F F' L L' ∧ KeepT B br bw w w'

theorem KeepT.refl (B br bw : Nat) (w : World) : KeepT B br bw w w := ⟨rfl, rfl, rfl, Nat.le_refl _, fun _ _ _ _ => rfl⟩

theorem meet_any (st : List Int) (es : List Ed) (B bs bw br S s : Nat) (F : Nat → Bool) (v : Value) (L : List Int) (w : World) (h : Seen B bs bw br S w F v L) (hm : Mets st es S F L) (hs : s < S) (hS : S ≤ 3000) (hr : Rch st es s) :
    Calls Try.prog 63 #[.int .i64 s, .pointer (some ⟨bs, 0, none⟩), .pointer (some ⟨bw, 0, none⟩)] w fun e w' => (∃ r, e = .returned r) ∧ MetR st es B bs bw br S s F L w w' := by
  cases hf : F s
  · refine (meet_new B bs bw br S s F v L w h hs hf (by have := hm.short; omega)).mono fun e w' h2 => ?_
    obtain ⟨hr2, ⟨v', hv'⟩, hk⟩ := h2
    exact ⟨hr2, updB F s, v', L ++ [(s : Int)], hv', hm.next hs hf hr, updB_same F s, ⟨fun i hi => updB_mono hi, [(s : Int)], rfl⟩, hk⟩
  · refine (meet_old B bs bw br S s F v L w h hs hf).mono fun e w' h2 => ?_
    obtain ⟨hr2, rfl⟩ := h2
    exact ⟨hr2, F, v, L, h, hm, hf, MoreF.refl F L, KeepT.refl _ _ _ _⟩

end Go.Proofs.Ytfblnadmbfhjiaa.Wd

namespace Go.Proofs.Ytfblnadmbfhjiaa.Wd
open Go.RowKit

/-- What lay at B or beyond lies as it lay. -/
structure Over (B : Nat) (W W' : World) : Prop where
  os : W'.os = W.os
  tape : W'.tape = W.tape
  output : W'.output = W.output
  size : W.heap.size ≤ W'.heap.size
  block : ∀ k, B ≤ k → k < W.heap.size → W'.heap[k]? = W.heap[k]?
theorem Over.refl (B : Nat) (W : World) : Over B W W := ⟨rfl, rfl, rfl, Nat.le_refl _, fun _ _ _ => rfl⟩
theorem Over.trans {B : Nat} {a b c : World} (h : Over B a b) (k : Over B b c) : Over B a c :=
  ⟨k.os.trans h.os, k.tape.trans h.tape, k.output.trans h.output, Nat.le_trans h.size k.size, fun i hi hl => (k.block i hi (Nat.lt_of_lt_of_le hl h.size)).trans (h.block i hi hl)⟩
theorem Over.mono {B B' : Nat} {a b : World} (h : Over B a b) (hB : B ≤ B') : Over B' a b := ⟨h.os, h.tape, h.output, h.size, fun i hi hl => h.block i (Nat.le_trans hB hi) hl⟩
theorem Over.setCell (B : Nat) (W : World) {a : Addr} (ha : a.block < B) (v : Value) : Over B W (W.setCell a v) :=
  ⟨(Below.refl 0 W |>.setCell (p := a) (Nat.zero_le _) v).os, (Below.refl 0 W |>.setCell (p := a) (Nat.zero_le _) v).tape, (Below.refl 0 W |>.setCell (p := a) (Nat.zero_le _) v).output, (KeepsWalks.setCell W a v).size, fun k hk _ => Below.heap_setCell W a v k (by omega)⟩
theorem Over.putObj (B : Nat) (W : World) {r : Nat} (o : Obj) (hr : r < B) : Over B W (W.putObj r o) :=
  ⟨rfl, rfl, rfl, by simp, fun k hk _ => World.putObj_heap_other (by omega)⟩
theorem below_putObj {B : Nat} (W : World) {r : Nat} (o : Obj) (hr : B ≤ r) : Below B W (W.putObj r o) :=
  ⟨rfl, rfl, rfl, by simp, fun k hk => World.putObj_heap_other (by omega)⟩

/-- How a round of such a loop may be left. -/
def onOver (B : Nat) (I : World → Prop) (W : World) : Exit → Act → World → Prop
  | .normal, _, W' => Over B W W' ∧ I W'
  | .exit _, _, _ => False
  | .ret, _, _ => False
  | .goto _, _, _ => False
  | .panic _, _, _ => False
  | .outgrown, _, _ => False

variable {F : Fence} {n : Nat} {P : Program}

theorem range_whole {β : Type} {g : Operand} {ps : Array Tmp} {assign body : Code} {Q : Exit → Act → World → Prop} {a : Act} {w : World}
    (hro : F.round = none) (h1 : 1 ≤ n) {gf : Nat} {lb : Array Value} (hg : a.eval g = .func (.func gf) #[] lb) (hFg : F.fn gf) (eg : ∀ args w, (callFunc gf args).run P w = .ok (.enter gf args) w)
    (f : Nat → Value) (N : Nat) (up : β → Nat → β) (b0 : β) (R : β → Prop) (St : World → Prop) (hps : ps.size = 1)
    (hseq : ∀ (l : Nat) (J : β → World → Prop) (W : World), (∀ G W1 W2, J G W1 → Below (w.heap.size + 2) W1 W2 → J G W2) → (∀ G W1, J G W1 → St W1) →
      (∀ G x W1, J G W1 → x < N → YieldAt F (n - 1 - 1) P l #[f x] W1 fun e W' => e = .returned (.bool true) ∧ J (up G x) W' ∧ Over (w.heap.size + 2) W1 W') → w.heap.size + 2 ≤ W.heap.size → J b0 W →
      CallsIn F (n - 1) P gf (#[.func (.yield l) #[] #[]] ++ lb) W fun e W' => (∃ v, e = .returned v) ∧ ∃ G, R G ∧ J G W')
    (I : β → World → Prop) (hI : ∀ G W1 W2, I G W1 → Below w.heap.size W1 W2 → I G W2) (hIS : ∀ G W, I G W → St W) (h0 : I b0 w)
    (a₁ : Value → Act)
    (hassign : ∀ (l : Nat) (x : Value) (W : World) (K : Act → World → Prop), K (a₁ x) W →
      assign.wpIn (F.inRound l) (n - 1 - 1) P (Exit.then K (fun _ _ _ => False)) { tmps := (ps.zip #[x]).foldl (fun t (p, v) => t.setIfInBounds p v) a.tmps, defers := [] } W)
    (hbody : ∀ (l : Nat) (G : β) (x : Nat) (W : World), I G W → x < N → w.heap.size ≤ W.heap.size → body.wpIn (F.inRound l) (n - 1 - 1) P (onOver w.heap.size (I (up G x)) W) (a₁ (f x)) W)
    (hdone : ∀ (D : Nat) (G : β) (W : World), w.heap.size ≤ D → R G → I G W → W.heap[D]? = some (.deferred (some [])) → Q .normal { a with defers := { target := .collected D, args := #[] } :: a.defers } W) :
    (Code.rangeFunc g ps assign body).wpIn F n P Q a w := by
  refine wpIn_rangeFunc fun fn hfn => ?_
  rw [hro]
  let Rc : LoopState → Option Code → Loop := fun st pe => { state := st, pending := pe, fn := fn, tmps := a.tmps, params := ps, assign := assign, body := body, defers := w.heap.size }
  obtain ⟨V, hV⟩ : ∃ V, (w.alloc (.deferred (some []))).alloc (.loop (Rc .ready none)) = V := ⟨_, rfl⟩
  have v1 : V.heap[w.heap.size + 1]? = some (.loop (Rc .ready none)) := by
    rw [← hV]
    have := World.alloc_heap_new (w.alloc (.deferred (some []))) (.loop (Rc .ready none))
    rwa [World.size_alloc] at this
  have v0 : V.heap[w.heap.size]? = some (.deferred (some [])) := by
    rw [← hV]
    exact (Below.heap_alloc _ _ _ (by simp)).trans (World.alloc_heap_new w _)
  have hI1 : I b0 V := by rw [← hV]; exact hI _ _ _ h0 (((Below.refl _ w).alloc (Nat.le_refl _) _).alloc (by simp) _)
  have hVs : w.heap.size + 2 ≤ V.heap.size := by rw [← hV]; simp
  refine ⟨w.heap.size + 1, [{ target := .collected w.heap.size, args := #[] }], V, { target := .fn (.func gf) lb, args := #[.func (.yield (w.heap.size + 1)) #[] #[]] }, V, gf,
    #[.func (.yield (w.heap.size + 1)) #[] #[]] ++ lb, V, by rw [← hV]; exact run_enterLoop_outer _ _ _ _ _, by simp only [resolve, hg]; simp [go_sem], ?_, by simp [invoke, go_sem, eg], fun _ => h1, ?_⟩
  · intro f' hf'
    simp [Target.leads] at hf'
    subst hf'
    exact hFg
  refine (hseq (w.heap.size + 1)
    (fun G W => I G W ∧ W.heap[w.heap.size + 1]? = some (.loop (Rc .ready none)) ∧ W.heap[w.heap.size]? = some (.deferred (some [])))
    V (fun G W1 W2 h hb => ⟨hI _ _ _ h.1 (hb.mono (by omega)), (hb.block _ (by omega)).trans h.2.1, (hb.block _ (by omega)).trans h.2.2⟩) (fun G W1 h => hIS _ _ h.1) ?_ hVs ⟨hI1, v1, v0⟩).mono ?_
  · rintro G x W ⟨hi, hl, hk⟩ hx
    have hlt : w.heap.size + 1 < W.heap.size := (Array.getElem?_eq_some_iff.1 hl).1
    refine ⟨fn, _, assign, body, run_yield (P := P) (args := #[f x]) hl (by show 1 = ps.size; exact hps.symm), roundIn_of_wpIn hfn (hassign _ (f x) W _ ⟨_, run_beginRound hl rfl, ?_⟩)⟩
    obtain ⟨B, hB⟩ : ∃ B, W.putObj (w.heap.size + 1) (.loop (Rc .busy none)) = B := ⟨_, rfl⟩
    have b1 : B.heap[w.heap.size + 1]? = some (.loop (Rc .busy none)) := by rw [← hB]; exact World.putObj_heap_same hlt
    have b0 : B.heap[w.heap.size]? = some (.deferred (some [])) := by rw [← hB]; exact (World.putObj_heap_other (by omega)).trans hk
    have hib : I G B := by rw [← hB]; exact hI _ _ _ hi (below_putObj _ _ (by omega))
    have hov : Over (w.heap.size + 2) W B := by rw [← hB]; exact Over.putObj _ _ _ (by omega)
    have hsz : w.heap.size + 1 < B.heap.size := (Array.getElem?_eq_some_iff.1 b1).1
    show body.wpIn (F.inRound (w.heap.size + 1)) (n - 1 - 1) P _ (a₁ (f x)) (W.putObj (w.heap.size + 1) (.loop (Rc .busy none)))
    rw [hB]
    refine wpIn_mono (hbody _ G x B hib hx (by omega)) ?_
    rintro e a3 W3 hp
    cases e with
    | normal =>
      obtain ⟨hov3, hi3⟩ := hp
      have c1 := (hov3.block _ (by omega) hsz).trans b1
      have c0 := (hov3.block _ (by omega) (by omega)).trans b0
      exact ⟨_, _, run_endRound (P := P) none c1, rfl, ⟨hI _ _ _ hi3 (below_putObj _ _ (by omega)), World.putObj_heap_same (Array.getElem?_eq_some_iff.1 c1).1, (World.putObj_heap_other (by omega)).trans c0⟩, (hov.trans (hov3.mono (by omega))).trans (Over.putObj _ _ _ (by omega))⟩
    | exit i => exact hp.elim
    | ret => exact hp.elim
    | goto t => exact hp.elim
    | panic ch => exact hp.elim
    | outgrown => exact hp.elim
  · rintro e W2 ⟨⟨v, rfl⟩, G, hR, hi, hl, hk⟩
    refine ⟨none, _, run_endLoop (P := P) hl (by simp [Rc]), hdone _ _ _ (Nat.le_refl _) hR (hI _ _ _ hi (below_putObj _ _ (by omega))) ((World.putObj_heap_other (by omega)).trans hk)⟩

end Go.Proofs.Ytfblnadmbfhjiaa.Wd

namespace Go.Proofs.Ytfblnadmbfhjiaa.Wd
open Go.RowKit Go.Shelf
set_option linter.unusedVariables false

attribute [local go_sem] Oper.semAt_some

/-- The rows of outgoing, in blocks from lo to hi. -/
def OutAt (w : World) (lo hi ob S : Nat) (es : List Ed) (V : Nat → Value) : Prop :=
  lo ≤ ob ∧ ob < hi ∧ ∀ s, s < S → ∃ A c, V s = .slice A (fromL es s es.length).length c ∧ w.cell? ⟨ob, s, none⟩ = some (.slice A (fromL es s es.length).length c) ∧
    (0 < (fromL es s es.length).length → ∃ b off, A = some ⟨b, off, none⟩ ∧ lo ≤ b ∧ b < hi ∧ ∀ u, u < (fromL es s es.length).length → w.cell? ⟨b, off + u, none⟩ = some (.int .i64 ((fromL es s es.length).getD u 0)))
theorem OutAt.kept {w w' : World} {lo hi ob S : Nat} {es : List Ed} {V : Nat → Value} (h : OutAt w lo hi ob S es V) (hk : ∀ j, lo ≤ j → j < hi → w'.heap[j]? = w.heap[j]?) : OutAt w' lo hi ob S es V := by
  obtain ⟨h1, h2, h3⟩ := h
  refine ⟨h1, h2, fun s hs => ?_⟩
  obtain ⟨A, c, hv, hc, hx⟩ := h3 s hs
  refine ⟨A, c, hv, (World.cell?_of_block (a := ⟨ob, s, none⟩) (hk ob h1 h2)).trans hc, fun hp => ?_⟩
  obtain ⟨b, off, e, l1, l2, hu⟩ := hx hp
  exact ⟨b, off, e, l1, l2, fun u hlt => (World.cell?_of_block (a := ⟨b, off + u, none⟩) (hk b l1 l2)).trans (hu u hlt)⟩
theorem OutAt.of_rows {w : World} {lo S ne : Nat} {es : List Ed} {V : Nat → Value} (hl : es.length = ne) (hr : w.rowIs (lo + 1) 22 S V) (ho : Rows (lo + 2) S w V (fun s => fromL es s ne)) : OutAt w lo w.heap.size (lo + 1) S es V := by
  subst hl
  refine ⟨by omega, hr.lt, fun s hs => ?_⟩
  have hown := ho.own s hs
  obtain ⟨A, c, hv, _⟩ := own_slice hown
  refine ⟨A, c, hv, by rw [hr.cell hs, hv], fun hp => ?_⟩
  rw [hv] at hown
  obtain ⟨g, cap, hg, h1, h2⟩ := hown.form hp
  obtain ⟨b, off, e, _, hc⟩ := (Ints.of_own hown).2 hp
  have hb : b = g := by injection hg with hg; rw [e] at hg; injection hg with hg; injection hg
  exact ⟨b, off, e, by omega, by omega, hc⟩

theorem ownsRow_over {w w' : World} {B base e size n : Nat} {v : Value} {xs : List Value} (h : w.ownsRow base e size v n xs) (hb : Over B w w') (hB : B ≤ base) : w'.ownsRow base e size v n xs := by
  refine ⟨h.1, h.2.imp id fun ⟨g, cap, cur, hv, h1, h2, r⟩ => ⟨g, cap, cur, hv, h1, ?_, r⟩⟩
  rw [hb.block g (by omega) (Array.getElem?_eq_some_iff.1 h2).1]; exact h2
theorem Seen.over {B' B bs bw br S : Nat} {w w' : World} {F : Nat → Bool} {v : Value} {L : List Int} (h : Seen B bs bw br S w F v L) (ho : Over B' w w') (h1 : B' ≤ bs) (h2 : B' ≤ bw) (h3 : B' ≤ br) (h4 : B' ≤ B) : Seen B bs bw br S w' F v L := by
  obtain ⟨l1, l2, l3, _⟩ := h.lt
  have hz := h.size
  exact ⟨(World.cell?_of_block (a := ⟨bs, 0, none⟩) (ho.block bs h1 (by omega))).trans h.seen, World.rowIs.of_block h.row (ho.block br h3 (by omega)), (World.cell?_of_block (a := ⟨bw, 0, none⟩) (ho.block bw h2 (by omega))).trans h.wait,
    (World.frozen?_of_block (a := ⟨bw, 0, none⟩) (ho.block bw h2 (by omega))).trans h.free, ownsRow_over h.own ho h4, h.lt, Nat.le_trans hz ho.size⟩

def RI (st : List Int) (es : List Ed) (lo br S : Nat) (V : Nat → Value) (J : (Nat → Bool) → World → Prop) (F : Nat → Bool) (v : Value) (L : List Int) (G : Nat → Bool) (w : World) : Prop :=
  J G w ∧ Seen (br + 1 + 1 + 1) (br + 1) (br + 1 + 1) br S w F v L ∧ Mets st es S F L ∧ OutAt w lo br (lo + 1) S es V
def Loop1 (st : List Int) (es : List Ed) (lo br S : Nat) (V : Nat → Value) (J : (Nat → Bool) → World → Prop) (t : Nat) (w : World) : Prop :=
  ∃ F v L, RI st es lo br S V J F v L (fun _ => false) w ∧ StartF st F t
def Loop2 (st : List Int) (es : List Ed) (lo br S : Nat) (V : Nat → Value) (J : (Nat → Bool) → World → Prop) (k : Nat) (w : World) : Prop :=
  ∃ F v L G, RI st es lo br S V J F v L G w ∧ StartF st F st.length ∧ DoneF es F L k ∧ k ≤ L.length ∧ GaveF G L k
def Loop3 (st : List Int) (es : List Ed) (lo br S : Nat) (V : Nat → Value) (J : (Nat → Bool) → World → Prop) (k s u : Nat) (w : World) : Prop :=
  ∃ F v L G, RI st es lo br S V J F v L G w ∧ StartF st F st.length ∧ DoneF es F L k ∧ k < L.length ∧ L.getD k 0 = (s : Int) ∧ GaveF G L (k + 1) ∧ PartF es F s u

section
variable {st : List Int} {es : List Ed} {lo br S : Nat} {V : Nat → Value} {J : (Nat → Bool) → World → Prop} {F : Nat → Bool} {v : Value} {L : List Int} {G : Nat → Bool} {w w' : World} {B : Nat}
theorem RI.met (h : RI st es lo br S V J F v L G w) (hJB : ∀ G W1 W2, J G W1 → Below B W1 W2 → J G W2) (hB : B ≤ lo) (hlb : lo ≤ br) {s : Nat} (hm : MetR st es (br + 1 + 1 + 1) (br + 1) (br + 1 + 1) br S s F L w w') :
    ∃ F' v' L', RI st es lo br S V J F' v' L' G w' ∧ F' s = true ∧ MoreF F F' L L' := by
  obtain ⟨hJ, hS, hM, hO⟩ := h
  obtain ⟨F', v', L', hS', hM', hf, hmo, hk⟩ := hm
  exact ⟨F', v', L', ⟨hJB _ _ _ hJ ⟨hk.os, hk.tape, hk.output, hk.size, fun j hj => hk.block j (by omega) (by omega) (by omega)⟩, hS', hM', hO.kept (fun j h1 h2 => hk.block j (by omega) (by omega) (by omega))⟩, hf, hmo⟩
theorem RI.gave (h : RI st es lo br S V J F v L G w) (ho : Over B w w') {G' : Nat → Bool} (hJ : J G' w') (hB : B ≤ lo) (hlb : lo ≤ br) : RI st es lo br S V J F v L G' w' := by
  obtain ⟨_, hS, hM, hO⟩ := h
  have hz := hS.size
  exact ⟨hJ, hS.over ho (by omega) (by omega) (by omega) (by omega), hM, hO.kept (fun j h1 h2 => ho.block j (by omega) (by omega))⟩
theorem Loop1.step {t s : Nat} (h : RI st es lo br S V J F v L (fun _ => false) w) (ht : StartF st F t) (hJB : ∀ G W1 W2, J G W1 → Below B W1 W2 → J G W2) (hB : B ≤ lo) (hlb : lo ≤ br) (hs : st.getD t 0 = (s : Int))
    (hm : MetR st es (br + 1 + 1 + 1) (br + 1) (br + 1 + 1) br S s F L w w') : Loop1 st es lo br S V J (t + 1) w' := by
  obtain ⟨F', v', L', h', hf, hmo⟩ := h.met hJB hB hlb hm
  refine ⟨F', v', L', h', fun k s' hk hs' => ?_⟩
  by_cases e : k = t
  · subst e
    obtain rfl : s = s' := by omega
    exact hf
  · exact hmo.1 s' (ht k s' (by omega) hs')
theorem Loop3.step {k s u i b : Nat} (h : RI st es lo br S V J F v L G w) (h1 : StartF st F st.length) (h2 : DoneF es F L k) (h3 : k < L.length) (h4 : L.getD k 0 = (s : Int)) (h5 : GaveF G L (k + 1)) (h6 : PartF es F s u)
    (hJB : ∀ G W1 W2, J G W1 → Below B W1 W2 → J G W2) (hB : B ≤ lo) (hlb : lo ≤ br) (hi : (fromL es s es.length).getD u 0 = (i : Int)) (hb : (es.getD i ed0).t = (b : Int))
    (hm : MetR st es (br + 1 + 1 + 1) (br + 1) (br + 1 + 1) br S b F L w w') : Loop3 st es lo br S V J k s (u + 1) w' := by
  obtain ⟨F', v', L', h', hf, hmo⟩ := h.met hJB hB hlb hm
  exact ⟨F', v', L', G, h', h1.more hmo, h2.more hmo (by omega), Nat.lt_of_lt_of_le h3 hmo.len, (hmo.at_ h3).trans h4, fun j => by rw [hmo.take (by omega)]; exact h5 j, (h6.more hmo).step hi hb hf⟩
theorem Loop2.step {k s : Nat} (h : Loop3 st es lo br S V J k s (fromL es s es.length).length w) : Loop2 st es lo br S V J (k + 1) w := by
  obtain ⟨F, v, L, G, h, h1, h2, h3, h4, h5, h6⟩ := h
  exact ⟨F, v, L, G, h, h1, h2.step h4 h6, h3, h5⟩
theorem Loop2.gives {k : Nat} (h : RI st es lo br S V J F v L G w) (h1 : StartF st F st.length) (h2 : DoneF es F L k) (h5 : GaveF G L k) (hk : k = L.length) : (∀ i, G i = true ↔ Rch st es i) ∧ J G w := by
  subst hk
  refine ⟨fun i => ?_, h.1⟩
  rw [h5 i, List.take_length, ← h.2.2.1.mem i]
  exact all_done h.2.2.1 h1 h2 i
end

/-- What the iterator reads of the automaton. -/
def ReSt (bw : Nat) (P : Int) (S : Nat) (A : Option Addr) (n c : Nat) (K M : Int) (E : Option Addr) (ne ce : Nat) (st : List Int) (es : List Ed) (w : World) : Prop :=
  Box6 w bw P S A n c K M E ne ce ∧ Ints w A n st ∧ EdgesAt w E ne es

set_option maxRecDepth 100000 in
set_option maxHeartbeats 4000000 in
theorem reach1_in (q : Nat) (hq : 1 ≤ q) (l bw : Nat) (P : Int) (S : Nat) (K M : Int) (A E : Option Addr) (n c ne ce : Nat) (st : List Int) (es : List Ed) (hn : n ≤ 17592186044416) (hS : S ≤ 3000) (hne : ne ≤ 40000)
    (hst : ∀ j, j < n → ∃ s : Nat, st.getD j 0 = (s : Int) ∧ s < S)
    (hes : ∀ j, j < ne → ∃ a b : Nat, (es.getD j ed0).f = (a : Int) ∧ (es.getD j ed0).t = (b : Int) ∧ a < S ∧ b < S)
    (J : (Nat → Bool) → World → Prop) (B : Nat)
    (hJB : ∀ G W1 W2, J G W1 → Below B W1 W2 → J G W2) (hJS : ∀ G W1, J G W1 → ReSt bw P S A n c K M E ne ce st es W1)
    (hY : ∀ G (x : Nat) W1, J G W1 → x < S → YieldAt Fence.wide (q - 1) Try.prog l #[.int .i64 x] W1 fun e W' => e = .returned (.bool true) ∧ J (updB G x) W' ∧ Over B W1 W')
    (W : World) (hB : B ≤ W.heap.size) (h0 : J (fun _ => false) W) :
    CallsIn Fence.wide q Try.prog 61 #[.func (.yield l) #[] #[], .pointer (some ⟨bw, 0, none⟩)] W fun e W' => (∃ v, e = .returned v) ∧ ∃ G, (∀ i, G i = true ↔ Rch st es i) ∧ J G W' := by
  have hmk := run_make_row' (P := Try.prog) 31 4 (.bool false) 1 Try.underlying31 bool_info rfl .i64 .i64 S (by omega) (by omega)
  obtain ⟨⟨z0, p0, p1, p2, p3, p4, p5⟩, hI, hE⟩ := hJS _ W h0
  have hl := hE.1
  have HO := Lib.hid (outgoing_any P S K M A E n c ne ce es W hE hS hne (fun j hj => (hes j hj).imp fun a ha => ⟨ha.choose_spec.1, ha.choose_spec.2.2.1⟩))
  have HJB := Lib.hid hJB
  have HJS := Lib.hid hJS
  have HY := Lib.hid hY
  have HST := Lib.hid hst
  have HES := Lib.hid hes
  have H0 := Lib.hid h0
  have HLE := Lib.hid hl
  have HLS := Lib.hid hI.1
  clear hJB hJS hY hst hes h0 hl hI hE
  refine callsIn_of_wp Try.func61 rfl trivial ?_ rfl
  simp only [Try.ntmps61, List.size_toArray, List.length_cons, List.length_nil, Nat.reduceAdd, Nat.reduceSub, Array.replicate_succ, Array.replicate_zero, List.push_toArray, List.append_toArray, List.nil_append, List.cons_append]
  gi_wp2_with fail
  refine ⟨trivial, (callsIn_wide.2 HO.out).mono ?_⟩
  rintro r W1 ⟨V, rfl, hrow, hrows, hb1⟩
  have HOUT := Lib.hid (OutAt.of_rows HLE.out hrow hrows)
  have HB1 := Lib.hid hb1
  have r1 := (hb1.cell (p := ⟨bw, 1, none⟩) z0).trans p1
  have r2 := (hb1.cell (p := ⟨bw, 2, none⟩) z0).trans p2
  have hz1 := Nat.lt_of_lt_of_le z0 hb1.size
  clear hrow hrows hb1 p0 p1 p2 p3 p4 p5
  have HB4 := Lib.hid (show Below W1.heap.size W1 (((W1.alloc (.cells (madeCells #[.bool false] S) 4)).alloc (.cells #[.slice (some ⟨W1.heap.size, 0, none⟩) S S] 31)).alloc (.cells #[.slice none 0 0] 22)) from (((Below.refl _ _).alloc (Nat.le_refl _) _).alloc (by simp) _).alloc (by simp; omega) _)
  have k2 := (HB4.out.cell (p := ⟨bw, 2, none⟩) hz1).trans r2
  gi_wp2_with fail
  have hb1s := HB1.out.size
  obtain ⟨W4, hW4⟩ : ∃ W4, (((W1.alloc (.cells (madeCells #[.bool false] S) 4)).alloc (.cells #[.slice (some ⟨W1.heap.size, 0, none⟩) S S] 31)).alloc (.cells #[.slice none 0 0] 22)) = W4 := ⟨_, rfl⟩
  have HI0 := Lib.hid (show Loop1 st es W.heap.size W1.heap.size S V J 0 W4 by
    have hrw : RowF W4 W1.heap.size S (fun _ => false) := by
      rw [← hW4]
      exact RowF.alloc (RowF.alloc (World.rowIs_made W1 _ S _) _) _
    have b1 := Boxed.new (W1.alloc (.cells (madeCells #[.bool false] S) 4)) 31 (.slice (some ⟨W1.heap.size, 0, none⟩) S S)
    have b2 := Boxed.new ((W1.alloc (.cells (madeCells #[.bool false] S) 4)).alloc (.cells #[.slice (some ⟨W1.heap.size, 0, none⟩) S S] 31)) 22 (.slice none 0 0)
    have b1' := b1.alloc (.cells #[.slice none 0 0] 22)
    simp only [World.size_alloc] at b1' b2
    have hz4 : W4.heap.size = W1.heap.size + 1 + 1 + 1 := by rw [← hW4]; simp
    rw [hW4] at b1' b2
    have hb14 : Below W1.heap.size W1 W4 := by rw [← hW4]; exact HB4.out
    exact ⟨fun _ => false, .slice none 0 0, [], ⟨HJB.out _ _ _ (HJB.out _ _ _ H0.out (HB1.out.mono hB)) (hb14.mono (by omega)), ⟨b1'.cell, hrw, b2.cell, b2.frozen, World.ownsRow_nil _ _ _ _, ⟨by omega, by omega, by omega, by omega, by omega, by omega⟩, by omega⟩, Mets.start st es S, HOUT.out.kept (fun j _ h2 => hb14.block j h2)⟩, fun k s hk => by omega⟩)
  rw [hW4]
  clear hW4 k2 HB4 r1 r2 hmk
  gi_loopw [21] (fun i wr => ∃ t : Nat, t ≤ n ∧ i = .int .i64 t ∧ Hid (Loop1 st es W.heap.size W1.heap.size S V J t wr)) (fun i wr => n - (intOf i).toNat)
  case atStart => exact ⟨0, by omega, rfl, HI0.out⟩
  case round =>
    clear HI0
    obtain ⟨t, ht, rfl, HL⟩ := hrel
    have hti : (0 : Int) ≤ (t : Int) := by omega
    by_cases hlt : t < n
    · have hti2 : (t : Int) < (n : Int) := by omega
      obtain ⟨F, v, L, hRI, hSt⟩ := HL.out
      obtain ⟨b, off, rfl, hbl, hcell⟩ := (HJS.out _ _ hRI.1).2.1.at_ hlt
      obtain ⟨s, hs, hsS⟩ := HST.out t hlt
      have hct := hcell t hlt
      rw [hs] at hct
      have HC := Lib.hid (meet_any st es _ _ _ _ S s F v L wr hRI.2.1 hRI.2.2.1 hsS hS (.start t s (by rw [HLS.out]; exact hlt) hs))
      have HN := Lib.hid (fun w' => Loop1.step (w' := w') hRI hSt HJB.out hB hb1s hs)
      clear hcell hRI hSt HL hs
      gi_wp2_with fail
      refine ⟨trivial, (callsIn_wide.2 HC.out).mono ?_⟩
      rintro r w3 ⟨⟨rv, rfl⟩, hmet⟩
      have HN2 := Lib.hid (HN.out w3 hmet)
      clear hmet HN HC hct
      gi_wp2_with fail
      go_roundw
      case rel => exact ⟨t + 1, by omega, by go_num, HN2⟩
      case measure => simp [intOf]; omega
    · obtain rfl : t = n := by omega
      have HL2 := Lib.hid (show Loop2 st es W.heap.size W1.heap.size S V J 0 wr by
        obtain ⟨F, v, L, hRI, hSt⟩ := HL.out
        exact ⟨F, v, L, _, hRI, by rw [HLS.out]; exact hSt, fun j k' a b hj => by omega, Nat.zero_le _, GaveF.zero L⟩)
      clear HL
      gi_wp2_with fail
      gi_loopw [9] (fun i wr => ∃ k : Nat, k ≤ S ∧ i = .int .i64 k ∧ Hid (Loop2 st es W.heap.size W1.heap.size S V J k wr)) (fun i wr => S - (intOf i).toNat)
      case atStart => exact ⟨0, by omega, rfl, HL2.out⟩
      case round =>
        clear HL2 hti ht hlt
        obtain ⟨k, hkS, rfl, HL⟩ := hrel
        have hti : (0 : Int) ≤ (k : Int) := by omega
        obtain ⟨F, v, L, G, hRI, h1, h2, h3, h5⟩ := HL.out
        have hw := hRI.2.1.wait
        have hsh := hRI.2.2.1.short
        obtain ⟨Av, cv, hve, hcv⟩ := own_slice hRI.2.1.own
        have hints := hRI.2.1.own
        rw [hve] at hw hints
        by_cases hlt : k < L.length
        · have hti2 : (k : Int) < (L.length : Int) := by omega
          obtain ⟨s, hs, hsS⟩ := hRI.2.2.1.lt (L.getD k 0) (by rw [List.getD_eq_getElem?_getD, List.getElem?_eq_getElem hlt]; exact List.getElem_mem hlt)
          obtain ⟨b, off, rfl, hbl, hcell⟩ := (Ints.of_own hints).2 (by omega)
          have hct := hcell k hlt
          rw [hs] at hct
          obtain ⟨fn, tmps, assign, body, hy, hR⟩ := HY.out G s wr hRI.1 hsS
          have HRI := Lib.hid hRI
          have HX := Lib.hid (show StartF st F st.length ∧ DoneF es F L k ∧ L.getD k 0 = (s : Int) ∧ GaveF G L k from ⟨h1, h2, hs, h5⟩)
          have HVE := Lib.hid hve
          generalize hLl : L.length = m at *
          have HLL := Lib.hid hLl
          clear hLl hcell hRI hs h1 h2 h5 hints HL hve
          gi_wp2_with fail
          refine hR.mono ?_
          rintro e w3 ⟨rfl, hJ3, hO3⟩
          have hR3 := HRI.out.gave hO3 hJ3 hB hb1s
          have k1 := hR3.2.1.wait
          have hints := hR3.2.1.own
          rw [HVE.out] at k1 hints
          rw [HLL.out] at hints
          have HRS := Lib.hid (HRI.out.2.2.1.sound s ((HRI.out.2.2.1.mem s).2 (by rw [← HX.out.2.2.1, List.getD_eq_getElem?_getD, List.getElem?_eq_getElem (by rw [HLL.out]; exact hlt)]; exact List.getElem_mem _)))
          obtain ⟨b', off', he', _, hc'⟩ := (Ints.of_own hints).2 (by omega)
          have k2 := hc' k hlt
          obtain ⟨rfl, rfl⟩ : b = b' ∧ off = off' := by injection he' with he'; injection he' with e1 e2; exact ⟨e1, e2⟩
          rw [HX.out.2.2.1] at k2
          obtain ⟨A4, c4, hV, k4, _⟩ := hR3.2.2.2.2.2 s hsS
          have HV := Lib.hid hV
          have HL3 := Lib.hid (show Loop3 st es W.heap.size W1.heap.size S V J k s 0 w3 from ⟨F, v, L, updB G s, hR3, HX.out.1, HX.out.2.1, by rw [HLL.out]; exact hlt, HX.out.2.2.1, HX.out.2.2.2.step (by rw [HLL.out]; exact hlt) HX.out.2.2.1, PartF.zero es F s⟩)
          have hs0 : (0 : Int) ≤ (s : Int) := by omega
          have hs1 : (s : Int) < (S : Int) := by omega
          obtain ⟨m4, hm4, HM4⟩ : ∃ m4, (fromL es s es.length).length = m4 ∧ Hid ((fromL es s es.length).length = m4) := ⟨_, rfl, rfl⟩
          have hm4b : m4 ≤ 40000 := by rw [← hm4]; have := fromL_len es s es.length; have := HLE.out; omega
          rw [hm4] at k4
          rw [hm4] at hV
          have HV4 := Lib.hid hV
          clear hR3 hints hc' he' hV HV hm4 HRI HX HVE hw hct hJ3 hO3
          gi_wp2_with fail
          gi_loopw [50] (fun i wr => ∃ u : Nat, u ≤ m4 ∧ i = .int .i64 u ∧ Hid (Loop3 st es W.heap.size W1.heap.size S V J k s u wr)) (fun i wr => m4 - (intOf i).toNat)
          case atStart => exact ⟨0, by omega, rfl, HL3.out⟩
          case round =>
            clear HL3 k1 k2 k4
            obtain ⟨u, hu, rfl, HL⟩ := hrel
            have hui : (0 : Int) ≤ (u : Int) := by omega
            by_cases hul : u < m4
            · have hui2 : (u : Int) < (m4 : Int) := by omega
              obtain ⟨F3, v3, L3, G3, hRI, h1, h2, h3, h4, h5, h6⟩ := HL.out
              obtain ⟨A5, c5, hV5, _, hx5⟩ := hRI.2.2.2.2.2 s hsS
              have hV6 := HV4.out.symm.trans hV5
              injection hV6 with e1 e2 e3
              subst e1
              obtain ⟨b5, off5, rfl, _, _, hc5⟩ := hx5 (by rw [HM4.out]; omega)
              have k5 := hc5 u (by rw [HM4.out]; exact hul)
              obtain ⟨i, hi, hine, hif⟩ := fromL_at (es := es) (s := s) (n := es.length) (u := u) (by rw [HM4.out]; exact hul)
              rw [hi] at k5
              have hine2 : i < ne := by have := HLE.out; omega
              obtain ⟨⟨_, _, _, _, _, _, k6⟩, _, hE⟩ := HJS.out _ _ hRI.1
              obtain ⟨b7, off7, rfl, hb7, hc7⟩ := hE.2 (by omega)
              obtain ⟨_, k7, _⟩ := hc7 i hine2
              obtain ⟨x, y, hx, hy, _, hyS⟩ := HES.out i hine2
              rw [hy] at k7
              have hi0 : (0 : Int) ≤ (i : Int) := by omega
              have hi1 : (i : Int) < (ne : Int) := by omega
              have HC := Lib.hid (meet_any st es _ _ _ _ S y F3 v3 L3 wr hRI.2.1 hRI.2.2.1 hyS hS (.edge i s y (by rw [HLE.out]; exact hine2) hif hy HRS.out))
              have HN := Lib.hid (fun w' => Loop3.step (w' := w') hRI h1 h2 h3 h4 h5 h6 HJB.out hB hb1s hi hy)
              clear hRI h1 h2 h3 h4 h5 h6 hV5 hx5 e2 e3 hc5 hi hif hE hc7 hx hy HL hine
              gi_wp2_with fail
              refine ⟨trivial, (callsIn_wide.2 HC.out).mono ?_⟩
              rintro r w8 ⟨⟨rv, rfl⟩, hmet⟩
              have HN2 := Lib.hid (HN.out w8 hmet)
              clear hmet HN HC k5 k6 k7
              gi_wp2_with fail
              go_roundw
              case rel => exact ⟨u + 1, by omega, by go_num, HN2⟩
              case measure => simp [intOf]; omega
            · obtain rfl : u = m4 := by omega
              have HN2 := Lib.hid (Loop2.step (by rw [HM4.out]; exact HL.out))
              clear HL
              gi_wp2_with fail
              go_roundw
              case rel => exact ⟨k + 1, by omega, by go_num, HN2⟩
              case measure => simp [intOf]; omega
        · have HF := Lib.hid (Loop2.gives hRI h1 h2 h5 (by omega))
          obtain rfl : L.length = k := by omega
          clear hRI h1 h2 h5 hints HL hve
          gi_wp2_with fail
          exact bodyPost_end (results_none rfl _ _ _) rfl ⟨⟨_, rfl⟩, G, HF.out⟩

end Go.Proofs.Ytfblnadmbfhjiaa.Wd

namespace Go.Proofs.Ytfblnadmbfhjiaa.Wd
open Go.RowKit
set_option linter.unusedVariables false

/-- A list of bools in memory. -/
def BoolsAt (w : World) (A : Option Addr) (n : Nat) (F : Nat → Bool) : Prop := n = 0 ∨ ∃ b, A = some ⟨b, 0, none⟩ ∧ RowF w b n F
theorem BoolsAt.below {w w' : World} {A : Option Addr} {n : Nat} {F : Nat → Bool} (h : BoolsAt w A n F) (hb : Below w.heap.size w w') : BoolsAt w' A n F :=
  h.imp id fun ⟨b, e, hr⟩ => ⟨b, e, World.rowIs.of_block hr (hb.block _ hr.lt)⟩
def boolsB (n m : Nat) (F G : Nat → Bool) : Bool := decide (n = m) && (List.range n).all fun i => F i == G i
theorem boolsB_len {n m : Nat} {F G : Nat → Bool} (h : ¬ n = m) : boolsB n m F G = false := by unfold boolsB; rw [decide_eq_false h]; rfl
theorem boolsB_all {n : Nat} {F G : Nat → Bool} (h : ∀ i, i < n → F i = G i) : boolsB n n F G = true := by
  unfold boolsB
  rw [decide_eq_true rfl, Bool.true_and, List.all_eq_true]
  intro i hi
  rw [h i (List.mem_range.1 hi)]
  simp
theorem boolsB_part {n i : Nat} {F G : Nat → Bool} (hi : i < n) (h : ¬ F i = G i) : boolsB n n F G = false := by
  unfold boolsB
  rw [decide_eq_true rfl, Bool.true_and, Bool.eq_false_iff]
  intro ht
  exact h (by simpa using List.all_eq_true.1 ht i (List.mem_range.2 hi))

set_option maxHeartbeats 2000000 in
theorem bools_any (A B : Option Addr) (n c m d : Nat) (F G : Nat → Bool) (w : World) (h : BoolsAt w A n F) (h' : BoolsAt w B m G) (hn : n ≤ 100000) (hm : m ≤ 100000) :
    Calls Try.prog 20 #[.slice A n c, .slice B m d] w fun e w' => ∃ k : Nat, e = .returned (.bool (boolsB n m F G)) ∧ w' = w.drewN k := by
  by_cases hl : n = m
  · subst hl
    have hnn : ((n : Int) != (n : Int)) = false := by simp
    go_enter Try.func20, Try.ntmps20
    go_wp2_with fail
    go_loopg [13] n (fun g i wx => ∃ j k : Nat, j + g = n ∧ i = .int .i64 j ∧ wx = w.drewN k ∧ Hid (∀ i, i < j → F i = G i))
    case atStart => exact ⟨0, 0, by omega, rfl, rfl, fun i hi => by omega⟩
    case round =>
      obtain ⟨j, k, hjg, rfl, rfl, HI⟩ := hrel
      have hj0 : (0 : Int) ≤ (j : Int) := by omega
      cases gk with
      | zero =>
        obtain rfl : n = j := by omega
        have HF := Lib.hid (boolsB_all HI.out)
        go_wp2_with fail
        go_ret
        exact ⟨_, ret_bool HF.out.symm, rfl⟩
      | succ g =>
        have hjl : j < n := by omega
        have hjl2 : (j : Int) < (n : Int) := by omega
        obtain ⟨bA, rfl, ra⟩ : ∃ b, A = some ⟨b, 0, none⟩ ∧ RowF w b n F := by rcases h with h | h; exact absurd h (by omega); exact h
        obtain ⟨bB, rfl, rb⟩ : ∃ b, B = some ⟨b, 0, none⟩ ∧ RowF w b n G := by rcases h' with h' | h'; exact absurd h' (by omega); exact h'
        have c1 := ra.cell hjl
        have c2 := rb.cell hjl
        clear h h' ra rb
        have HP := Lib.hid (fun e => boolsB_part (F := F) (G := G) hjl e)
        have HQ := Lib.hid (fun (e : F j = G j) => show ∀ i, i < j + 1 → F i = G i from fun i hi => by
          by_cases hij : i = j
          · subst hij; exact e
          · exact HI.out i (by omega))
        generalize F j = va at *
        generalize G j = vb at *
        cases va <;> cases vb
        · have HN := Lib.hid (HQ.out rfl)
          go_wp2_with fail
          go_quiet (fail)
          go_wp2_with fail
          go_roundg g
          case measure => omega
          case rel => exact ⟨j + 1, _, by omega, by go_num, rfl, HN⟩
        · have HN := Lib.hid (HP.out (by decide))
          go_wp2_with fail
          go_quiet (fail)
          go_wp2_with fail
          go_ret
          exact ⟨_, ret_bool HN.out.symm, World.drewN_drewN _ _ _⟩
        · have HN := Lib.hid (HP.out (by decide))
          go_wp2_with fail
          go_quiet (fail)
          go_wp2_with fail
          go_ret
          exact ⟨_, ret_bool HN.out.symm, World.drewN_drewN _ _ _⟩
        · have HN := Lib.hid (HQ.out rfl)
          go_wp2_with fail
          go_quiet (fail)
          go_wp2_with fail
          go_roundg g
          case measure => omega
          case rel => exact ⟨j + 1, _, by omega, by go_num, rfl, HN⟩
  · have hnn : ((n : Int) != (m : Int)) = true := by simp; omega
    have HF := Lib.hid (boolsB_len (F := F) (G := G) hl)
    go_enter Try.func20, Try.ntmps20
    go_wp2_with fail
    go_ret
    exact ⟨0, ret_bool HF.out.symm, rfl⟩

end Go.Proofs.Ytfblnadmbfhjiaa.Wd

namespace Go.Proofs.Ytfblnadmbfhjiaa.Wd
open Go.RowKit
set_option linter.unusedVariables false

/-- The Start states of a valid automaton are states. -/
theorem start_state {S : Nat} {st : List Int} (h : startB S st = true) : ∀ j, j < st.length → ∃ s : Nat, st.getD j 0 = (s : Int) ∧ s < S := by
  intro j hj
  have h1 := List.all_eq_true.1 h j (List.mem_range.2 hj)
  have h2 := of_decide_eq_true h1
  have h3 : -1 ≤ prv st j := by
    have key : ∀ k, k ≤ st.length → startP S st k = true := fun k hk => by
      unfold startP
      rw [List.all_eq_true]
      intro i hi
      exact List.all_eq_true.1 h i (List.mem_range.2 (by have := List.mem_range.1 hi; omega))
    exact prv_low (key j (by omega))
  exact ⟨(st.getD j 0).toNat, by omega, by omega⟩
/-- Both ends of a valid automaton's edges are states. -/
theorem ends_state {P M S : Nat} {es : List Ed} (h : edgesB P S M es = true) : ∀ j, j < es.length → ∃ a b : Nat, (es.getD j ed0).f = (a : Int) ∧ (es.getD j ed0).t = (b : Int) ∧ a < S ∧ b < S := by
  intro j hj
  have h1 := of_decide_eq_true (edge_ok h hj)
  exact ⟨(es.getD j ed0).f.toNat, (es.getD j ed0).t.toNat, by omega, by omega, by omega, by omega⟩

/-- What Reach comes to. -/
def ReaR (P S K M : Int) (st : List Int) (es : List Ed) (n : Nat) (F : Nat → Bool) (code : Int) : Prop :=
  (autB P S K M st es = false ∧ n = 0 ∧ code = 1) ∨ (autB P S K M st es = true ∧ n = S.toNat ∧ (∀ i, i < n → (F i = true ↔ Rch st es i)) ∧ code = 0)
theorem ReaR.unique {P S K M : Int} {st : List Int} {es : List Ed} {n n' : Nat} {F F' : Nat → Bool} {c c' : Int} (h : ReaR P S K M st es n F c) (h' : ReaR P S K M st es n' F' c') : boolsB n n' F F' = true ∧ c = c' := by
  rcases h with ⟨a1, rfl, rfl⟩ | ⟨a1, rfl, a2, rfl⟩ <;> rcases h' with ⟨b1, rfl, rfl⟩ | ⟨b1, rfl, b2, rfl⟩
  · exact ⟨boolsB_all (fun i hi => by omega), rfl⟩
  · rw [a1] at b1; cases b1
  · rw [a1] at b1; cases b1
  · refine ⟨boolsB_all (fun i hi => ?_), rfl⟩
    have h1 := (a2 i hi).trans (b2 i hi).symm
    cases hF : F i <;> cases hF' : F' i <;> simp_all
def ResF5 (w w' : World) (P S K M : Int) (st : List Int) (es : List Ed) (e : Ending) : Prop :=
  ∃ A n c F code, e = .returned (.tuple #[.slice A n c, .int .i64 code]) ∧ BoolsAt w' A n F ∧ n ≤ 3000 ∧ Hid (ReaR P S K M st es n F code) ∧ Below w.heap.size w w'

set_option maxRecDepth 100000 in
set_option maxHeartbeats 2000000 in
theorem refReach_any (hV : RefValidOK) (P S K M : Int) (A E : Option Addr) (n c ne ce : Nat) (st : List Int) (es : List Ed) (w : World) (ha : Ints w A n st) (hn : n ≤ 17592186044416) (he : EdgesAt w E ne es) (hne : ne ≤ 17592186044416) :
    Calls Try.prog 15 #[.agg #[.int .i64 P, .int .i64 S, .slice A n c, .int .i64 K, .int .i64 M, .slice E ne ce]] w fun e w' => ResF5 w w' P S K M st es e := by
  have HV := Lib.hid (fun W (hW : Below w.heap.size w W) => hV P S K M A E n c ne ce st es W (ha.below hW) hn (he.below hW) hne)
  cases hv : autB P S K M st es
  · have HF := Lib.hid hv
    rw [hv] at HV
    clear hv ha he hV
    go_enter Try.func15, Try.ntmps15
    go_wp2_with fail
    refine (HV.out _ ((Below.refl _ _).alloc (Nat.le_refl _) _)).mono ?_
    rintro r w1 ⟨rfl, hb1⟩
    have HB1 := Lib.hid (boxB hb1)
    clear hb1
    go_wp2_with fail
    go_ret2
    exact ⟨none, 0, 0, fun _ => false, 1, rfl, .inl rfl, by omega, .inl ⟨HF.out, rfl, rfl⟩, HB1.out⟩
  · obtain ⟨⟨h1, h2, h5, h6, _⟩, _, hs, h4, h7⟩ := autB_true hv
    obtain ⟨s, rfl⟩ := Int.eq_ofNat_of_zero_le h5
    have hL := he.1
    have hL2 := ha.1
    have HO := Lib.hid (fun W (hW : Below w.heap.size w W) => refReached_any P s K M A E n c ne ce st es W (ha.below hW) hn (he.below hW) (by omega) (by omega) (fun j hj => start_state hs j (by rw [hL2]; exact hj)) (fun j hj => ends_state h7 j (by rw [hL]; exact hj)))
    have HX := Lib.hid (Box6.new w P s A n c K M E ne ce 25)
    have HV2 := Lib.hid hv
    have hs3 : s ≤ 3000 := by omega
    rw [hv] at HV
    clear hv ha he hV h1 h2 h4 h5 h6 h7 hL hL2 hs
    go_enter Try.func15, Try.ntmps15
    go_wp2_with fail
    refine (HV.out _ ((Below.refl _ _).alloc (Nat.le_refl _) _)).mono ?_
    rintro r w1 ⟨rfl, hb1⟩
    obtain ⟨hz, p0, p1, p2, p3, p4, p5⟩ := HX.out.below hb1
    have HB1 := Lib.hid (boxB hb1)
    clear hb1
    go_wp2_with fail
    refine (HO.out _ HB1.out).mono ?_
    rintro r w2 ⟨b, F, rfl, hrow, hF, _, hb2⟩
    have HROW := Lib.hid hrow
    have HFF := Lib.hid hF
    have HB2 := Lib.hid (HB1.out.trans (hb2.mono HB1.out.size))
    clear hb2 hrow hF
    go_wp2_with fail
    go_ret2
    exact ⟨_, _, _, F, _, rfl, .inr ⟨b, rfl, HROW.out⟩, hs3, .inr ⟨HV2.out, by simp, fun i _ => HFF.out i, rfl⟩, HB2.out⟩

end Go.Proofs.Ytfblnadmbfhjiaa.Wd

namespace Go.Proofs.Ytfblnadmbfhjiaa.Wd
open Go.RowKit Go.Shelf
set_option linter.unusedVariables false

attribute [local go_sem] Oper.semAt_some

set_option maxHeartbeats 1000000 in
theorem reachable_in (q : Nat) (P S : Int) (A E : Option Addr) (n c : Nat) (K M : Int) (ne ce : Nat) (w : World) :
    CallsIn Fence.wide q Try.prog 40 #[.agg #[.int .i64 P, .int .i64 S, .slice A n c, .int .i64 K, .int .i64 M, .slice E ne ce]] w fun e w' => e = .returned (.func (.func 61) #[] #[.pointer (some ⟨w.heap.size, 0, none⟩)]) ∧ w' = w.alloc (.cells #[.int .i64 P, .int .i64 S, .slice A n c, .int .i64 K, .int .i64 M, .slice E ne ce] 25) := by
  refine callsIn_of_wp Try.func40 rfl trivial ?_ rfl
  simp only [Try.ntmps40, List.size_toArray, List.length_cons, List.length_nil, Nat.reduceAdd, Nat.reduceSub, Array.replicate_succ, Array.replicate_zero, List.push_toArray, List.append_toArray, List.nil_append, List.cons_append]
  gi_wp2
  go_ret
  exact ⟨rfl, rfl⟩

/-- Between two rounds. -/
def GotI (w0 : World) (ib ir bw : Nat) (P : Int) (S : Nat) (A : Option Addr) (n c : Nat) (K M : Int) (E : Option Addr) (ne ce : Nat) (G : Nat → Bool) (W : World) : Prop :=
  Boxed W ib 31 (.slice (some ⟨ir, 0, none⟩) S S) ∧ RowF W ir S G ∧ Box6 W bw P S A n c K M E ne ce ∧ Below w0.heap.size w0 W

theorem GotI.kept {w0 W1 W2 : World} {ib ir bw : Nat} {P : Int} {S : Nat} {A : Option Addr} {n c : Nat} {K M : Int} {E : Option Addr} {ne ce : Nat} {G : Nat → Bool} {B : Nat} (h : GotI w0 ib ir bw P S A n c K M E ne ce G W1) (hb : Below B W1 W2) (h1 : ib < B) (h2 : ir < B) (h3 : bw < B) (h4 : w0.heap.size ≤ B) :
    GotI w0 ib ir bw P S A n c K M E ne ce G W2 := by
  obtain ⟨a1, a2, ⟨z, p0, p1, p2, p3, p4, p5⟩, a4⟩ := h
  exact ⟨(hb.block _ h1).trans a1, World.rowIs.of_block a2 (hb.block _ h2), ⟨Nat.lt_of_lt_of_le z hb.size, (hb.cell (p := ⟨bw, 0, none⟩) h3).trans p0, (hb.cell (p := ⟨bw, 1, none⟩) h3).trans p1, (hb.cell (p := ⟨bw, 2, none⟩) h3).trans p2, (hb.cell (p := ⟨bw, 3, none⟩) h3).trans p3, (hb.cell (p := ⟨bw, 4, none⟩) h3).trans p4, (hb.cell (p := ⟨bw, 5, none⟩) h3).trans p5⟩, a4.trans (hb.mono h4)⟩
theorem GotI.put {w0 W : World} {ir : Nat} {P : Int} {S : Nat} {A : Option Addr} {n c : Nat} {K M : Int} {E : Option Addr} {ne ce : Nat} {G : Nat → Bool} {x : Nat} (h : GotI w0 (ir + 1) ir (ir + 1 + 1) P S A n c K M E ne ce G W) (hw : w0.heap.size ≤ ir) :
    GotI w0 (ir + 1) ir (ir + 1 + 1) P S A n c K M E ne ce (updB G x) (W.setCell ⟨ir, x, none⟩ (.bool true)) := by
  obtain ⟨a1, a2, ⟨z, p0, p1, p2, p3, p4, p5⟩, a4⟩ := h
  have hh := Below.heap_setCell W ⟨ir, x, none⟩ (.bool true)
  have hc : ∀ i, (W.setCell ⟨ir, x, none⟩ (.bool true)).cell? ⟨ir + 1 + 1, i, none⟩ = W.cell? ⟨ir + 1 + 1, i, none⟩ := fun i => World.cell?_of_block (a := ⟨ir + 1 + 1, i, none⟩) (hh (ir + 1 + 1) (by show ir + 1 + 1 ≠ ir; omega))
  exact ⟨(hh (ir + 1) (by show ir + 1 ≠ ir; omega)).trans a1, a2.upd, ⟨by simpa using z, (hc 0).trans p0, (hc 1).trans p1, (hc 2).trans p2, (hc 3).trans p3, (hc 4).trans p4, (hc 5).trans p5⟩, a4.setCell (p := ⟨ir, x, none⟩) hw _⟩

set_option maxRecDepth 100000 in
set_option maxHeartbeats 4000000 in
theorem reach_good (P : Int) (S : Nat) (K M : Int) (A E : Option Addr) (n c ne ce : Nat) (st : List Int) (es : List Ed) (w : World) (ha : Ints w A n st) (hn : n ≤ 17592186044416) (he : EdgesAt w E ne es) (hne : ne ≤ 40000) (hS : S ≤ 3000) (hv : autB P S K M st es = true) (hs : startB S st = true) (h7 : edgesB P.toNat S M.toNat es = true) :
    Calls Try.prog 14 #[.agg #[.int .i64 P, .int .i64 S, .slice A n c, .int .i64 K, .int .i64 M, .slice E ne ce]] w fun e w' => ResF5 w w' P S K M st es e := by
  have hmk := run_make_row' (P := Try.prog) 31 4 (.bool false) 1 Try.underlying31 bool_info rfl .i64 .i64 S (by omega) (by omega)
  have HV := Lib.hid (fun W (hW : Below w.heap.size w W) => autValid_any P S K M A E n c ne ce st es W (ha.below hW) hn (he.below hW) (by omega))
  rw [hv] at HV
  have HVV := Lib.hid hv
  have HST := Lib.hid (fun j hj => start_state hs j (by rw [ha.1]; exact hj))
  have HES := Lib.hid (fun j hj => ends_state h7 j (by rw [he.1]; exact hj))
  have HA := Lib.hid ha
  have HE := Lib.hid he
  have HX := Lib.hid (Box6.new w P S A n c K M E ne ce 25)
  clear hv hs h7 ha he
  refine (callsIn_wide (n := 4)).1 ?_
  refine callsIn_of_wp_marks Try.func14 rfl trivial ?_ rfl
  simp only [Try.ntmps14, List.size_toArray, List.length_cons, List.length_nil, Nat.reduceAdd, Nat.reduceSub, Array.replicate_succ, Array.replicate_zero, List.push_toArray, List.append_toArray, List.nil_append, List.cons_append]
  gi_wp2_with fail
  refine ⟨trivial, (callsIn_wide.2 (HV.out _ ((Below.refl _ _).alloc (Nat.le_refl _) _))).mono ?_⟩
  rintro r w1 ⟨rfl, hb1⟩
  obtain ⟨hz, p0, p1, p2, p3, p4, p5⟩ := HX.out.below hb1
  have HX1 := Lib.hid (HX.out.below hb1)
  have HB1 := Lib.hid (boxB hb1)
  clear hb1
  gi_wp2_with fail
  refine ⟨trivial, (reachable_in _ P S A E n c K M ne ce _).mono ?_⟩
  rintro e w' ⟨rfl, rfl⟩
  gi_wp2_with fail
  have hw1 := HB1.out.size
  obtain ⟨W0, hW0⟩ : ∃ W0, (((w1.alloc (.cells (madeCells #[.bool false] S) 4)).alloc (.cells #[.slice (some ⟨w1.heap.size, 0, none⟩) S S] 31)).alloc (.cells #[.int .i64 P, .int .i64 S, .slice A n c, .int .i64 K, .int .i64 M, .slice E ne ce] 25)) = W0 := ⟨_, rfl⟩
  have HSZ := Lib.hid (show W0.heap.size = w1.heap.size + 1 + 1 + 1 by rw [← hW0]; simp)
  have HG0 := Lib.hid (show GotI w (w1.heap.size + 1) w1.heap.size (w1.heap.size + 1 + 1) P S A n c K M E ne ce (fun _ => false) W0 by
    have b1 := (Boxed.new (w1.alloc (.cells (madeCells #[.bool false] S) 4)) 31 (.slice (some ⟨w1.heap.size, 0, none⟩) S S)).alloc (.cells #[.int .i64 P, .int .i64 S, .slice A n c, .int .i64 K, .int .i64 M, .slice E ne ce] 25)
    have b2 := Box6.new ((w1.alloc (.cells (madeCells #[.bool false] S) 4)).alloc (.cells #[.slice (some ⟨w1.heap.size, 0, none⟩) S S] 31)) P S A n c K M E ne ce 25
    simp only [World.size_alloc] at b1 b2
    have hbl : Below w1.heap.size w1 W0 := by rw [← hW0]; exact (((Below.refl _ _).alloc (Nat.le_refl _) _).alloc (by simp) _).alloc (by simp; omega) _
    rw [hW0] at b1 b2
    refine ⟨b1, ?_, b2, HB1.out.trans (hbl.mono hw1)⟩
    rw [← hW0]
    exact RowF.alloc (RowF.alloc (World.rowIs_made w1 _ S _) _) _)
  rw [hW0]
  clear hW0 hmk
  refine range_whole (F := Fence.wide) (n := 4) rfl (by omega) (gf := 61) (lb := #[.pointer (some ⟨w1.heap.size + 1 + 1, 0, none⟩)]) rfl trivial (enters_of Try.func61 (by kernel_rfl) rfl)
    (fun x => .int .i64 (x : Nat)) S updB (fun _ => false) (fun G => ∀ i, G i = true ↔ Rch st es i) (ReSt (w1.heap.size + 1 + 1) P S A n c K M E ne ce st es) rfl
    (fun l J W hJB hJS hY hB h0 => reach1_in 3 (by omega) l (w1.heap.size + 1 + 1) P S K M A E n c ne ce st es hn hS hne HST.out HES.out J (W0.heap.size + 2) hJB hJS hY W hB h0)
    (GotI w (w1.heap.size + 1) w1.heap.size (w1.heap.size + 1 + 1) P S A n c K M E ne ce)
    (fun G W1 W2 h hb => h.kept hb (by rw [HSZ.out]; omega) (by rw [HSZ.out]; omega) (by rw [HSZ.out]; omega) (by rw [HSZ.out]; omega))
    (fun G W h => ⟨h.2.2.1, HA.out.below h.2.2.2, HE.out.below h.2.2.2⟩) HG0.out
    (fun x => { tmps := #[.agg #[.int .i64 P, .int .i64 S, .slice A n c, .int .i64 K, .int .i64 M, .slice E ne ce], .pointer (some ⟨w.heap.size, 0, none⟩), .slice none 0 0, .int .i64 0, .pointer (some ⟨w1.heap.size + 1, 0, none⟩), x,
      .agg #[.int .i64 P, .int .i64 S, .slice A n c, .int .i64 K, .int .i64 M, .slice E ne ce], .bool true, .bool false, .pointer (some ⟨w.heap.size, 1, none⟩), .int .i64 S, .slice (some ⟨w1.heap.size, 0, none⟩) S S,
      .agg #[.int .i64 P, .int .i64 S, .slice A n c, .int .i64 K, .int .i64 M, .slice E ne ce], .func (.func 61) #[] #[.pointer (some ⟨w1.heap.size + 1 + 1, 0, none⟩)], x, undef, undef, undef, undef], defers := [] }) ?assign ?body ?done
  case assign =>
    intro l x W Kk hK
    gi_wp2
    exact hK
  case body =>
    intro l G x W h hx hle
    have HH := Lib.hid h
    have k1 := h.1.cell
    have k2 := h.2.1.cell hx
    have k3 := h.2.1.free x
    have hx0 : (0 : Int) ≤ (x : Int) := by omega
    have hx1 : (x : Int) < (S : Int) := by omega
    clear h
    gi_wp2_with fail
    exact ⟨Over.setCell _ _ (by rw [HSZ.out]; show w1.heap.size < _; omega) _, HH.out.put hw1⟩
  case done =>
    intro D G W hD hR h hK
    have HH := Lib.hid h
    have HR := Lib.hid hR
    have k1 := h.1.cell
    clear h hR
    gi_wp2_with fail
    refine ⟨by simp, .inl ⟨_, _, rfl, run_takeDeferred hK, ?_⟩⟩
    have HH2 := HH.out.kept (below_putObj W (.deferred none) hD) (by rw [HSZ.out]; omega) (by rw [HSZ.out]; omega) (by rw [HSZ.out]; omega) (by rw [HSZ.out]; omega)
    exact ⟨_, results_tmp2 rfl _ _ _, some ⟨w1.heap.size, 0, none⟩, S, S, G, 0, rfl, .inr ⟨_, rfl, HH2.2.1⟩, hS, .inr ⟨HVV.out, by simp, fun i _ => HR.out i, rfl⟩, HH2.2.2.2⟩

set_option maxRecDepth 100000 in
set_option maxHeartbeats 2000000 in
theorem reach_any (P S K M : Int) (A E : Option Addr) (n c ne ce : Nat) (st : List Int) (es : List Ed) (w : World) (ha : Ints w A n st) (hn : n ≤ 17592186044416) (he : EdgesAt w E ne es) (hne : ne ≤ 17592186044416) :
    Calls Try.prog 14 #[.agg #[.int .i64 P, .int .i64 S, .slice A n c, .int .i64 K, .int .i64 M, .slice E ne ce]] w fun e w' => ResF5 w w' P S K M st es e := by
  cases hv : autB P S K M st es
  · have HV := Lib.hid (fun W (hW : Below w.heap.size w W) => autValid_any P S K M A E n c ne ce st es W (ha.below hW) hn (he.below hW) hne)
    have HF := Lib.hid hv
    rw [hv] at HV
    clear hv ha he
    go_enter Try.func14, Try.ntmps14
    go_wp2_with fail
    refine (HV.out _ ((Below.refl _ _).alloc (Nat.le_refl _) _)).mono ?_
    rintro r w1 ⟨rfl, hb1⟩
    have HB1 := Lib.hid (boxB hb1)
    clear hb1
    go_wp2_with fail
    go_ret2
    exact ⟨none, 0, 0, fun _ => false, 1, rfl, .inl rfl, by omega, .inl ⟨HF.out, rfl, rfl⟩, HB1.out⟩
  · obtain ⟨⟨h1, h2, h5, h6, _⟩, _, hs, h4, h7⟩ := autB_true hv
    obtain ⟨s, rfl⟩ := Int.eq_ofNat_of_zero_le h5
    have hL := he.1
    exact reach_good P s K M A E n c ne ce st es w ha hn he (by omega) (by omega) hv hs h7

end Go.Proofs.Ytfblnadmbfhjiaa.Wd

namespace Go.Proofs.Ytfblnadmbfhjiaa.Wd
open Go.RowKit
set_option linter.unusedVariables false

/-- Is the automaton small? -/
def few5B (X Y Z P S K M : Int) (st : List Int) (es : List Ed) (n ne : Nat) : Bool := (decide ((ne : Int) ≤ Y) && decide ((n : Int) ≤ X + 1000)) && (!autB P S K M st es || (decide (S ≤ X) && decide (M ≤ Z)))

set_option maxRecDepth 100000 in
set_option maxHeartbeats 4000000 in
theorem few5_any (hV : RefValidOK) (X Y Z P S K M : Int) (A E : Option Addr) (n c ne ce g : Nat) (st : List Int) (es : List Ed) (w : World) (hX : 0 ≤ X) (hX2 : X ≤ 100000) (ha : Ints w A n st) (hn : n ≤ 17592186044416) (he : EdgesAt w E ne es) (hne : ne ≤ 17592186044416) (hbox : Box6 w g P S A n c K M E ne ce) :
    Calls Try.prog 8 #[.int .i64 X, .int .i64 Y, .int .i64 Z, .slice (some ⟨g, 0, none⟩) 1 1] w fun e w' => e = .returned (.bool (few5B X Y Z P S K M st es n ne)) ∧ Below w.heap.size w w' := by
  have HV := Lib.hid (fun W (hW : Below w.heap.size w W) => hV P S K M A E n c ne ce st es W (ha.below hW) hn (he.below hW) hne)
  have HX := Lib.hid (Box6.new w P S A n c K M E ne ce 25)
  obtain ⟨hz, p0, p1, p2, p3, p4, p5⟩ := hbox
  obtain ⟨vb, hvb, HVB⟩ : ∃ vb, autB P S K M st es = vb ∧ Hid (autB P S K M st es = vb) := ⟨_, rfl, rfl⟩
  rw [hvb] at HV
  have HF := Lib.hid (show few5B X Y Z P S K M st es n ne = ((decide ((ne : Int) ≤ Y) && decide ((n : Int) ≤ X + 1000)) && (!vb || (decide (S ≤ X) && decide (M ≤ Z)))) by unfold few5B; rw [hvb])
  clear hvb ha he hV
  generalize few5B X Y Z P S K M st es n ne = R at *
  have hn0 : (0 : Int) ≤ (n : Int) := by omega
  have hne0 : (0 : Int) ≤ (ne : Int) := by omega
  rcases Int.lt_or_le Y (ne : Int) with h1 | h1
  · have HR := Lib.hid (show R = false by rw [HF.out, decide_eq_false (show ¬ (ne : Int) ≤ Y by omega)]; rfl)
    go_enter Try.func8, Try.ntmps8
    go_wp2_with fail
    refine wp_loop_rounds 2 ?_
    rw [rounds_succ]
    go_wp2_with fail
    go_ret
    exact ⟨ret_bool HR.out.symm, (Below.refl _ _).alloc (Nat.le_refl _) _⟩
  rcases Int.lt_or_le (X + 1000) (n : Int) with h2 | h2
  · have HR := Lib.hid (show R = false by rw [HF.out, decide_eq_false (show ¬ (n : Int) ≤ X + 1000 by omega)]; simp)
    have h1' : ¬ Y < (ne : Int) := by omega
    go_enter Try.func8, Try.ntmps8
    go_wp2_with fail
    refine wp_loop_rounds 2 ?_
    rw [rounds_succ]
    go_wp2_with fail
    go_ret
    exact ⟨ret_bool HR.out.symm, (Below.refl _ _).alloc (Nat.le_refl _) _⟩
  rw [decide_eq_true h1, decide_eq_true h2, Bool.true_and, Bool.true_and] at HF
  have h1' : ¬ Y < (ne : Int) := by omega
  have h2' : ¬ X + 1000 < (n : Int) := by omega
  cases vb
  · have HR := Lib.hid (show R = true by rw [HF.out]; rfl)
    go_enter Try.func8, Try.ntmps8
    go_wp2_with fail
    refine wp_loop_rounds 2 ?_
    rw [rounds_succ]
    go_wp2_with fail
    refine (HV.out _ ((Below.refl _ _).alloc (Nat.le_refl _) _)).mono ?_
    rintro r w1 ⟨rfl, hb1⟩
    have HB1 := Lib.hid (boxB hb1)
    clear hb1
    go_wp2_with fail
    rw [rounds_succ]
    go_wp2_with fail
    go_ret
    exact ⟨ret_bool HR.out.symm, HB1.out⟩
  rw [show (!true) = false from rfl, Bool.false_or] at HF
  rcases Int.lt_or_le X S with h3 | h3
  · have HR := Lib.hid (show R = false by rw [HF.out, decide_eq_false (show ¬ S ≤ X by omega)]; rfl)
    go_enter Try.func8, Try.ntmps8
    go_wp2_with fail
    refine wp_loop_rounds 2 ?_
    rw [rounds_succ]
    go_wp2_with fail
    refine (HV.out _ ((Below.refl _ _).alloc (Nat.le_refl _) _)).mono ?_
    rintro r w1 ⟨rfl, hb1⟩
    obtain ⟨hz1, q0, q1, q2, q3, q4, q5⟩ := HX.out.below hb1
    have HB1 := Lib.hid (boxB hb1)
    clear hb1
    go_wp2_with fail
    go_ret
    exact ⟨ret_bool HR.out.symm, HB1.out⟩
  rw [decide_eq_true h3, Bool.true_and] at HF
  have h3' : ¬ X < S := by omega
  rcases Int.lt_or_le Z M with h4 | h4
  · have HR := Lib.hid (show R = false by rw [HF.out, decide_eq_false (show ¬ M ≤ Z by omega)])
    go_enter Try.func8, Try.ntmps8
    go_wp2_with fail
    refine wp_loop_rounds 2 ?_
    rw [rounds_succ]
    go_wp2_with fail
    refine (HV.out _ ((Below.refl _ _).alloc (Nat.le_refl _) _)).mono ?_
    rintro r w1 ⟨rfl, hb1⟩
    obtain ⟨hz1, q0, q1, q2, q3, q4, q5⟩ := HX.out.below hb1
    have HB1 := Lib.hid (boxB hb1)
    clear hb1
    go_wp2_with fail
    go_ret
    exact ⟨ret_bool HR.out.symm, HB1.out⟩
  · have HR := Lib.hid (show R = true by rw [HF.out, decide_eq_true h4])
    have h4' : ¬ Z < M := by omega
    go_enter Try.func8, Try.ntmps8
    go_wp2_with fail
    refine wp_loop_rounds 2 ?_
    rw [rounds_succ]
    go_wp2_with fail
    refine (HV.out _ ((Below.refl _ _).alloc (Nat.le_refl _) _)).mono ?_
    rintro r w1 ⟨rfl, hb1⟩
    obtain ⟨hz1, q0, q1, q2, q3, q4, q5⟩ := HX.out.below hb1
    have HB1 := Lib.hid (boxB hb1)
    clear hb1
    go_wp2_with fail
    rw [rounds_succ]
    go_wp2_with fail
    go_ret
    exact ⟨ret_bool HR.out.symm, HB1.out⟩

end Go.Proofs.Ytfblnadmbfhjiaa.Wd

namespace Go.Proofs.Ytfblnadmbfhjiaa.Wd
open Go.RowKit
set_option linter.unusedVariables false

theorem letters_01 {xs : List Int} (h : lettersB 2 xs = true) : ∀ x ∈ xs, x = 0 ∨ x = 1 := by
  intro x hx
  unfold lettersB at h
  have := List.all_eq_true.1 h x hx
  simp at this
  omega
theorem IntsN.of {r n : Nat} {w : World} {A : Option Addr} {xs : List Int} (h : Ints w A n xs) (hr : w.heap.size ≤ r) : IntsN r w A n xs := ⟨h.1, fun hn => by
  obtain ⟨b, off, e, hb, hc⟩ := h.2 hn
  exact ⟨b, off, e, ⟨hb, by omega⟩, hc⟩⟩
theorem IntsN.of_below {r n : Nat} {w w' : World} {A : Option Addr} {xs : List Int} (h : Ints w A n xs) (hr : w.heap.size ≤ r) (hb : Below w.heap.size w w') : IntsN r w' A n xs := (IntsN.of h hr).below hb

theorem CellsAt.two {w : World} {L : List (Addr × Value)} (h : CellsAt w L) (x0 x1 : Value) (t : TypeId) : CellsAt (w.alloc (.cells #[x0, x1] t)) ((⟨w.heap.size, 0, none⟩, x0) :: (⟨w.heap.size, 1, none⟩, x1) :: L) := by
  intro p hp
  rcases List.mem_cons.1 hp with rfl | hp
  · exact ⟨by simp, by rw [box_last]; rfl⟩
  rcases List.mem_cons.1 hp with rfl | hp
  · exact ⟨by simp, by rw [box_last]; rfl⟩
  · exact h.alloc _ p hp

set_option maxRecDepth 100000 in
set_option maxHeartbeats 4000000 in
theorem Walk_ag (s e : Nat) (A B : Option Addr) (n c m d : Nat) (st lp : List Int) (w : World) (h : CellsAt w (agL s e)) (ha : Ints w A n st) (hb : Ints w B m lp) (hv : validB 1 st lp = true) :
    Calls Try.prog 25 #[agV s e, .agg #[.slice A n c, .slice B m d]] w fun x w' => x = .returned (.tuple #[.int .i64 (oneL lp), .bool false, .int .i64 0]) ∧ Below w.heap.size w w' := by
  have hx := ha.1
  have hy := hb.1
  have hlen : n ≤ 200 ∧ m ≤ 200 := by
    simp only [validB, Bool.and_eq_true, decide_eq_true_eq] at hv
    omega
  have hl : lettersB 2 st = true ∧ lettersB 2 lp = true := by
    simp only [validB, Bool.and_eq_true] at hv
    exact ⟨hv.1.2, hv.2⟩
  have hn : n ≤ 100000 := by omega
  have hm : m ≤ 100000 := by omega
  have HD := Lib.hid (fun W (hW : Below w.heap.size w W) => det_ag s e W (h.below hW))
  have HVl := Lib.hid (fun W (hW : Below w.heap.size w W) => valid_any A B n c m d 1 st lp W (ha.below hW) (hb.below hW) hn hm)
  rw [hv] at HVl
  have HN := Lib.hid (fun W (hW : Below w.heap.size w W) => newWalker_ag s e W (h.below hW))
  have HWk := Lib.hid (fun W r o g k (hW : Below w.heap.size w W) (hr : w.heap.size ≤ r) (hk : Wk W r s e o g k) => walk_ag r s e o g k A B n c m d st lp W hk (IntsN.of_below ha hr hW) (IntsN.of_below hb hr hW) (letters_01 hl.1) (letters_01 hl.2) hn hm)
  have HX := Lib.hid ((bxL_new w s e 25).two (.slice A n c) (.slice B m d) 45)
  clear h ha hb hv hx hy hlen hl hn hm
  unfold agV at *
  go_enter Try.func25, Try.ntmps25
  go_wp2_with fail
  have HB0 := Lib.hid (show Below w.heap.size w ((w.alloc (.cells #[.int .i64 1, .int .i64 1, .slice (some ⟨s, 0, none⟩) 1 1, .int .i64 0, .int .i64 1, .slice (some ⟨e, 0, none⟩) 2 2] 25)).alloc (.cells #[.slice A n c, .slice B m d] 45)) from ((Below.refl _ _).alloc (Nat.le_refl _) _).alloc (by simp) _)
  refine (HD.out _ HB0.out).mono ?_
  rintro x w1 ⟨rfl, hb1⟩
  have HX1 := Lib.hid (HX.out.below hb1)
  have HB1 := Lib.hid (HB0.out.trans (hb1.mono HB0.out.size))
  have x0 : w1.cell? ⟨w.heap.size + 1, 0, none⟩ = some (.slice A n c) := by simpa using HX1.out.head
  have x1 : w1.cell? ⟨w.heap.size + 1, 1, none⟩ = some (.slice B m d) := by simpa using HX1.out.tail.head
  have hzz : w.heap.size + 1 < w1.heap.size := by simpa using HX1.out.lt
  obtain ⟨hz, p0, p1, p2, p3, p4, p5⟩ := bxL_out HX1.out.tail.tail
  clear hb1
  go_wp2_with fail
  refine (HVl.out _ HB1.out).mono ?_
  rintro x w2 ⟨rfl, hb2⟩
  have HX2 := Lib.hid (HX1.out.below hb2)
  have HB2 := Lib.hid (HB1.out.trans (hb2.mono HB1.out.size))
  clear x0 x1 hz hzz p0 p1 p2 p3 p4 p5 hb2 HX1 HB1
  have HS := Lib.hid (show ∀ V, Below w2.heap.size w2 V → (V.cell? ⟨w.heap.size + 1, 0, none⟩ = some (.slice A n c) ∧ V.cell? ⟨w.heap.size + 1, 1, none⟩ = some (.slice B m d)) ∧
      (V.cell? ⟨w.heap.size, 0, none⟩ = some (.int .i64 1) ∧ V.cell? ⟨w.heap.size, 1, none⟩ = some (.int .i64 1) ∧ V.cell? ⟨w.heap.size, 2, none⟩ = some (.slice (some ⟨s, 0, none⟩) 1 1) ∧ V.cell? ⟨w.heap.size, 3, none⟩ = some (.int .i64 0) ∧ V.cell? ⟨w.heap.size, 4, none⟩ = some (.int .i64 1) ∧ V.cell? ⟨w.heap.size, 5, none⟩ = some (.slice (some ⟨e, 0, none⟩) 2 2)) from
    fun V hV => ⟨⟨by simpa using (HX2.out.below hV).head, by simpa using (HX2.out.below hV).tail.head⟩, (bxL_out (HX2.out.below hV).tail.tail).2⟩)
  go_wp2_with fail
  go_region_held3 (fun V => (V.cell? ⟨w.heap.size + 1, 0, none⟩ = some (.slice A n c) ∧ V.cell? ⟨w.heap.size + 1, 1, none⟩ = some (.slice B m d)) ∧
      (V.cell? ⟨w.heap.size, 0, none⟩ = some (.int .i64 1) ∧ V.cell? ⟨w.heap.size, 1, none⟩ = some (.int .i64 1) ∧ V.cell? ⟨w.heap.size, 2, none⟩ = some (.slice (some ⟨s, 0, none⟩) 1 1) ∧ V.cell? ⟨w.heap.size, 3, none⟩ = some (.int .i64 0) ∧ V.cell? ⟨w.heap.size, 4, none⟩ = some (.int .i64 1) ∧ V.cell? ⟨w.heap.size, 5, none⟩ = some (.slice (some ⟨e, 0, none⟩) 2 2)))
    (first
      | exact HS.out _ k2
      | exact HS.out _ k1
      | exact HS.out _ ((Below.refl w2.heap.size w2).drew))
    (first
      | (go_at_call 50; refine (HWk.out _ r o g k (HB2.out.trans (k1.mono HB2.out.size)) (Nat.le_trans HB2.out.size hr) hk).mono ?_; rintro x z2 ⟨rfl, g2⟩; have k2 : Below w2.heap.size w2 z2 := k1.trans (grown_below g2 hr k1.size))
      | (go_at_call 49; refine (HN.out _ HB2.out.drew).mono ?_; rintro x z1 ⟨r, o, g, k, rfl, hr, hk1, hk2, b1⟩; have k1 : Below w2.heap.size w2 z1 := ((Below.refl _ _).drew).trans b1; have hk : Wk z1 r s e o g k := ⟨hk1, hk2⟩)
      | fail)
  go_wp2_with fail
  refine bodyPost_ret (v := .tuple #[.int .i64 (oneL lp), .bool false, .int .i64 0]) (by simp [results, Try.results25, go_sem]) rfl ?_
  exact ⟨rfl, HB2.out.trans (k2.mono HB2.out.size)⟩

theorem agL_of (w : World) (t1 t2 : TypeId) : CellsAt ((w.alloc (.cells #[.int .i64 0] t1)).alloc (.cells #[.int .i64 0, .int .i64 0, .int .i64 1, .int .i64 1, .int .i64 1, .int .i64 0, .int .i64 0, .int .i64 1, .int .i64 0, .int .i64 0] t2)) (agL w.heap.size (w.heap.size + 1)) := by
  have h2 : (w.alloc (.cells #[.int .i64 0] t1)).heap.size = w.heap.size + 1 := by simp
  have hl : ∀ j, ((w.alloc (.cells #[.int .i64 0] t1)).alloc (.cells #[.int .i64 0, .int .i64 0, .int .i64 1, .int .i64 1, .int .i64 1, .int .i64 0, .int .i64 0, .int .i64 1, .int .i64 0, .int .i64 0] t2)).cell? ⟨w.heap.size + 1, j, none⟩ = (#[.int .i64 0, .int .i64 0, .int .i64 1, .int .i64 1, .int .i64 1, .int .i64 0, .int .i64 0, .int .i64 1, .int .i64 0, .int .i64 0] : Array Value)[j]? := fun j => by
    rw [← h2]
    exact box_last _ _ _ _
  intro p hp
  simp only [agL, List.mem_cons, List.not_mem_nil, or_false] at hp
  rcases hp with rfl | rfl | rfl | rfl | rfl | rfl | rfl | rfl | rfl | rfl | rfl
  · exact ⟨by simp; omega, box_first _ _ _ _ 0⟩
  all_goals exact ⟨by simp, hl _⟩

set_option maxRecDepth 100000 in
set_option maxHeartbeats 4000000 in
theorem again_any (w : World) : Calls Try.prog 37 #[] w fun x w' => ∃ s e, x = .returned (agV s e) ∧ CellsAt w' (agL s e) ∧ Below w.heap.size w w' := by
  go_enter Try.func37, Try.ntmps37
  go_wp2_with fail
  refine bodyPost_ret (v := agV (w.heap.size + 1) (w.heap.size + 1 + 1)) (by simp [results, Try.results37, go_sem, agV]) rfl ?_
  refine ⟨w.heap.size + 1, w.heap.size + 1 + 1, rfl, ?_, (((Below.refl _ _).alloc (Nat.le_refl _) _).alloc (by simp) _).alloc (by simp; omega) _⟩
  have := agL_of (w.alloc (.cells #[.int .i64 1, .int .i64 1, .slice (some ⟨w.heap.size + 1, 0, none⟩) 1 1, .int .i64 0, .int .i64 1, .slice (some ⟨w.heap.size + 1 + 1, 0, none⟩) 2 2] 25)) 3 54
  rw [show (w.alloc (.cells #[.int .i64 1, .int .i64 1, .slice (some ⟨w.heap.size + 1, 0, none⟩) 1 1, .int .i64 0, .int .i64 1, .slice (some ⟨w.heap.size + 1 + 1, 0, none⟩) 2 2] 25)).heap.size = w.heap.size + 1 by simp] at this
  exact this

theorem oneL_a : oneL [0, 1] = 1 := by decide
theorem oneL_b : oneL [0] = 0 := by decide
theorem acc_a : AccR 3 4 10 true 0 := .inr (.inr (.inr ⟨by decide, by decide, by decide, by decide, rfl⟩))
theorem acc_b : AccR 4 2 2 false 0 := .inr (.inr (.inr ⟨by decide, by decide, by decide, by decide, rfl⟩))
theorem ints_of (w : World) (xs : List Int) (t : TypeId) : Ints (w.alloc (.cells (xs.map (Value.int .i64)).toArray t)) (some ⟨w.heap.size, 0, none⟩) xs.length xs :=
  ⟨rfl, fun _ => ⟨w.heap.size, 0, rfl, by simp, fun j hj => by
    rw [box_last]
    simp [List.getD_eq_getElem?_getD, List.getElem?_eq_getElem hj]⟩⟩
theorem ints_a (w : World) (t : TypeId) : Ints (w.alloc (.cells #[.int .i64 0, .int .i64 1] t)) (some ⟨w.heap.size, 0, none⟩) 2 [0, 1] := ints_of w [0, 1] t
theorem ints_b (w : World) (t : TypeId) : Ints ((w.alloc (.cells #[.int .i64 1] t)).alloc (.cells #[.int .i64 0] t)) (some ⟨w.heap.size, 0, none⟩) 1 [1] := (ints_of w [1] t).alloc _
theorem ints_c (w : World) (t : TypeId) : Ints ((w.alloc (.cells #[.int .i64 1] t)).alloc (.cells #[.int .i64 0] t)) (some ⟨w.heap.size + 1, 0, none⟩) 1 [0] := by
  have := ints_of (w.alloc (.cells #[.int .i64 1] t)) [0] t
  simpa using this

set_option maxRecDepth 100000 in
set_option maxHeartbeats 4000000 in
theorem awake5_any (w : World) : Calls Try.prog 9 #[] w fun x w' => x = .returned (.bool true) ∧ Below w.heap.size w w' := by
  go_enter Try.func9, Try.ntmps9
  go_wp2_with fail
  refine (again_any _).mono ?_
  rintro x w1 ⟨s, e, rfl, hc, hb⟩
  have HB1 := Lib.hid hb
  have HC := Lib.hid hc
  clear hb hc
  go_wp2_with fail
  refine (Walk_ag s e none (some ⟨w1.heap.size, 0, none⟩) 0 0 2 2 [] [0, 1] _ (HC.out.alloc _) Ints.none_ (ints_a w1 3) (by decide)).mono ?_
  rintro x w2 ⟨rfl, hb2⟩
  rw [oneL_a]
  have HB2 := Lib.hid ((HB1.out.alloc HB1.out.size _).trans (hb2.mono (HB1.out.alloc HB1.out.size _).size))
  clear hb2
  go_wp2_with fail
  refine (again_any _).mono ?_
  rintro x w3 ⟨s', e', rfl, hc, hb⟩
  have HB3 := Lib.hid (HB2.out.trans (hb.mono HB2.out.size))
  have HC3 := Lib.hid hc
  clear hb hc
  go_wp2_with fail
  refine (Walk_ag s' e' (some ⟨w3.heap.size, 0, none⟩) (some ⟨w3.heap.size + 1, 0, none⟩) 1 1 1 1 [1] [0] _ ((HC3.out.alloc _).alloc _) (ints_b w3 3) (ints_c w3 3) (by decide)).mono ?_
  rintro x w4 ⟨rfl, hb4⟩
  rw [oneL_b]
  have HB4 := Lib.hid (((HB3.out.alloc HB3.out.size _).alloc (Nat.le_trans HB3.out.size (by simp)) _).trans (hb4.mono ((HB3.out.alloc HB3.out.size _).alloc (Nat.le_trans HB3.out.size (by simp)) _).size))
  clear hb4
  go_wp2_with fail
  refine (accepts_any 3 4 10 _).mono ?_
  rintro x w5 ⟨r5, c5, rfl, h5, hb5⟩
  obtain ⟨rfl, rfl⟩ := h5.out.unique acc_a
  have HB5 := Lib.hid (HB4.out.trans (hb5.mono HB4.out.size))
  clear hb5 h5
  go_wp2_with fail
  refine (accepts_any 4 2 2 _).mono ?_
  rintro x w6 ⟨r6, c6, rfl, h6, hb6⟩
  obtain ⟨rfl, rfl⟩ := h6.out.unique acc_b
  have HB6 := Lib.hid (HB5.out.trans (hb6.mono HB5.out.size))
  clear hb6 h6
  go_wp2_with fail
  go_ret
  exact ⟨rfl, HB6.out⟩

end Go.Proofs.Ytfblnadmbfhjiaa.Wd

namespace Go.Proofs.Ytfblnadmbfhjiaa.Wd
open Go.RowKit

theorem int_info : (Try.prog.info? 3).map (fun i => (i.zero, i.size, i.bytes)) = some (some (.int .i64 0), 1, 8) := by kernel_rfl

set_option maxRecDepth 100000 in
set_option maxHeartbeats 800000 in
theorem clone_any (A : Option Addr) (n c : Nat) (xs : List Int) (w : World) (h : Ints w A n xs) (hn : n ≤ 100000) :
    Calls Try.prog 81 #[.slice A n c] w fun e w' => ∃ v, e = .returned v ∧ w'.ownsRow w.heap.size 3 1 v n (xs.map (Value.int .i64)) ∧ Below w.heap.size w w' := by
  obtain ⟨i0, hi, hz0, hz1, hz2⟩ := info_parts int_info
  have q22 : ∀ (w : World) (a : Option Addr) (n c n' c' : Nat), (binOp .eql 22 (.slice a n c) (.slice none n' c')).run Try.prog w = .ok (.bool a.isNone) w := fun w a n c n' c' => Lib.run_eql_slice_nil w _ _ a n c n' c' Try.underlying22
  have u22 : ∀ w, Sem.run Try.prog (underlying 22) w = .ok (TypeDesc.slice 3) w := run_underlying Try.underlying22
  cases A with
  | none =>
    obtain rfl : n = 0 := by
      rcases Nat.eq_zero_or_pos n with h0 | h0
      · exact h0
      · obtain ⟨b, off, e, _⟩ := h.2 h0
        cases e
    obtain rfl : xs = [] := List.eq_nil_of_length_eq_zero h.1
    go_enter Try.func81, Try.ntmps81
    go_wp2
    go_ret
    exact ⟨_, rfl, ⟨by simp, .inl ⟨rfl, rfl⟩⟩, Below.refl _ _⟩
  | some a =>
    have hx := h.1
    have HA : Aside (∀ W : World, (W = w.alloc (.cells #[] 3)) → ∀ j u, (xs.map (Value.int .i64))[j]? = some u → W.cell? (a.add j) = some u) := by
      rintro W rfl j u hu
      have hj : j < n := by
        have := (List.getElem?_eq_some_iff.1 hu).1
        simp at this; omega
      obtain ⟨b, off, e, hb, hc⟩ := (h.alloc (.cells #[] 3)).at_ hj
      injection e with e
      subst e
      exact Ints.news hx hc j u hu
    clear h
    go_enter Try.func81, Try.ntmps81
    go_wp2_with (at_builtin; refine wpList_append_own _ rfl _ _ 22 rfl w.heap.size 3 i0 (.int .i64 0) 1 8 Try.underlying22 hi hz0 hz1 hz2 rfl (by decide) _ _ _ rfl (World.ownsRow_made w #[] 0 (Nat.le_refl _) (Nat.zero_le _) rfl) a n c (xs.map (Value.int .i64)) rfl ?qc1 ?qc2 ?qc3 ?qc4 ?qc5 ?qc6 ?_)
    case qc1 => simp; omega
    case qc2 => exact HA.out _ rfl
    case qc3 => exact ones xs
    case qc4 => unfold maxLen; omega
    case qc5 => omega
    case qc6 => simp
    intro v' w1 hown hgrow hnil
    go_wp2
    go_ret
    exact ⟨v', rfl, by simpa using hown, ((Below.refl _ w).alloc (Nat.le_refl _) _).grown hgrow (by simp) (by intro k hk; simp [Value.ownBlock] at hk; omega)⟩

/-- The same, the result written as a slice. -/
theorem clone_slice (A : Option Addr) (n c : Nat) (xs : List Int) (w : World) (h : Ints w A n xs) (hn : n ≤ 100000) :
    Calls Try.prog 81 #[.slice A n c] w fun e w' => ∃ A' c', e = .returned (.slice A' n c') ∧ w'.ownsRow w.heap.size 3 1 (.slice A' n c') n (xs.map (Value.int .i64)) ∧ n ≤ c' ∧ Below w.heap.size w w' :=
  (clone_any A n c xs w h hn).mono fun _ _ ⟨v, he, ho, hb⟩ => by
    obtain ⟨A', c', rfl, hc⟩ := own_slice ho
    exact ⟨A', c', he, ho, hc, hb⟩

end Go.Proofs.Ytfblnadmbfhjiaa.Wd

namespace Go.Proofs.Ytfblnadmbfhjiaa.Wd
open Go.RowKit

end Go.Proofs.Ytfblnadmbfhjiaa.Wd

namespace Go.Proofs.Ytfblnadmbfhjiaa.Wd
open Go.RowKit

theorem per_test {xs : List Int} {p : Nat} (h : ((xs.length : Int) % (p : Int) != 0) = false) : xs.length % p = 0 := by
  have h2 : ((xs.length : Int) % (p : Int)) = 0 := by simpa using h
  omega

theorem per_test' {n p : Nat} (h : ((n : Int) % (p : Int) != 0) = true) : ¬ n % p = 0 := by
  have h2 : ¬ ((n : Int) % (p : Int)) = 0 := by simpa using h
  omega
theorem per_more {xs : List Int} {p j : Nat} (h : ∀ t, p ≤ t → t < j → xs.getD t 0 = xs.getD (t - p) 0) (he : xs.getD j 0 = xs.getD (j - p) 0) :
    ∀ t, p ≤ t → t < j + 1 → xs.getD t 0 = xs.getD (t - p) 0 := by
  intro t h1 h2
  rcases Nat.lt_or_ge t j with hl | hg
  · exact h t h1 hl
  · obtain rfl : t = j := by omega
    exact he
theorem per_next {xs : List Int} {p : Nat} (h : ∀ q, 1 ≤ q → q < p → ¬ Per xs q) (hp : ¬ Per xs p) : ∀ q, 1 ≤ q → q < p + 1 → ¬ Per xs q := by
  intro q h1 h2
  rcases Nat.lt_or_ge q p with hl | hg
  · exact h q h1 hl
  · obtain rfl : q = p := by omega
    exact hp

end Go.Proofs.Ytfblnadmbfhjiaa.Wd

namespace Go.Proofs.Ytfblnadmbfhjiaa.Wd

theorem turn_mod (y j p : Nat) (hp : 0 < p) : ((y + j) % p + (p - j % p)) % p = y % p := by
  rw [Nat.mod_add_mod]
  have h1 := Nat.div_add_mod j p
  have h2 := Nat.mod_lt j hp
  have : y + j + (p - j % p) = y + p * (j / p + 1) := by
    rw [Nat.mul_add, Nat.mul_one]; omega
  rw [this, Nat.add_mul_mod_self_left]
theorem turn_mod' (i j p : Nat) (hp : 0 < p) (hi : i < j) : ((j - 1 - i) % p + (p - j % p)) % p = p - 1 - i % p := by
  rw [Nat.mod_add_mod]
  have h1 := Nat.div_add_mod j p
  have h2 := Nat.mod_lt j hp
  have h3 := Nat.div_add_mod i p
  have h4 := Nat.mod_lt i hp
  have hq : i / p ≤ j / p := Nat.div_le_div_right (by omega)
  obtain ⟨d, hd⟩ : ∃ d, j / p = i / p + d := ⟨j / p - i / p, by omega⟩
  have : j - 1 - i + (p - j % p) = (p - 1 - i % p) + p * d := by
    rw [hd, Nat.mul_add] at h1
    omega
  rw [this, Nat.add_mul_mod_self_left, Nat.mod_eq_of_lt (by omega)]

/-- The list turned to begin at s. -/
def rot (l : List Int) (s : Nat) : List Int := l.drop s ++ l.take s

theorem rot_length (l : List Int) (s : Nat) : (rot l s).length = l.length := by unfold rot; rw [List.length_append, List.length_drop, List.length_take]; omega
theorem rot_getD {l : List Int} {s i : Nat} (hs : s < l.length) (hi : i < l.length) : (rot l s).getD i 0 = l.getD ((i + s) % l.length) 0 := by
  unfold rot
  simp only [List.getD_eq_getElem?_getD]
  rcases Nat.lt_or_ge i (l.length - s) with h | h
  · rw [List.getElem?_append_left (by rw [List.length_drop]; exact h), List.getElem?_drop, Nat.mod_eq_of_lt (by omega), Nat.add_comm]
  · rw [List.getElem?_append_right (by rw [List.length_drop]; exact h), List.length_drop, List.getElem?_take, if_pos (by omega)]
    rw [show (i + s) % l.length = i - (l.length - s) from by
      rw [Nat.mod_eq_sub_mod (by omega), Nat.mod_eq_of_lt (by omega)]; omega]

theorem at_turn {xs L : List Int} {j : Nat} (hp : 0 < L.length) (hj : j ≤ xs.length)
    (hm : ∀ i, i < j → xs.getD (xs.length - 1 - i) 0 = L.getD (L.length - 1 - i % L.length) 0) (k : Nat) :
    at_ (xs.take (xs.length - j)) (rot L ((L.length - j % L.length) % L.length)) k = at_ xs L k := by
  have hs : (L.length - j % L.length) % L.length < L.length := Nat.mod_lt _ hp
  have hlen : (xs.take (xs.length - j)).length = xs.length - j := by rw [List.length_take]; omega
  rcases Nat.lt_or_ge k (xs.length - j) with h1 | h1
  · rw [at_lt (by omega), at_lt (by omega)]
    simp only [List.getD_eq_getElem?_getD, List.getElem?_take]
    rw [if_pos h1]
  · rw [at_ge (by omega), rot_length, rot_getD hs (Nat.mod_lt _ hp), Nat.add_mod_mod, hlen]
    rcases Nat.lt_or_ge k xs.length with h2 | h2
    · rw [at_lt h2]
      have := hm (xs.length - 1 - k) (by omega)
      rw [show xs.length - 1 - (xs.length - 1 - k) = k from by omega] at this
      rw [this, show k - (xs.length - j) = j - 1 - (xs.length - 1 - k) from by omega, turn_mod' _ _ _ hp (by omega)]
    · rw [at_ge h2, show k - (xs.length - j) = (k - xs.length) + j from by omega, turn_mod _ _ _ hp]

theorem nf_normal {xs ys : List Int} {p j : Nat} (hP : Least ys p) (hj : j ≤ xs.length)
    (hm : ∀ i, i < j → xs.getD (xs.length - 1 - i) 0 = ys.getD (p - 1 - i % p) 0) (hend : j = xs.length ∨ xs.getD (xs.length - 1 - j) 0 ≠ ys.getD (p - 1 - j % p) 0) :
    NF (at_ xs ys) (xs.take (xs.length - j)) (rot (ys.take p) ((p - j % p) % p)) := by
  have hp1 := hP.1
  have hp2 := hP.2.1
  have hlen : (ys.take p).length = p := by rw [List.length_take]; omega
  have hget : ∀ i, i < p → (ys.take p).getD i 0 = ys.getD i 0 := fun i hi => by simp [List.getD_eq_getElem?_getD, hi]
  have hf : ∀ k, at_ (xs.take (xs.length - j)) (rot (ys.take p) ((p - j % p) % p)) k = at_ xs ys k := by
    intro k
    have := at_turn (xs := xs) (L := ys.take p) (j := j) (by omega) hj (fun i hi => by
      rw [hlen, hget _ (by omega)]; exact hm i hi) k
    rw [hlen] at this
    rw [this, at_take hP]
  refine nf_of hf (by rw [rot_length, hlen]; omega) (fun m q h => by rw [rot_length, hlen]; exact least_ev hP m q h) ?_
  rcases hend with h | h
  · left; rw [h]; simp
  · rcases Nat.lt_or_ge j xs.length with h1 | h1
    · right
      have hl : (xs.take (xs.length - j)).length = xs.length - j := by rw [List.length_take]; omega
      rw [hl, rot_length, hlen, rot_getD (by rw [hlen]; exact Nat.mod_lt _ (by omega)) (by omega), hlen, Nat.add_mod_mod]
      have hlt := Nat.mod_lt j (show 0 < p by omega)
      rw [show (p - 1 + (p - j % p)) % p = p - 1 - j % p from by
        rw [Nat.mod_eq_sub_mod (by omega), Nat.mod_eq_of_lt (by omega)]; omega]
      rw [hget _ (by omega)]
      have : (xs.take (xs.length - j)).getD (xs.length - j - 1) 0 = xs.getD (xs.length - 1 - j) 0 := by
        rw [show xs.length - j - 1 = xs.length - 1 - j from by omega]
        simp only [List.getD_eq_getElem?_getD, List.getElem?_take]
        rw [if_pos (by omega)]
      rw [this]
      exact h
    · left
      rw [show xs.length - j = 0 from by omega]; simp

end Go.Proofs.Ytfblnadmbfhjiaa.Wd

namespace Go.Proofs.Ytfblnadmbfhjiaa.Wd
open Go.RowKit
set_option linter.unusedVariables false

/-- The value v is a word of the stem s and the loop l, which lie in the world w. -/
def IsWord (w : World) (v : Value) (s l : List Int) : Prop :=
  ∃ (A : Option Addr) (n c : Nat) (B : Option Addr) (m d : Nat), v = .agg #[.slice A n c, .slice B m d] ∧ Ints w A n s ∧ Ints w B m l ∧ n ≤ c ∧ m ≤ d

theorem IsWord.below {w w' : World} {v : Value} {s l : List Int} (h : IsWord w v s l) (hb : Below w.heap.size w w') : IsWord w' v s l := by
  obtain ⟨A, n, c, B, m, d, rfl, h1, h2, h3, h4⟩ := h
  exact ⟨A, n, c, B, m, d, rfl, h1.below hb, h2.below hb, h3, h4⟩

theorem back_more {xs ys : List Int} {n p j : Nat} (h : ∀ i, i < j → xs.getD (n - 1 - i) 0 = ys.getD (p - 1 - i % p) 0) (he : xs.getD (n - 1 - j) 0 = ys.getD (p - 1 - j % p) 0) :
    ∀ i, i < j + 1 → xs.getD (n - 1 - i) 0 = ys.getD (p - 1 - i % p) 0 := by
  intro i hi
  rcases Nat.lt_or_ge i j with hl | hg
  · exact h i hl
  · obtain rfl : i = j := by omega
    exact he

theorem start_turn (j p : Nat) (hp : 0 < p) : ∃ s : Nat, -((j : Int) % (p : Int)) % (p : Int) = (s : Int) ∧ (p - j % p) % p = s := ⟨_, by
  have := Nat.mod_lt j hp
  have e : -((j : Int) % (p : Int)) % (p : Int) = ((p : Int) - (j : Int) % (p : Int)) % (p : Int) := by simp
  rw [e, Int.natCast_emod, Int.ofNat_sub (by omega), Int.natCast_emod], rfl⟩

end Go.Proofs.Ytfblnadmbfhjiaa.Wd

namespace Go.Proofs.Ytfblnadmbfhjiaa.Wd
open Go.RowKit

/-- Are the lists equal? -/
def eqB (xs ys : List Int) : Bool := decide (xs = ys)
theorem eqB_len {xs ys : List Int} (h : xs.length ≠ ys.length) : eqB xs ys = false := by
  simp only [eqB, decide_eq_false_iff_not]; intro e; exact h (by rw [e])
theorem eqB_part {xs ys : List Int} {k : Nat} (hk : xs.getD k 0 ≠ ys.getD k 0) : eqB xs ys = false := by
  simp only [eqB, decide_eq_false_iff_not]; intro e; exact hk (by rw [e])
theorem eqB_all {xs ys : List Int} (hl : xs.length = ys.length) (h : ∀ i, i < xs.length → xs.getD i 0 = ys.getD i 0) : eqB xs ys = true := by
  simp only [eqB, decide_eq_true_eq]
  apply List.ext_getElem hl
  intro i h1 h2
  have := h i h1
  simpa [List.getD_eq_getElem?_getD, List.getElem?_eq_getElem h1, List.getElem?_eq_getElem h2] using this
theorem agree_more {xs ys : List Int} {k : Nat} (h : ∀ i, i < k → xs.getD i 0 = ys.getD i 0) (he : xs.getD k 0 = ys.getD k 0) : ∀ i, i < k + 1 → xs.getD i 0 = ys.getD i 0 := by
  intro i hi
  rcases Nat.lt_or_ge i k with hl | hg
  · exact h i hl
  · obtain rfl : i = k := by omega
    exact he

set_option maxHeartbeats 800000 in
theorem list_any (A B : Option Addr) (n c m d : Nat) (xs ys : List Int) (w : World) (h : Ints w A n xs) (h' : Ints w B m ys) (hn : n ≤ 100000) (hm : m ≤ 100000) :
    Calls Try.prog 21 #[.slice A n c, .slice B m d] w fun e w' => ∃ k : Nat, e = .returned (.bool (eqB xs ys)) ∧ w' = w.drewN k := by
  have HX := Lib.hid h.1
  have HY := Lib.hid h'.1
  by_cases hl : n = m
  · subst hl
    have hnn : ((n : Int) != (n : Int)) = false := by simp
    go_enter Try.func21, Try.ntmps21
    go_wp2_with fail
    go_loopg [5, 13] n (fun g _ i wx => ∃ j k : Nat, j + g = n ∧ j ≤ n ∧ i = .int .i64 j ∧ wx = w.drewN k ∧ Hid (∀ i, i < j → xs.getD i 0 = ys.getD i 0))
    case atStart => exact ⟨0, 0, by omega, by omega, rfl, rfl, fun i hi => by omega⟩
    case round =>
      obtain ⟨j, k, hjg, hjn, rfl, rfl, HI⟩ := hrel
      by_cases hjl : j < n
      · obtain ⟨bA, oA, rfl, hbA, hca⟩ := h.at_ hjl
        obtain ⟨bB, oB, rfl, hbB, hcb⟩ := h'.at_ hjl
        have c1 := hca j hjl
        have c2 := hcb j hjl
        clear hca hcb h h'
        generalize hva : xs.getD j 0 = va at c1
        generalize hvb : ys.getD j 0 = vb at c2
        have HA := Lib.hid hva
        have HB := Lib.hid hvb
        clear hva hvb
        cases gk with
        | zero => exfalso; omega
        | succ g =>
        cases he : (va != vb)
        · have HE := Lib.hid (show va = vb by simpa using he)
          go_wp2_with fail
          go_quiet (fail)
          go_wp2_with fail
          go_roundg g
          case measure => omega
          case rel => exact ⟨j + 1, _, by omega, by omega, by go_num, rfl, agree_more HI.out (by rw [HA.out, HB.out, HE.out])⟩
        · have HE := Lib.hid (show ¬ va = vb by simpa using he)
          go_wp2_with fail
          go_quiet (fail)
          go_wp2_with fail
          go_ret
          exact ⟨_, ret_bool (eqB_part (k := j) (by rw [HA.out, HB.out]; exact HE.out)).symm, World.drewN_drewN _ _ _⟩
      · go_wp2_with fail
        go_ret
        exact ⟨_, ret_bool (eqB_all (by rw [HX.out, HY.out]) (fun i hi => HI.out i (by rw [HX.out] at hi; omega))).symm, rfl⟩
  · have hnn : ((n : Int) != (m : Int)) = true := by simp; omega
    go_enter Try.func21, Try.ntmps21
    go_wp2_with fail
    go_ret
    exact ⟨0, ret_bool (eqB_len (by rw [HX.out, HY.out]; exact hl)).symm, rfl⟩

end Go.Proofs.Ytfblnadmbfhjiaa.Wd
