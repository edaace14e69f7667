/-
  outgoing of package aut: for each state the indices of its edges, for all automata.
  Rows of edges that a walk owns: for apart of the reference. No function is walked here.
  apart of the reference: have two edges of a state a letter in common?
  Reached of the reference: the reachable states; bools of the law.
  Step, Deterministic and Reach of the reference, given its Valid.
  Deterministic and Reach of the reference, given its Valid.
  Complete of the reference, for all automata.
  Valid of the reference of layer 5: the ways in which an edge can be wrong.
-/
import Derived.Test.YtfblnadmbfhjiaaF05
import Derived.BigQuiet
import Derived.Deep.QuietTactic
import Derived.Test.YtfblnadmbfhjiaaF06
namespace Go.Proofs.Ytfblnadmbfhjiaa.Wd
open Go.RowKit
set_option linter.unusedVariables false
set_option linter.unusedSimpArgs false

/-- The two lie in different blocks (or the first has none). -/
def Apt (v v' : Value) : Prop := v.ownBlock = none ∨ v.ownBlock ≠ v'.ownBlock
theorem Apt.symm {v v' : Value} (h : Apt v v') : Apt v' v := by
  rcases h with h | h
  · by_cases h' : v'.ownBlock = none
    · exact .inl h'
    · exact .inr (by rw [h]; exact h')
  · exact .inr (Ne.symm h)
theorem apt_old {w : World} {B e k n : Nat} {v : Value} {xs : List Value} (h : w.ownsRow B e k v n xs) {b : Nat} (hb : v.ownBlock = some b) : B ≤ b ∧ b < w.heap.size := by
  rcases h.2 with ⟨rfl, _⟩ | ⟨g, cap, cur, rfl, h1, hgg, _⟩
  · cases hb
  · cases hb
    exact ⟨h1, (Array.getElem?_eq_some_iff.1 hgg).1⟩
theorem apt_grow {w w2 : World} {B e k n' : Nat} {v v' v2 : Value} {xs' : List Value} (h' : w.ownsRow B e k v' n' xs') (hne : Apt v' v) (hg : w.grownBy w2 v.ownBlock) (h2 : v2.ownBlock = v.ownBlock ∨ v2.ownBlock = some w.heap.size) :
    w2.ownsRow B e k v' n' xs' ∧ Apt v' v2 := by
  refine ⟨h'.kept hg hne, ?_⟩
  rcases h2 with h2 | h2
  · show v'.ownBlock = none ∨ v'.ownBlock ≠ v2.ownBlock
    rw [h2]
    exact hne
  · by_cases h0 : v'.ownBlock = none
    · exact .inl h0
    · refine .inr fun h3 => ?_
      have := (apt_old h' (h3.trans h2)).2
      omega

/-- S rows of ints, own to the walk, each in a block of its own. -/
structure Rows (B S : Nat) (w : World) (V : Nat → Value) (L : Nat → List Int) : Prop where
  own : ∀ s, s < S → w.ownsRow B 3 1 (V s) (L s).length ((L s).map (Value.int .i64))
  apt : ∀ s s', s < S → s' < S → s ≠ s' → Apt (V s) (V s')
theorem Rows.start (B S : Nat) (w : World) : Rows B S w (fun _ => .slice none 0 0) (fun _ => []) := ⟨fun s _ => World.ownsRow_nil _ _ _ _, fun _ _ _ _ _ => .inl rfl⟩
theorem Rows.below {B S : Nat} {w w' : World} {V : Nat → Value} {L : Nat → List Int} (h : Rows B S w V L) (hb : Below w.heap.size w w') : Rows B S w' V L := ⟨fun s hs => own_keep (h.own s hs) hb, h.apt⟩
theorem Rows.put {B S : Nat} {w : World} {V : Nat → Value} {L : Nat → List Int} (h : Rows B S w V L) {a : Addr} (ha : a.block < B) (v : Value) : Rows B S (w.setCell a v) V L := ⟨fun s hs => ownsRow_setCell_below (h.own s hs) ha v, h.apt⟩
theorem Rows.lists {B S : Nat} {w : World} {V : Nat → Value} {L L' : Nat → List Int} (h : Rows B S w V L) (e : ∀ s, s < S → L s = L' s) : Rows B S w V L' := ⟨fun s hs => by rw [← e s hs]; exact h.own s hs, h.apt⟩
def putV (V : Nat → Value) (f : Nat) (v : Value) (j : Nat) : Value := if j = f then v else V j
def putL (L : Nat → List Int) (f : Nat) (l : List Int) (j : Nat) : List Int := if j = f then l else L j
theorem Rows.grow {B S f : Nat} {w w2 : World} {V : Nat → Value} {L : Nat → List Int} {v v' : Value} {l : List Int} {x : Int} (h : Rows B S w V L) (hf : f < S) (hl : V f = v ∧ L f = l)
    (hown : w2.ownsRow B 3 1 v' (l.length + 1) (l.map (Value.int .i64) ++ [x].map (Value.int .i64))) (hg : w.grownBy w2 v.ownBlock) (hat : v'.ownBlock = v.ownBlock ∨ v'.ownBlock = some w.heap.size) :
    Rows B S w2 (putV V f v') (putL L f (l ++ [x])) := by
  obtain ⟨rfl, rfl⟩ := hl
  refine ⟨fun s hs => ?_, fun s s' hs hs' hne => ?_⟩
  · unfold putV putL
    by_cases e : s = f
    · rw [if_pos e, if_pos e, List.length_append, List.map_append]; exact hown
    · rw [if_neg e, if_neg e]; exact (apt_grow (h.own s hs) (h.apt s f hs hf e) hg hat).1
  · unfold putV
    by_cases e : s = f
    · rw [if_pos e, if_neg (fun e' => hne (e.trans e'.symm))]
      exact (apt_grow (h.own s' hs') (h.apt s' f hs' hf (fun e' => hne (e.trans e'.symm))) hg hat).2.symm
    · rw [if_neg e]
      by_cases e' : s' = f
      · rw [if_pos e']; exact (apt_grow (h.own s hs) (h.apt s f hs hf e) hg hat).2
      · rw [if_neg e']; exact h.apt s s' hs hs' hne

/-- Of the first k edges those from s. -/
def fromL (es : List Ed) (s k : Nat) : List Int := ((List.range k).filter fun j => decide ((es.getD j ed0).f = (s : Int))).map fun (j : Nat) => (j : Int)
theorem fromL_yes {es : List Ed} {s k : Nat} (h : (es.getD k ed0).f = (s : Int)) : fromL es s (k + 1) = fromL es s k ++ [(k : Int)] := by
  unfold fromL
  rw [List.range_succ, List.filter_append, List.map_append]
  simp only [List.filter_cons, List.filter_nil, h, decide_true, if_true, List.map_cons, List.map_nil]
theorem fromL_no {es : List Ed} {s k : Nat} (h : ¬ (es.getD k ed0).f = (s : Int)) : fromL es s (k + 1) = fromL es s k := by
  unfold fromL
  rw [List.range_succ, List.filter_append, List.map_append]
  simp only [List.filter_cons, List.filter_nil, decide_eq_false h, Bool.false_eq_true, if_false, List.map_nil, List.append_nil]
theorem fromL_len (es : List Ed) (s k : Nat) : (fromL es s k).length ≤ k := by
  unfold fromL
  rw [List.length_map]
  exact Nat.le_trans (List.length_filter_le _ _) (by simp)

theorem row_info : (Try.prog.info? 22).map (fun i => (i.zero, i.size, i.bytes)) = some (some (.slice none 0 0), 1, 24) := by kernel_rfl

set_option maxRecDepth 100000 in
set_option maxHeartbeats 8000000 in
theorem outgoing_any (P : Int) (S : Nat) (K M : Int) (A E : Option Addr) (n c ne ce : Nat) (es : List Ed) (w : World) (hE : EdgesAt w E ne es) (hS : S ≤ 3000) (hne : ne ≤ 40000)
    (hfr : ∀ j, j < ne → ∃ f : Nat, (es.getD j ed0).f = (f : Int) ∧ f < S) :
    Calls Try.prog 62 #[.agg #[.int .i64 P, .int .i64 S, .slice A n c, .int .i64 K, .int .i64 M, .slice E ne ce]] w fun r w' =>
      ∃ V, r = .returned (.slice (some ⟨w.heap.size + 1, 0, none⟩) S S) ∧ w'.rowIs (w.heap.size + 1) 22 S V ∧ Rows (w.heap.size + 2) S w' V (fun s => fromL es s ne) ∧ Below w.heap.size w w' := by
  obtain ⟨i0, hi, hi0, hi1, hi2⟩ := info_parts int_row
  have hmk := run_make_row' (P := Try.prog) 95 22 (.slice none 0 0) 24 Try.underlying95 row_info rfl .i64 .i64 S (by omega) (by omega)
  have HA := Lib.hid hE
  have HFR := Lib.hid hfr
  clear hE hfr
  go_enter Try.func62, Try.ntmps62
  go_wp2_with fail
  obtain ⟨W0, hW0⟩ : ∃ W0, w.alloc (.cells #[.int .i64 P, .int .i64 S, .slice A n c, .int .i64 K, .int .i64 M, .slice E ne ce] 25) = W0 := ⟨_, rfl⟩
  have hz : W0.heap.size = w.heap.size + 1 := by rw [← hW0]; simp
  have HB0 := Lib.hid (show Below w.heap.size w W0 by rw [← hW0]; exact (Below.refl _ _).alloc (Nat.le_refl _) _)
  rw [hW0]
  clear hW0
  obtain ⟨W1, hW1⟩ : ∃ W1, W0.alloc (.cells (madeCells #[.slice none 0 0] S) 22) = W1 := ⟨_, rfl⟩
  have HR0 := Lib.hid (show W1.rowIs (w.heap.size + 1) 22 S (fun _ => .slice none 0 0) by rw [← hW1, ← hz]; exact World.rowIs_made W0 _ S _)
  have HB1 := Lib.hid (show Below (w.heap.size + 1) W0 W1 by rw [← hW1, ← hz]; exact (Below.refl _ _).alloc (Nat.le_refl _) _)
  have hz1 : W1.heap.size = w.heap.size + 2 := by rw [← hW1]; simp [hz]
  rw [hW1]
  clear hW1
  go_loopg [12] ne (fun g i wx => ∃ t : Nat, t + g = ne ∧ i = .int .i64 t ∧ Hid (∃ V, wx.rowIs (w.heap.size + 1) 22 S V ∧ Rows (w.heap.size + 2) S wx V (fun s => fromL es s t)) ∧ Hid (Below (w.heap.size + 1) W0 wx) ∧ Hid (w.heap.size + 2 ≤ wx.heap.size))
  case atStart => exact ⟨0, by omega, rfl, ⟨_, HR0.out, Rows.start _ _ _⟩, HB1.out, (by show _ ≤ _; omega)⟩
  case round =>
    obtain ⟨t, htg, rfl, HR, HBx, HZ⟩ := hrel
    have hti : (0 : Int) ≤ (t : Int) := by omega
    have HBw := Lib.hid (HB0.out.trans (HBx.out.mono (by omega)))
    obtain ⟨V, hrow, hrs⟩ := HR.out
    have HROW := Lib.hid hrow
    have HRS := Lib.hid hrs
    have hzz := HZ.out
    clear hrow hrs HR
    cases gk with
    | zero =>
      obtain rfl : ne = t := by omega
      go_wp2_with fail
      go_ret
      first | exact ⟨rfl, V, HROW.out, HRS.out, HBw.out⟩ | exact ⟨V, rfl, HROW.out, HRS.out, HBw.out⟩
    | succ q =>
      have ht1 : t < ne := by omega
      have hti2 : (t : Int) < (ne : Int) := by omega
      obtain ⟨b, off, rfl, hlt, hcell⟩ := (HA.out.below HBw.out).2 (by omega)
      obtain ⟨c0, c1, c2, c3, c4⟩ := hcell t ht1
      obtain ⟨f, hf, hfS⟩ := HFR.out t ht1
      have HYES := Lib.hid (fromL_yes hf)
      have HNO := Lib.hid (fun s (hs : ¬ s = f) => fromL_no (es := es) (s := s) (k := t) (by rw [hf]; omega))
      have HLN := Lib.hid (fromL_len es f t)
      generalize es.getD t ed0 = x at *
      obtain ⟨ef, et, ec, eb, em⟩ := x
      simp only at c0 c1 c2 c3 c4 hf
      subst hf
      clear hcell
      have hf0 : (0 : Int) ≤ (f : Int) := by omega
      have hf1 : (f : Int) < (S : Int) := by omega
      obtain ⟨v, hvf, HVF⟩ : ∃ v, V f = v ∧ Hid (V f = v) := ⟨_, rfl, rfl⟩
      have hv : wr.cell? ⟨w.heap.size + 1, f, none⟩ = some v := by rw [← hvf]; exact HROW.out.cell hfS
      have hfz := HROW.out.frozen f
      have HO := Lib.hid (show wr.ownsRow (w.heap.size + 2) 3 1 v (fromL es f t).length ((fromL es f t).map (Value.int .i64)) by rw [← hvf]; exact HRS.out.own f hfS)

      have hz0 : w.heap.size + 1 < wr.heap.size := by omega
      clear hvf
      go_wp2_with fail
      have HBA := Lib.hid (show Below wr.heap.size wr ((wr.alloc (.cells #[.int .i64 f, .int .i64 et, .int .i64 ec, .int .i64 eb, .int .i64 em] 54)).alloc (.cells #[.int .i64 (t : Int)] 3)).drew from (((Below.refl _ _).alloc (Nat.le_refl _) _).alloc (by simp) _).drew)
      refine wp_region_until_drew (st := [12]) (S := fun V => V.cell? ⟨wr.heap.size, 0, none⟩ = some (.int .i64 f) ∧ V.cell? ⟨w.heap.size + 1, f, none⟩ = some v) (by kernel_rfl) ⟨by show World.cell? (wr.alloc _) _ = _; rw [box_last]; rfl, by show World.cell? (wr.alloc _) _ = _; rw [Below.cell ((Below.refl wr.heap.size wr).alloc (Nat.le_refl _) _) hz0]; exact hv⟩ (fun hHeld => ?_)
      refine wpAnyU_pure (i := 0) (v := ?vo0) rfl (by kernel_rfl) (by kernel_rfl) (by kernel_rfl) (by kernel_rfl) (fun _ _ _ h => h) (Or.inl ⟨by rfl, fun V _ => ?hyo0⟩) (fun _ => hHeld) ?resto0
      case hyo0 => go_simp; try with_reducible rfl
      try simp only [Act.put, List.getElem_toArray, List.getElem_cons_zero, List.getElem_cons_succ, List.setIfInBounds_toArray, List.set_cons_zero, List.set_cons_succ]
      refine wpAnyU_pure (i := 1) (v := ?vo1) rfl (by kernel_rfl) (by kernel_rfl) (by kernel_rfl) (by kernel_rfl) (fun _ _ _ h => h) (Or.inl ⟨by rfl, fun V _ => ?hyo1⟩) (fun _ => hHeld) ?resto1
      case hyo1 => go_simp; try with_reducible rfl
      try simp only [Act.put, List.getElem_toArray, List.getElem_cons_zero, List.getElem_cons_succ, List.setIfInBounds_toArray, List.set_cons_zero, List.set_cons_succ]
      refine wpAnyU_load (i := 2) (v := ?vo2) rfl (by kernel_rfl) (by kernel_rfl) (by kernel_rfl) (by kernel_rfl) (fun _ _ _ h => h) (Or.inl ⟨by rfl, fun V hSw => ?hyo2⟩) hHeld ?resto2
      case hyo2 => (obtain ⟨hs1, hs2⟩ := hSw); go_simp; try with_reducible rfl
      try simp only [Act.put, List.getElem_toArray, List.getElem_cons_zero, List.getElem_cons_succ, List.setIfInBounds_toArray, List.set_cons_zero, List.set_cons_succ]
      refine wpAnyU_pure (i := 3) (v := ?vo3) rfl (by kernel_rfl) (by kernel_rfl) (by kernel_rfl) (by kernel_rfl) (fun _ _ _ h => h) (Or.inl ⟨by rfl, fun V _ => ?hyo3⟩) (fun _ => hHeld) ?resto3
      case hyo3 => go_simp; try with_reducible rfl
      try simp only [Act.put, List.getElem_toArray, List.getElem_cons_zero, List.getElem_cons_succ, List.setIfInBounds_toArray, List.set_cons_zero, List.set_cons_succ]
      refine wpAnyU_pure (i := 4) (v := ?vo4) rfl (by kernel_rfl) (by kernel_rfl) (by kernel_rfl) (by kernel_rfl) (fun _ _ _ h => h) (Or.inl ⟨by rfl, fun V _ => ?hyo4⟩) (fun _ => hHeld) ?resto4
      case hyo4 => go_simp; try with_reducible rfl
      try simp only [Act.put, List.getElem_toArray, List.getElem_cons_zero, List.getElem_cons_succ, List.setIfInBounds_toArray, List.set_cons_zero, List.set_cons_succ]
      refine wpAnyU_load (i := 5) (v := ?vo5) rfl (by kernel_rfl) (by kernel_rfl) (by kernel_rfl) (by kernel_rfl) (fun _ _ _ h => h) (Or.inl ⟨by rfl, fun V hSw => ?hyo5⟩) hHeld ?resto5
      case hyo5 => (obtain ⟨hs1, hs2⟩ := hSw); go_simp; try with_reducible rfl
      try simp only [Act.put, List.getElem_toArray, List.getElem_cons_zero, List.getElem_cons_succ, List.setIfInBounds_toArray, List.set_cons_zero, List.set_cons_succ]
      refine wpAnyU_pure (i := 6) (v := ?vo6) rfl (by kernel_rfl) (by kernel_rfl) (by kernel_rfl) (by kernel_rfl) (fun _ _ _ h => h) (Or.inl ⟨by rfl, fun V _ => ?hyo6⟩) (fun _ => hHeld) ?resto6
      case hyo6 => go_simp; try with_reducible rfl
      try simp only [Act.put, List.getElem_toArray, List.getElem_cons_zero, List.getElem_cons_succ, List.setIfInBounds_toArray, List.set_cons_zero, List.set_cons_succ]
      refine wpAnyU_load (i := 7) (v := ?vo7) rfl (by kernel_rfl) (by kernel_rfl) (by kernel_rfl) (by kernel_rfl) (fun _ _ _ h => h) (Or.inl ⟨by rfl, fun V hSw => ?hyo7⟩) hHeld ?resto7
      case hyo7 => (obtain ⟨hs1, hs2⟩ := hSw); go_simp; try with_reducible rfl
      try simp only [Act.put, List.getElem_toArray, List.getElem_cons_zero, List.getElem_cons_succ, List.setIfInBounds_toArray, List.set_cons_zero, List.set_cons_succ]
      refine wpAnyU_pure (i := 8) (v := ?vo8) rfl (by kernel_rfl) (by kernel_rfl) (by kernel_rfl) (by kernel_rfl) (fun _ _ _ h => h) (Or.inl ⟨by rfl, fun V _ => ?hyo8⟩) (fun _ => hHeld) ?resto8
      case hyo8 => go_simp; try with_reducible rfl
      try simp only [Act.put, List.getElem_toArray, List.getElem_cons_zero, List.getElem_cons_succ, List.setIfInBounds_toArray, List.set_cons_zero, List.set_cons_succ]
      refine wpAnyU_ready (rs := [9]) (by kernel_rfl) (by simp) (AllU.cons (i := 9) rfl (fun K hK => ?_) AllU.nil)
      simp only [List.getElem_toArray, List.getElem_cons_zero, List.getElem_cons_succ]
      go_simp
      refine hK.out _ _ (fun _ => ⟨?se, (HBA.out.cell (p := ⟨w.heap.size + 1, f, none⟩) hz0).trans hv⟩) ?re
      case se => exact (box_first wr #[.int .i64 f, .int .i64 et, .int .i64 ec, .int .i64 eb, .int .i64 em] 54 (.cells #[.int .i64 (t : Int)] 3) 0)
      clear hK K
      try simp only [Act.put, List.getElem_toArray, List.getElem_cons_zero, List.getElem_cons_succ, List.setIfInBounds_toArray, List.set_cons_zero, List.set_cons_succ]
      refine wpAnyU_ready (rs := [10]) (by kernel_rfl) (by simp) (AllU.cons (i := 10) rfl (fun K hK => ?_) AllU.nil)
      have hown0 := own_keep HO.out HBA.out
      have hbase : w.heap.size + 2 ≤ ((wr.alloc (.cells #[.int .i64 f, .int .i64 et, .int .i64 ec, .int .i64 eb, .int .i64 em] 54)).alloc (.cells #[.int .i64 (t : Int)] 3)).drew.heap.size := Nat.le_trans hzz HBA.out.size
      refine step_append_ints _ (by rfl) _ _ _ (by rfl) (w.heap.size + 2) 3 i0 _ Try.underlying22 hi hi0 hi1 hi2 rfl v (fromL es f t).length ((fromL es f t).map (Value.int .i64)) (by rfl) (by exact hown0) (some ⟨wr.heap.size + 1, 0, none⟩) 1 1 [(t : Int)] (by rfl) (by exact one_new (wr.alloc (.cells #[.int .i64 f, .int .i64 et, .int .i64 ec, .int .i64 eb, .int .i64 em] 54)) (wr.heap.size + 1) (by simp) t _) (by have := HLN.out; omega) (by exact hbase) ?_
      intro v' w2 hown hgrow hat
      obtain ⟨A', c', hve, hcc⟩ := own_slice hown
      have HRW := Lib.hid ((HRS.out.below HBA.out).grow hfS (l := fromL es f t) ⟨HVF.out, rfl⟩ hown hgrow hat)
      rw [hve] at HRW
      rw [hve] at hown hat ⊢
      have hb2 := below_own hown0 hgrow hbase
      have HB2 := Lib.hid hb2
      have HOW := Lib.hid hown
      have hc2 : w2.cell? ⟨w.heap.size + 1, f, none⟩ = some v := (hb2.cell (p := ⟨w.heap.size + 1, f, none⟩) (by simp)).trans ((HBA.out.cell (p := ⟨w.heap.size + 1, f, none⟩) hz0).trans hv)
      have hf2 : w2.frozen? ⟨w.heap.size + 1, f, none⟩ = false := (hb2.frozen (p := ⟨w.heap.size + 1, f, none⟩) (by simp)).trans ((HBA.out.frozen (p := ⟨w.heap.size + 1, f, none⟩) hz0).trans hfz)
      have he2 : w2.cell? ⟨wr.heap.size, 0, none⟩ = some (.int .i64 f) := (hgrow.cell_far ⟨wr.heap.size, 0, none⟩ (by simp; omega) (own_apart0 HO.out (Nat.le_refl _))).trans (box_first wr #[.int .i64 f, .int .i64 et, .int .i64 ec, .int .i64 eb, .int .i64 em] 54 (.cells #[.int .i64 (t : Int)] 3) 0)
      clear hve hown0 hown hgrow hat hb2 hHeld
      have hHeld := And.intro he2 hc2
      refine hK.out _ _ (fun _ => hHeld) ?_
      clear hK K
      try simp only [Act.put, List.getElem_toArray, List.getElem_cons_zero, List.getElem_cons_succ, List.setIfInBounds_toArray, List.set_cons_zero, List.set_cons_succ]
      refine wpAnyU_pure (i := 11) (v := ?vq11) rfl (by kernel_rfl) (by kernel_rfl) (by kernel_rfl) (by kernel_rfl) (fun _ _ _ h => h) (Or.inl ⟨by rfl, fun V _ => ?hyq11⟩) (fun _ => hHeld) ?restq11
      case hyq11 => go_simp; try with_reducible rfl
      try simp only [Act.put, List.getElem_toArray, List.getElem_cons_zero, List.getElem_cons_succ, List.setIfInBounds_toArray, List.set_cons_zero, List.set_cons_succ]
      refine wpAnyU_ready (rs := [12]) (by kernel_rfl) (by simp) (AllU.cons (i := 12) rfl (fun K hK => ?_) AllU.nil)
      simp only [List.getElem_toArray, List.getElem_cons_zero, List.getElem_cons_succ]
      go_simp
      refine hK.out _ _ (fun h => by have h2 : false = true := h; cases h2) ?_
      clear hK K
      try simp only [Act.put, List.getElem_toArray, List.getElem_cons_zero, List.getElem_cons_succ, List.setIfInBounds_toArray, List.set_cons_zero, List.set_cons_succ]
      refine wpAnyU_done (by kernel_rfl) ?_ _
      clear hHeld
      go_wp2_with fail
      go_roundg q
      case measure => omega
      case rel =>
        refine ⟨t + 1, by omega, by go_num, ⟨_, (((HROW.out.of_block (HBA.out.block _ hz0)).of_block (HB2.out.block _ (by omega))).set f (.slice A' ((fromL es f t).length + 1) c')), ?_⟩, ?_, ?_⟩
        · have h1 := (HRW.out.put (a := ⟨w.heap.size + 1, f, none⟩) (by show w.heap.size + 1 < w.heap.size + 2; omega) (.slice A' ((fromL es f t).length + 1) c')).lists (L' := fun s => fromL es s (t + 1)) (fun s hs => by
            show putL _ f _ s = fromL es s (t + 1)
            unfold putL
            by_cases e : s = f
            · subst e; rw [if_pos rfl, HYES.out]
            · rw [if_neg e, HNO.out s e])
          exact h1
        · exact ((HBx.out.trans (HBA.out.mono (by omega))).trans (HB2.out.mono (by omega))).setCell (p := ⟨w.heap.size + 1, f, none⟩) (by simp) _
        · have := Nat.le_trans hbase HB2.out.size
          show _ ≤ _
          simpa using this

end Go.Proofs.Ytfblnadmbfhjiaa.Wd

namespace Go.Proofs.Ytfblnadmbfhjiaa.Wd
open Go.RowKit
set_option linter.unusedVariables false

theorem edge_info : (Try.prog.info? 54).map (fun i => (i.zero, i.size, i.bytes)) = some (some (.agg #[.int .i64 0, .int .i64 0, .int .i64 0, .int .i64 0, .int .i64 0]), 5, 40) := by kernel_rfl

/-- The cells of an edge, and of a list of edges. -/
def edV (e : Ed) : List Value := [.int .i64 e.f, .int .i64 e.t, .int .i64 e.c, .int .i64 e.b, .int .i64 e.m]
def edsV (l : List Ed) : List Value := l.flatMap edV
theorem edsV_cons (e : Ed) (l : List Ed) : edsV (e :: l) = edV e ++ edsV l := rfl
theorem edsV_snoc (l : List Ed) (e : Ed) : edsV (l ++ [e]) = edsV l ++ edV e := by unfold edsV; rw [List.flatMap_append]; simp
theorem edsV_len (l : List Ed) : (edsV l).length = l.length * 5 := by
  induction l with
  | nil => rfl
  | cons e l ih => rw [edsV_cons, List.length_append, ih, List.length_cons]; show 5 + _ = _; omega
theorem edV_at (e : Ed) : (edV e)[0]? = some (.int .i64 e.f) ∧ (edV e)[1]? = some (.int .i64 e.t) ∧ (edV e)[2]? = some (.int .i64 e.c) ∧ (edV e)[3]? = some (.int .i64 e.b) ∧ (edV e)[4]? = some (.int .i64 e.m) := ⟨rfl, rfl, rfl, rfl, rfl⟩
theorem edsV_at (l : List Ed) (u k : Nat) (hu : u < l.length) (hk : k < 5) : (edsV l)[u * 5 + k]? = (edV (l.getD u ed0))[k]? := by
  induction l generalizing u with
  | nil => simp at hu
  | cons e l ih =>
    rw [edsV_cons]
    cases u with
    | zero =>
      rw [List.getElem?_append_left (by show 0 * 5 + k < 5; omega)]
      simp
    | succ u =>
      rw [List.getElem?_append_right (by show 5 ≤ _; omega)]
      show (edsV l)[(u + 1) * 5 + k - 5]? = _
      rw [show (u + 1) * 5 + k - 5 = u * 5 + k by omega, ih u (by simpa using hu)]
      simp

/-- An own row of edges: the cells of the edge u. -/
theorem own_edge {w : World} {B n : Nat} {v : Value} {l : List Ed} (h : w.ownsRow B 54 5 v n (edsV l)) (hn : l.length = n) {u : Nat} (hu : u < n) :
    ∃ g cap, v = .slice (some ⟨g, 0, none⟩) n cap ∧ B ≤ g ∧ g < w.heap.size ∧ w.cell? ⟨g, u * 5, none⟩ = some (.int .i64 (l.getD u ed0).f) ∧ w.cell? ⟨g, u * 5 + 1, none⟩ = some (.int .i64 (l.getD u ed0).t) ∧
      w.cell? ⟨g, u * 5 + 2, none⟩ = some (.int .i64 (l.getD u ed0).c) ∧ w.cell? ⟨g, u * 5 + 3, none⟩ = some (.int .i64 (l.getD u ed0).b) ∧ w.cell? ⟨g, u * 5 + 4, none⟩ = some (.int .i64 (l.getD u ed0).m) := by
  have hc := fun g (hg : v.ownBlock = some g) => h.cells hg
  have hl := h.lt
  rcases h.2 with ⟨rfl, hn0⟩ | ⟨g, cap, cur, rfl, hb, _⟩
  · omega
  · have hg : Value.ownBlock (.slice (some ⟨g, 0, none⟩) n cap) = some g := by simp [Value.ownBlock]
    have key : ∀ k, k < 5 → ∀ x, (edV (l.getD u ed0))[k]? = some x → w.cell? ⟨g, u * 5 + k, none⟩ = some x := fun k hk x hx => by
      have := hc g hg (u * 5 + k) x (by rw [edsV_at l u k (by omega) hk]; exact hx)
      rw [Addr.add_lit] at this
      simpa using this
    obtain ⟨e0, e1, e2, e3, e4⟩ := edV_at (l.getD u ed0)
    exact ⟨g, cap, rfl, hb, (hl g hg).2, key 0 (by omega) _ e0, key 1 (by omega) _ e1, key 2 (by omega) _ e2, key 3 (by omega) _ e3, key 4 (by omega) _ e4⟩
/-- Its length, as a slice. -/
theorem own_edges {w : World} {B n : Nat} {v : Value} {xs : List Value} (h : w.ownsRow B 54 5 v n xs) : ∃ A cap, v = .slice A n cap ∧ n ≤ cap := by
  rcases h.2 with ⟨rfl, hn⟩ | ⟨g, cap, cur, rfl, _, _, hnc, _⟩
  · exact ⟨none, 0, by rw [hn], by omega⟩
  · exact ⟨_, cap, rfl, hnc⟩

/-- append of one edge, as a step of a region that draws its order. -/
theorem step_append_edge {P : Program} (w : World) {ops : Array Oper} {o : Oper} {a : Act} {K : Act → World → Prop} {Q : Exit → Act → World → Prop} {E : Prop} (hgd : o.guard = none) (s x : Operand) (t : TypeId)
    (ho : o.op = .call { callee := .builtin .append, args := #[s, x], argTypes := #[t, t] })
    (base : Nat) (e : TypeId) (i : TypeInfo) (z : Value) (ht : P.underlying t = some (.slice e)) (hi : P.info? e = some i) (hz : i.zero = some z)
    (hsize : i.size = 5) (hby : i.bytes = 40) (hzs : z.cells.size = 5)
    (v : Value) (n : Nat) (xs : List Value) (hs : a.eval s = v) (hown : w.ownsRow base e 5 v n xs)
    (ad : Addr) (c : Nat) (y : Ed) (hx : a.eval x = .slice (some ad) 1 c) (hnews : ∀ j u, (edV y)[j]? = some u → w.cell? (ad.add j) = some u) (hn : n ≤ 1000000) (hbase : base ≤ w.heap.size)
    (h : ∀ v' w', w'.ownsRow base e 5 v' (n + 1) (xs ++ edV y) → w.grownBy w' v.ownBlock → (v'.ownBlock = v.ownBlock ∨ v'.ownBlock = some w.heap.size) → K (a.put o.dst v') w') :
    if Region.wanted o (yielded ops a.tmps) = true then Oper.wp P o a w K Q else E := by
  have hw : Region.wanted o (yielded ops a.tmps) = true := by simp [Region.wanted, hgd]
  rw [if_pos hw]
  obtain ⟨v', w', hrun, h2, h3, _, h4⟩ := run_append_own_at (P := P) w base t o.type e i z 5 40 ht hi hz hsize hby hzs (by omega) v n xs hown ad 1 c (edV y) (by rfl) hnews (by
    intro u hu
    simp only [edV, List.mem_cons, List.not_mem_nil, or_false] at hu
    rcases hu with rfl | rfl | rfl | rfl | rfl <;> rfl) (by unfold maxLen; omega) (by omega) hbase
  unfold Oper.wp execOp
  simp only [ho, resolve, invoke, builtin, Sem.run_bind, Sem.run_pure, Result.andThen_ok, List.map_toArray, List.map_cons, List.map_nil, hs, hx, hrun]
  exact h v' w' h2 h3 h4

/-- S rows of edges, own to the walk, each in a block of its own. -/
structure RowsE (B S : Nat) (w : World) (V : Nat → Value) (L : Nat → List Ed) : Prop where
  own : ∀ s, s < S → w.ownsRow B 54 5 (V s) (L s).length (edsV (L s))
  apt : ∀ s s', s < S → s' < S → s ≠ s' → Apt (V s) (V s')
theorem RowsE.start (B S : Nat) (w : World) : RowsE B S w (fun _ => .slice none 0 0) (fun _ => []) := ⟨fun s _ => World.ownsRow_nil _ _ _ _, fun _ _ _ _ _ => .inl rfl⟩
theorem RowsE.below {B S : Nat} {w w' : World} {V : Nat → Value} {L : Nat → List Ed} (h : RowsE B S w V L) (hb : Below w.heap.size w w') : RowsE B S w' V L := ⟨fun s hs => own_keep (h.own s hs) hb, h.apt⟩
theorem RowsE.put {B S : Nat} {w : World} {V : Nat → Value} {L : Nat → List Ed} (h : RowsE B S w V L) {a : Addr} (ha : a.block < B) (v : Value) : RowsE B S (w.setCell a v) V L := ⟨fun s hs => ownsRow_setCell_below (h.own s hs) ha v, h.apt⟩
theorem RowsE.lists {B S : Nat} {w : World} {V : Nat → Value} {L L' : Nat → List Ed} (h : RowsE B S w V L) (e : ∀ s, s < S → L s = L' s) : RowsE B S w V L' := ⟨fun s hs => by rw [← e s hs]; exact h.own s hs, h.apt⟩
def putE (L : Nat → List Ed) (f : Nat) (l : List Ed) (j : Nat) : List Ed := if j = f then l else L j
theorem RowsE.grow {B S f : Nat} {w w2 : World} {V : Nat → Value} {L : Nat → List Ed} {v v' : Value} {l : List Ed} {x : Ed} (h : RowsE B S w V L) (hf : f < S) (hl : V f = v ∧ L f = l)
    (hown : w2.ownsRow B 54 5 v' (l.length + 1) (edsV l ++ edV x)) (hg : w.grownBy w2 v.ownBlock) (hat : v'.ownBlock = v.ownBlock ∨ v'.ownBlock = some w.heap.size) :
    RowsE B S w2 (putV V f v') (putE L f (l ++ [x])) := by
  obtain ⟨rfl, rfl⟩ := hl
  refine ⟨fun s hs => ?_, fun s s' hs hs' hne => ?_⟩
  · unfold putV putE
    by_cases e : s = f
    · rw [if_pos e, if_pos e, List.length_append, edsV_snoc]; exact hown
    · rw [if_neg e, if_neg e]; exact (apt_grow (h.own s hs) (h.apt s f hs hf e) hg hat).1
  · unfold putV
    by_cases e : s = f
    · rw [if_pos e, if_neg (fun e' => hne (e.trans e'.symm))]
      exact (apt_grow (h.own s' hs') (h.apt s' f hs' hf (fun e' => hne (e.trans e'.symm))) hg hat).2.symm
    · rw [if_neg e]
      by_cases e' : s' = f
      · rw [if_pos e']; exact (apt_grow (h.own s hs) (h.apt s f hs hf e) hg hat).2
      · rw [if_neg e']; exact h.apt s s' hs hs' hne

/-- Of the first k edges those from s. -/
def fromE (es : List Ed) (s k : Nat) : List Ed := ((List.range k).map fun j => es.getD j ed0).filter fun e => decide (e.f = (s : Int))
theorem fromE_yes {es : List Ed} {s k : Nat} (h : (es.getD k ed0).f = (s : Int)) : fromE es s (k + 1) = fromE es s k ++ [es.getD k ed0] := by
  unfold fromE
  rw [List.range_succ, List.map_append, List.filter_append]
  simp only [List.map_cons, List.map_nil, List.filter_cons, List.filter_nil, h, decide_true, if_true]
theorem fromE_no {es : List Ed} {s k : Nat} (h : ¬ (es.getD k ed0).f = (s : Int)) : fromE es s (k + 1) = fromE es s k := by
  unfold fromE
  rw [List.range_succ, List.map_append, List.filter_append]
  simp only [List.map_cons, List.map_nil, List.filter_cons, List.filter_nil, decide_eq_false h, Bool.false_eq_true, if_false, List.append_nil]
theorem fromE_len (es : List Ed) (s k : Nat) : (fromE es s k).length ≤ k := by
  unfold fromE
  exact Nat.le_trans (List.length_filter_le _ _) (by simp)
theorem fromE_mem {es : List Ed} {s k : Nat} {e : Ed} : e ∈ fromE es s k ↔ ∃ i, i < k ∧ es.getD i ed0 = e ∧ e.f = (s : Int) := by
  unfold fromE
  rw [List.mem_filter, List.mem_map]
  constructor
  · rintro ⟨⟨i, h1, h2⟩, h3⟩
    exact ⟨i, List.mem_range.1 h1, h2, of_decide_eq_true h3⟩
  · rintro ⟨i, h1, h2, h3⟩
    exact ⟨⟨i, List.mem_range.2 h1, h2⟩, decide_eq_true h3⟩

end Go.Proofs.Ytfblnadmbfhjiaa.Wd

namespace Go.Proofs.Ytfblnadmbfhjiaa.Wd
open Go.RowKit
set_option linter.unusedVariables false
set_option linter.unusedSimpArgs false

/-- The edge e and a later one e' agree where both care. -/
def HitP (e e' : Ed) : Prop := bits .and .i64 e'.b e.c = bits .and .i64 e.b e'.c
/-- No two of the first k edges do that at one state. -/
def NoHit (es : List Ed) (k : Nat) : Prop := ∀ i j, i < j → j < k → (es.getD i ed0).f = (es.getD j ed0).f → ¬ HitP (es.getD i ed0) (es.getD j ed0)
theorem noHit_zero (es : List Ed) : NoHit es 0 := fun i j h1 h2 => by omega
theorem noHit_step {es : List Ed} {k f : Nat} (h : NoHit es k) (hf : (es.getD k ed0).f = (f : Int)) (hx : ∀ x, x < (fromE es f k).length → ¬ HitP ((fromE es f k).getD x ed0) (es.getD k ed0)) : NoHit es (k + 1) := by
  intro i j h1 h2 h3
  by_cases e : j = k
  · subst e
    have hm : es.getD i ed0 ∈ fromE es f j := fromE_mem.2 ⟨i, h1, rfl, h3.trans hf⟩
    obtain ⟨x, hx1, hx2⟩ := List.getElem_of_mem hm
    have := hx x hx1
    rw [List.getD_eq_getElem?_getD, List.getElem?_eq_getElem hx1, Option.getD_some, hx2] at this
    exact this
  · exact h i j h1 (by omega) h3
theorem hit_found {es : List Ed} {n k f x : Nat} (hk : k < n) (hf : (es.getD k ed0).f = (f : Int)) (hx : x < (fromE es f k).length) (h : HitP ((fromE es f k).getD x ed0) (es.getD k ed0)) : ¬ NoHit es n := by
  intro hn
  have hm : (fromE es f k).getD x ed0 ∈ fromE es f k := by rw [List.getD_eq_getElem?_getD, List.getElem?_eq_getElem hx]; exact List.getElem_mem hx
  obtain ⟨i, h1, h2, h3⟩ := fromE_mem.1 hm
  refine hn i k h1 hk ?_ ?_
  · rw [h2, h3, hf]
  · rw [h2]; exact h

theorem one_edge (w : World) (y : Ed) (t : TypeId) : ∀ j u, (edV y)[j]? = some u → (w.alloc (.cells #[.int .i64 y.f, .int .i64 y.t, .int .i64 y.c, .int .i64 y.b, .int .i64 y.m] t)).drew.cell? ((⟨w.heap.size, 0, none⟩ : Addr).add j) = some u := by
  intro j u hj
  rw [Addr.add_lit]
  show World.cell? (w.alloc _) _ = _
  rw [show 0 + j = j by omega, box_last, ← hj]
  simp [edV]
theorem own_apart5 {w : World} {B e k n g : Nat} {v : Value} {xs : List Value} (h : w.ownsRow B e k v n xs) (hg : w.heap.size ≤ g) : some g ≠ v.ownBlock := by
  intro he
  rcases h.2 with ⟨rfl, _⟩ | ⟨b, cap, cur, rfl, h1, hgg, _⟩
  · cases he
  · cases he
    exact Nat.lt_irrefl _ (Nat.lt_of_lt_of_le (Array.getElem?_eq_some_iff.1 hgg).1 hg)
theorem edges_info : (Try.prog.info? 23).map (fun i => (i.zero, i.size, i.bytes)) = some (some (.slice none 0 0), 1, 24) := by kernel_rfl

set_option maxRecDepth 100000 in
set_option maxHeartbeats 8000000 in
theorem refApart_any (P : Int) (S : Nat) (K M : Int) (A E : Option Addr) (n c ne ce : Nat) (es : List Ed) (w : World) (hE : EdgesAt w E ne es) (hS : S ≤ 3000) (hne : ne ≤ 40000)
    (hfr : ∀ j, j < ne → ∃ f : Nat, (es.getD j ed0).f = (f : Int) ∧ f < S) :
    Calls Try.prog 54 #[.agg #[.int .i64 P, .int .i64 S, .slice A n c, .int .i64 K, .int .i64 M, .slice E ne ce]] w fun e w' => ∃ r, e = .returned (.bool r) ∧ Hid (r = true ↔ NoHit es ne) ∧ Below w.heap.size w w' := by
  obtain ⟨i0, hi, hi0, hi1, hi2⟩ := info_parts edge_info
  have hmk := run_make_row' (P := Try.prog) 111 23 (.slice none 0 0) 24 Try.underlying111 edges_info rfl .i64 .i64 S (by omega) (by omega)
  have HA := Lib.hid hE
  have HFR := Lib.hid hfr
  clear hE hfr
  go_enter Try.func54, Try.ntmps54
  go_wp2_with fail
  obtain ⟨W0, hW0⟩ : ∃ W0, w.alloc (.cells #[.int .i64 P, .int .i64 S, .slice A n c, .int .i64 K, .int .i64 M, .slice E ne ce] 25) = W0 := ⟨_, rfl⟩
  have hz : W0.heap.size = w.heap.size + 1 := by rw [← hW0]; simp
  have HB0 := Lib.hid (show Below w.heap.size w W0 by rw [← hW0]; exact (Below.refl _ _).alloc (Nat.le_refl _) _)
  rw [hW0]
  clear hW0
  obtain ⟨W1, hW1⟩ : ∃ W1, W0.alloc (.cells (madeCells #[.slice none 0 0] S) 23) = W1 := ⟨_, rfl⟩
  have HR0 := Lib.hid (show W1.rowIs (w.heap.size + 1) 23 S (fun _ => .slice none 0 0) by rw [← hW1, ← hz]; exact World.rowIs_made W0 _ S _)
  have HB1 := Lib.hid (show Below (w.heap.size + 1) W0 W1 by rw [← hW1, ← hz]; exact (Below.refl _ _).alloc (Nat.le_refl _) _)
  have hz1 : W1.heap.size = w.heap.size + 2 := by rw [← hW1]; simp [hz]
  rw [hW1]
  clear hW1
  go_loopg [14] ne (fun g i wx => ∃ t : Nat, t + g = ne ∧ i = .int .i64 t ∧ Hid (∃ V, wx.rowIs (w.heap.size + 1) 23 S V ∧ RowsE (w.heap.size + 2) S wx V (fun s => fromE es s t)) ∧ Hid (NoHit es t) ∧ Hid (Below (w.heap.size + 1) W0 wx) ∧ Hid (w.heap.size + 2 ≤ wx.heap.size))
  case atStart => exact ⟨0, by omega, rfl, ⟨_, HR0.out, RowsE.start _ _ _⟩, noHit_zero es, HB1.out, (by show _ ≤ _; omega)⟩
  case round =>
    obtain ⟨t, htg, rfl, HR, HNH, HBx, HZ⟩ := hrel
    have hti : (0 : Int) ≤ (t : Int) := by omega
    have HBw := Lib.hid (HB0.out.trans (HBx.out.mono (by omega)))
    obtain ⟨V, hrow, hrs⟩ := HR.out
    have HROW := Lib.hid hrow
    have HRS := Lib.hid hrs
    have hzw := HZ.out
    clear hrow hrs HR HZ
    cases gk with
    | zero =>
      obtain rfl : ne = t := by omega
      go_wp2_with fail
      go_ret
      first | exact ⟨rfl, ⟨fun _ => HNH.out, fun _ => rfl⟩, HBw.out⟩ | exact ⟨true, rfl, ⟨fun _ => HNH.out, fun _ => rfl⟩, HBw.out⟩
    | succ q =>
      have ht1 : t < ne := by omega
      have hti2 : (t : Int) < (ne : Int) := by omega
      obtain ⟨b, off, rfl, hlt, hcell⟩ := (HA.out.below HBw.out).2 (by omega)
      obtain ⟨c0, c1, c2, c3, c4⟩ := hcell t ht1
      obtain ⟨f, hf, hfS⟩ := HFR.out t ht1
      have HYES := Lib.hid (fromE_yes hf)
      have HNO := Lib.hid (fun s (hs : ¬ s = f) => fromE_no (es := es) (s := s) (k := t) (by rw [hf]; omega))
      have HLN := Lib.hid (fromE_len es f t)
      have HSTEP := Lib.hid (fun h => noHit_step HNH.out hf h)
      have HFOUND := Lib.hid (fun x hx h => hit_found (x := x) ht1 hf hx h)
      generalize es.getD t ed0 = x at *
      obtain ⟨ef, et, ec, eb, em⟩ := x
      simp only at c0 c1 c2 c3 c4 hf
      subst hf
      clear hcell
      have hf0 : (0 : Int) ≤ (f : Int) := by omega
      have hf1 : (f : Int) < (S : Int) := by omega
      obtain ⟨v, hvf, HVF⟩ : ∃ v, V f = v ∧ Hid (V f = v) := ⟨_, rfl, rfl⟩
      have hv : wr.cell? ⟨w.heap.size + 1, f, none⟩ = some v := by rw [← hvf]; exact HROW.out.cell hfS
      have hfz := HROW.out.frozen f
      have ho : wr.ownsRow (w.heap.size + 2) 54 5 v (fromE es f t).length (edsV (fromE es f t)) := by rw [← hvf]; exact HRS.out.own f hfS
      obtain ⟨Av, cv, hve, hcv⟩ := own_edges ho
      clear hvf
      obtain ⟨nv, hnv, HNL⟩ : ∃ nv, (fromE es f t).length = nv ∧ Hid ((fromE es f t).length = nv) := ⟨_, rfl, rfl⟩
      rw [hnv] at hve ho hcv
      subst hve
      have HNV := Lib.hid (show nv ≤ 40000 by have := HLN.out; omega)
      have HO := Lib.hid ho
      have HAP := Lib.hid (own_apart5 ho (Nat.le_refl _))
      have hz0 : w.heap.size + 1 < wr.heap.size := by omega
      have hnv0 : (0 : Int) ≤ (nv : Int) := by omega
      clear hnv ho
      go_wp2_with fail
      obtain ⟨be, hbe⟩ : ∃ be, wr.heap.size = be := ⟨_, rfl⟩
      obtain ⟨We, hWe⟩ : ∃ We, wr.alloc (.cells #[.int .i64 f, .int .i64 et, .int .i64 ec, .int .i64 eb, .int .i64 em] 54) = We := ⟨_, rfl⟩
      have z0 : We.cell? ⟨be, 0, none⟩ = some (.int .i64 f) := by rw [← hWe, ← hbe, box_last]; rfl
      have z1 : We.cell? ⟨be, 1, none⟩ = some (.int .i64 et) := by rw [← hWe, ← hbe, box_last]; rfl
      have z2 : We.cell? ⟨be, 2, none⟩ = some (.int .i64 ec) := by rw [← hWe, ← hbe, box_last]; rfl
      have z3 : We.cell? ⟨be, 3, none⟩ = some (.int .i64 eb) := by rw [← hWe, ← hbe, box_last]; rfl
      have z4 : We.cell? ⟨be, 4, none⟩ = some (.int .i64 em) := by rw [← hWe, ← hbe, box_last]; rfl
      have hbz : We.heap.size = be + 1 := by rw [← hWe, ← hbe]; simp
      have hzb : w.heap.size + 1 < be := by omega
      have HBE := Lib.hid (show Below wr.heap.size wr We by rw [← hWe]; exact (Below.refl _ _).alloc (Nat.le_refl _) _)
      have hve : We.cell? ⟨w.heap.size + 1, f, none⟩ = some (.slice Av nv cv) := (HBE.out.cell (p := ⟨w.heap.size + 1, f, none⟩) hz0).trans hv
      have HFZ := Lib.hid ((HBE.out.frozen (p := ⟨w.heap.size + 1, f, none⟩) hz0).trans hfz)
      have HOE := Lib.hid (own_keep HO.out HBE.out)
      have HRSE := Lib.hid (HRS.out.below HBE.out)
      have HROWE := Lib.hid (HROW.out.of_block (HBE.out.block _ hz0))
      have HBXE := Lib.hid (HBx.out.trans (HBE.out.mono (by omega)))
      rw [hbe] at HAP
      rw [hWe, hbe]
      clear hWe hbe HBE HO HRS HROW HBx HBw hv hfz c0 c1 c2 c3 c4 hlt hz0 hzw
      go_loopg [24] nv (fun g i wx => ∃ u : Nat, u + g = nv ∧ i = .int .i64 u ∧ Hid (∀ x, x < u → ¬ HitP ((fromE es f t).getD x ed0) ⟨f, et, ec, eb, em⟩) ∧ Hid (Below We.heap.size We wx))
      case atStart => exact ⟨0, by omega, rfl, (fun x h => by omega), Below.refl _ _⟩
      case round =>
        obtain ⟨u, hug, rfl, HH, HBi⟩ := hrel
        have hui : (0 : Int) ≤ (u : Int) := by omega
        have hbr : be < wr.heap.size := Nat.lt_of_lt_of_le (by omega) HBi.out.size
        have hz0 : w.heap.size + 1 < wr.heap.size := by omega
        have r0 := (HBi.out.cell (p := ⟨be, 0, none⟩) (by show be < _; omega)).trans z0
        have r1 := (HBi.out.cell (p := ⟨be, 1, none⟩) (by show be < _; omega)).trans z1
        have r2 := (HBi.out.cell (p := ⟨be, 2, none⟩) (by show be < _; omega)).trans z2
        have r3 := (HBi.out.cell (p := ⟨be, 3, none⟩) (by show be < _; omega)).trans z3
        have r4 := (HBi.out.cell (p := ⟨be, 4, none⟩) (by show be < _; omega)).trans z4
        cases gk with
        | zero =>
          obtain rfl : nv = u := by omega
          have HNEXT := Lib.hid (HSTEP.out (by rw [HNL.out]; exact HH.out))
          have hvr := (HBi.out.cell (p := ⟨w.heap.size + 1, f, none⟩) (by show w.heap.size + 1 < _; omega)).trans hve
          have hfr := (HBi.out.frozen (p := ⟨w.heap.size + 1, f, none⟩) (by show w.heap.size + 1 < _; omega)).trans HFZ.out
          have HOR := Lib.hid (own_keep HOE.out HBi.out)
          have HRSR := Lib.hid (HRSE.out.below HBi.out)
          have hzz : w.heap.size + 2 ≤ wr.heap.size := by omega
          have HBA := Lib.hid (show Below wr.heap.size wr (wr.alloc (.cells #[.int .i64 f, .int .i64 et, .int .i64 ec, .int .i64 eb, .int .i64 em] 54)).drew from ((Below.refl _ _).alloc (Nat.le_refl _) _).drew)
          clear z0 z1 z2 z3 z4 hve
          go_wp2_with fail
          refine wp_region_until_drew (st := [12]) (S := fun V => V.cell? ⟨be, 0, none⟩ = some (.int .i64 f) ∧ V.cell? ⟨be, 1, none⟩ = some (.int .i64 et) ∧ V.cell? ⟨be, 2, none⟩ = some (.int .i64 ec) ∧ V.cell? ⟨be, 3, none⟩ = some (.int .i64 eb) ∧ V.cell? ⟨be, 4, none⟩ = some (.int .i64 em) ∧ V.cell? ⟨w.heap.size + 1, f, none⟩ = some (.slice Av nv cv)) (by kernel_rfl) ⟨r0, r1, r2, r3, r4, hvr⟩ (fun hHeld => ?_)
          refine wpAnyU_pure (i := 0) (v := ?vo0) rfl (by kernel_rfl) (by kernel_rfl) (by kernel_rfl) (by kernel_rfl) (fun _ _ _ h => h) (Or.inl ⟨by rfl, fun V _ => ?hyo0⟩) (fun _ => hHeld) ?resto0
          case hyo0 => go_simp; try with_reducible rfl
          try simp only [Act.put, List.getElem_toArray, List.getElem_cons_zero, List.getElem_cons_succ, List.setIfInBounds_toArray, List.set_cons_zero, List.set_cons_succ]
          refine wpAnyU_pure (i := 1) (v := ?vo1) rfl (by kernel_rfl) (by kernel_rfl) (by kernel_rfl) (by kernel_rfl) (fun _ _ _ h => h) (Or.inl ⟨by rfl, fun V _ => ?hyo1⟩) (fun _ => hHeld) ?resto1
          case hyo1 => go_simp; try with_reducible rfl
          try simp only [Act.put, List.getElem_toArray, List.getElem_cons_zero, List.getElem_cons_succ, List.setIfInBounds_toArray, List.set_cons_zero, List.set_cons_succ]
          refine wpAnyU_load (i := 2) (v := ?vo2) rfl (by kernel_rfl) (by kernel_rfl) (by kernel_rfl) (by kernel_rfl) (fun _ _ _ h => h) (Or.inl ⟨by rfl, fun V hSw => ?hyo2⟩) hHeld ?resto2
          case hyo2 => (obtain ⟨hs0, hs1, hs2, hs3, hs4, hs5⟩ := hSw); go_simp; try with_reducible rfl
          try simp only [Act.put, List.getElem_toArray, List.getElem_cons_zero, List.getElem_cons_succ, List.setIfInBounds_toArray, List.set_cons_zero, List.set_cons_succ]
          refine wpAnyU_pure (i := 3) (v := ?vo3) rfl (by kernel_rfl) (by kernel_rfl) (by kernel_rfl) (by kernel_rfl) (fun _ _ _ h => h) (Or.inl ⟨by rfl, fun V _ => ?hyo3⟩) (fun _ => hHeld) ?resto3
          case hyo3 => go_simp; try with_reducible rfl
          try simp only [Act.put, List.getElem_toArray, List.getElem_cons_zero, List.getElem_cons_succ, List.setIfInBounds_toArray, List.set_cons_zero, List.set_cons_succ]
          refine wpAnyU_pure (i := 4) (v := ?vo4) rfl (by kernel_rfl) (by kernel_rfl) (by kernel_rfl) (by kernel_rfl) (fun _ _ _ h => h) (Or.inl ⟨by rfl, fun V _ => ?hyo4⟩) (fun _ => hHeld) ?resto4
          case hyo4 => go_simp; try with_reducible rfl
          try simp only [Act.put, List.getElem_toArray, List.getElem_cons_zero, List.getElem_cons_succ, List.setIfInBounds_toArray, List.set_cons_zero, List.set_cons_succ]
          refine wpAnyU_load (i := 5) (v := ?vo5) rfl (by kernel_rfl) (by kernel_rfl) (by kernel_rfl) (by kernel_rfl) (fun _ _ _ h => h) (Or.inl ⟨by rfl, fun V hSw => ?hyo5⟩) hHeld ?resto5
          case hyo5 => (obtain ⟨hs0, hs1, hs2, hs3, hs4, hs5⟩ := hSw); go_simp; try with_reducible rfl
          try simp only [Act.put, List.getElem_toArray, List.getElem_cons_zero, List.getElem_cons_succ, List.setIfInBounds_toArray, List.set_cons_zero, List.set_cons_succ]
          refine wpAnyU_pure (i := 6) (v := ?vo6) rfl (by kernel_rfl) (by kernel_rfl) (by kernel_rfl) (by kernel_rfl) (fun _ _ _ h => h) (Or.inl ⟨by rfl, fun V _ => ?hyo6⟩) (fun _ => hHeld) ?resto6
          case hyo6 => go_simp; try with_reducible rfl
          try simp only [Act.put, List.getElem_toArray, List.getElem_cons_zero, List.getElem_cons_succ, List.setIfInBounds_toArray, List.set_cons_zero, List.set_cons_succ]
          refine wpAnyU_load (i := 7) (v := ?vo7) rfl (by kernel_rfl) (by kernel_rfl) (by kernel_rfl) (by kernel_rfl) (fun _ _ _ h => h) (Or.inl ⟨by rfl, fun V hSw => ?hyo7⟩) hHeld ?resto7
          case hyo7 => (obtain ⟨hs0, hs1, hs2, hs3, hs4, hs5⟩ := hSw); go_simp; try with_reducible rfl
          try simp only [Act.put, List.getElem_toArray, List.getElem_cons_zero, List.getElem_cons_succ, List.setIfInBounds_toArray, List.set_cons_zero, List.set_cons_succ]
          refine wpAnyU_load (i := 8) (v := ?vo8) rfl (by kernel_rfl) (by kernel_rfl) (by kernel_rfl) (by kernel_rfl) (fun _ _ _ h => h) (Or.inl ⟨by rfl, fun V hSw => ?hyo8⟩) hHeld ?resto8
          case hyo8 => (obtain ⟨hs0, hs1, hs2, hs3, hs4, hs5⟩ := hSw); go_simp; try with_reducible rfl
          try simp only [Act.put, List.getElem_toArray, List.getElem_cons_zero, List.getElem_cons_succ, List.setIfInBounds_toArray, List.set_cons_zero, List.set_cons_succ]
          refine wpAnyU_ready (rs := [9]) (by kernel_rfl) (by simp) (AllU.cons (i := 9) rfl (fun K hK => ?_) AllU.nil)
          simp only [List.getElem_toArray, List.getElem_cons_zero, List.getElem_cons_succ]
          go_simp
          refine hK.out _ _ (fun _ => ⟨(HBA.out.cell (p := ⟨be, 0, none⟩) hbr).trans r0, (HBA.out.cell (p := ⟨be, 1, none⟩) hbr).trans r1, (HBA.out.cell (p := ⟨be, 2, none⟩) hbr).trans r2, (HBA.out.cell (p := ⟨be, 3, none⟩) hbr).trans r3, (HBA.out.cell (p := ⟨be, 4, none⟩) hbr).trans r4, (HBA.out.cell (p := ⟨w.heap.size + 1, f, none⟩) hz0).trans hvr⟩) ?re
          clear hK K
          try simp only [Act.put, List.getElem_toArray, List.getElem_cons_zero, List.getElem_cons_succ, List.setIfInBounds_toArray, List.set_cons_zero, List.set_cons_succ]
          refine wpAnyU_ready (rs := [10]) (by kernel_rfl) (by simp) (AllU.cons (i := 10) rfl (fun K hK => ?_) AllU.nil)
          have hown0 := own_keep HOR.out HBA.out
          have hbase : w.heap.size + 2 ≤ (wr.alloc (.cells #[.int .i64 f, .int .i64 et, .int .i64 ec, .int .i64 eb, .int .i64 em] 54)).drew.heap.size := Nat.le_trans hzz HBA.out.size
          refine step_append_edge _ (by rfl) _ _ _ (by rfl) (w.heap.size + 2) 54 i0 _ Try.underlying23 hi hi0 hi1 hi2 rfl (.slice Av nv cv) nv (edsV (fromE es f t)) (by rfl) (by exact hown0) ⟨wr.heap.size, 0, none⟩ 1 ⟨f, et, ec, eb, em⟩ (by rfl) (by exact one_edge wr ⟨f, et, ec, eb, em⟩ _) (by have := HNV.out; omega) (by exact hbase) ?_
          intro v' w2 hown hgrow hat
          obtain ⟨A', c', hve, hcc⟩ := own_edges hown
          have HRW := Lib.hid ((HRSR.out.below HBA.out).grow (x := ⟨f, et, ec, eb, em⟩) hfS (l := fromE es f t) ⟨HVF.out, rfl⟩ (by rw [HNL.out]; exact hown) hgrow hat)
          rw [hve] at HRW
          rw [hve] at hown hat ⊢
          have hb2 := below_own hown0 hgrow hbase
          have HB2 := Lib.hid hb2
          have hc2 : w2.cell? ⟨w.heap.size + 1, f, none⟩ = some (.slice Av nv cv) := (hb2.cell (p := ⟨w.heap.size + 1, f, none⟩) (by simp)).trans ((HBA.out.cell (p := ⟨w.heap.size + 1, f, none⟩) hz0).trans hvr)
          have hf2 : w2.frozen? ⟨w.heap.size + 1, f, none⟩ = false := (hb2.frozen (p := ⟨w.heap.size + 1, f, none⟩) (by simp)).trans ((HBA.out.frozen (p := ⟨w.heap.size + 1, f, none⟩) hz0).trans hfr)
          have hbs : be < (wr.alloc (.cells #[.int .i64 f, .int .i64 et, .int .i64 ec, .int .i64 eb, .int .i64 em] 54)).drew.heap.size := Nat.lt_of_lt_of_le hbr HBA.out.size
          have s0 : w2.cell? ⟨be, 0, none⟩ = some (.int .i64 f) := (hgrow.cell_far ⟨be, 0, none⟩ hbs HAP.out).trans ((HBA.out.cell (p := ⟨be, 0, none⟩) hbr).trans r0)
          have s1 : w2.cell? ⟨be, 1, none⟩ = some (.int .i64 et) := (hgrow.cell_far ⟨be, 1, none⟩ hbs HAP.out).trans ((HBA.out.cell (p := ⟨be, 1, none⟩) hbr).trans r1)
          have s2 : w2.cell? ⟨be, 2, none⟩ = some (.int .i64 ec) := (hgrow.cell_far ⟨be, 2, none⟩ hbs HAP.out).trans ((HBA.out.cell (p := ⟨be, 2, none⟩) hbr).trans r2)
          have s3 : w2.cell? ⟨be, 3, none⟩ = some (.int .i64 eb) := (hgrow.cell_far ⟨be, 3, none⟩ hbs HAP.out).trans ((HBA.out.cell (p := ⟨be, 3, none⟩) hbr).trans r3)
          have s4 : w2.cell? ⟨be, 4, none⟩ = some (.int .i64 em) := (hgrow.cell_far ⟨be, 4, none⟩ hbs HAP.out).trans ((HBA.out.cell (p := ⟨be, 4, none⟩) hbr).trans r4)
          clear hve hown0 hown hgrow hat hb2 hHeld
          have hHeld := And.intro s0 (And.intro s1 (And.intro s2 (And.intro s3 (And.intro s4 hc2))))
          refine hK.out _ _ (fun _ => hHeld) ?_
          clear hK K
          try simp only [Act.put, List.getElem_toArray, List.getElem_cons_zero, List.getElem_cons_succ, List.setIfInBounds_toArray, List.set_cons_zero, List.set_cons_succ]
          refine wpAnyU_pure (i := 11) (v := ?vq11) rfl (by kernel_rfl) (by kernel_rfl) (by kernel_rfl) (by kernel_rfl) (fun _ _ _ h => h) (Or.inl ⟨by rfl, fun V _ => ?hyq11⟩) (fun _ => hHeld) ?restq11
          case hyq11 => go_simp; try with_reducible rfl
          try simp only [Act.put, List.getElem_toArray, List.getElem_cons_zero, List.getElem_cons_succ, List.setIfInBounds_toArray, List.set_cons_zero, List.set_cons_succ]
          refine wpAnyU_ready (rs := [12]) (by kernel_rfl) (by simp) (AllU.cons (i := 12) rfl (fun K hK => ?_) AllU.nil)
          simp only [List.getElem_toArray, List.getElem_cons_zero, List.getElem_cons_succ]
          go_simp
          refine hK.out _ _ (fun h => by have h2 : false = true := h; cases h2) ?_
          clear hK K
          try simp only [Act.put, List.getElem_toArray, List.getElem_cons_zero, List.getElem_cons_succ, List.setIfInBounds_toArray, List.set_cons_zero, List.set_cons_succ]
          refine wpAnyU_done (by kernel_rfl) ?_ _
          clear hHeld
          go_wp2_with fail
          go_roundg q
          case measure => omega
          case rel =>
            refine ⟨t + 1, by omega, by go_num, ⟨_, ((((HROWE.out.of_block (HBi.out.block _ (by omega))).of_block (HBA.out.block _ hz0)).of_block (HB2.out.block _ (by omega))).set f (.slice A' (nv + 1) c')), ?_⟩, HNEXT, ?_, ?_⟩
            · have h1 := (HRW.out.put (a := ⟨w.heap.size + 1, f, none⟩) (by show w.heap.size + 1 < w.heap.size + 2; omega) (.slice A' (nv + 1) c')).lists (L' := fun s => fromE es s (t + 1)) (fun s hs => by
                show putE _ f _ s = fromE es s (t + 1)
                unfold putE
                by_cases e : s = f
                · subst e; rw [if_pos rfl, HYES.out]
                · rw [if_neg e, HNO.out s e])
              exact h1
            · exact (((HBXE.out.trans (HBi.out.mono (by omega))).trans (HBA.out.mono (by omega))).trans (HB2.out.mono (by omega))).setCell (p := ⟨w.heap.size + 1, f, none⟩) (by simp) _
            · have := Nat.le_trans hbase HB2.out.size
              show _ ≤ _
              simpa using this
        | succ g =>
          have hu1 : u < nv := by omega
          have hui2 : (u : Int) < (nv : Int) := by omega
          have hnv4 := HNV.out
          obtain ⟨gv, cap, hva, hgB, hgl, k0, k1, k2, k3, k4⟩ := own_edge (own_keep HOE.out HBi.out) HNL.out hu1
          injection hva with hva1 hva2 hva3
          subst hva1
          subst hva3
          have HF := Lib.hid (fun h => HFOUND.out u (by rw [HNL.out]; exact hu1) h)
          have HMORE := Lib.hid (fun (hno : ¬ HitP ((fromE es f t).getD u ed0) ⟨f, et, ec, eb, em⟩) => show ∀ x, x < u + 1 → ¬ HitP ((fromE es f t).getD x ed0) ⟨f, et, ec, eb, em⟩ from fun x hx => by
            by_cases e : x = u
            · subst e; exact hno
            · exact HH.out x (by omega))
          generalize (fromE es f t).getD u ed0 = y at *
          obtain ⟨yf, yt, yc, yb, ym⟩ := y
          simp only at k0 k1 k2 k3 k4
          obtain ⟨a1, ha1, HA1⟩ : ∃ a1, bits .and .i64 eb yc = a1 ∧ Hid (bits .and .i64 eb yc = a1) := ⟨_, rfl, rfl⟩
          obtain ⟨a2, ha2, HA2⟩ : ∃ a2, bits .and .i64 yb ec = a2 ∧ Hid (bits .and .i64 yb ec = a2) := ⟨_, rfl, rfl⟩
          have HIT := Lib.hid (show HitP ⟨yf, yt, yc, yb, ym⟩ ⟨f, et, ec, eb, em⟩ ↔ a1 = a2 by unfold HitP; simp only; rw [HA1.out, HA2.out])
          have HBW := Lib.hid (HB0.out.trans ((HBXE.out.trans (HBi.out.mono (by omega))).mono (by omega)))
          clear z0 z1 z2 z3 z4 hve
          by_cases h : a1 = a2
          · have HX := Lib.hid (HF.out (HIT.out.2 h))
            subst h
            go_wp2_with fail
            go_ret
            have HB9 := HBW.out.alloc HBW.out.size (.cells #[.int .i64 yf, .int .i64 yt, .int .i64 yc, .int .i64 yb, .int .i64 ym] 54)
            exact .inl ⟨rfl, HB9⟩
          · have HX := Lib.hid (HMORE.out (fun hh => h (HIT.out.1 hh)))
            have h1 : (a1 == a2) = false := by rw [beq_eq_false_iff_ne]; exact h
            have h2 : decide (a1 = a2) = false := decide_eq_false h
            go_wp2_with fail
            go_roundg g
            case measure => omega
            case rel => exact ⟨u + 1, by omega, by go_num, HX, HBi.out.alloc HBi.out.size _⟩

end Go.Proofs.Ytfblnadmbfhjiaa.Wd

namespace Go.Proofs.Ytfblnadmbfhjiaa.Wd
open Go.RowKit
set_option linter.unusedVariables false

theorem bool_info : (Try.prog.info? 4).map (fun i => (i.zero, i.size, i.bytes)) = some (some (.bool false), 1, 1) := by kernel_rfl

/-- The reachable states. -/
inductive Rch (st : List Int) (es : List Ed) : Nat → Prop
  | start (k s : Nat) : k < st.length → st.getD k 0 = (s : Int) → Rch st es s
  | edge (k a b : Nat) : k < es.length → (es.getD k ed0).f = (a : Int) → (es.getD k ed0).t = (b : Int) → Rch st es a → Rch st es b

def updB (F : Nat → Bool) (j i : Nat) : Bool := if i = j then true else F i
theorem updB_same (F : Nat → Bool) (j : Nat) : updB F j j = true := by unfold updB; rw [if_pos rfl]
theorem updB_mono {F : Nat → Bool} {j i : Nat} (h : F i = true) : updB F j i = true := by unfold updB; split <;> first | rfl | exact h
theorem updB_true {F : Nat → Bool} {j i : Nat} (h : updB F j i = true) : i = j ∨ F i = true := by
  unfold updB at h
  split at h
  · rename_i e; exact .inl e
  · exact .inr h
/-- How many of the first n are not there. -/
def cntF (F : Nat → Bool) : Nat → Nat
  | 0 => 0
  | n + 1 => (if F n = true then 0 else 1) + cntF F n
theorem cntF_far {F : Nat → Bool} {j : Nat} : ∀ n, n ≤ j → cntF (updB F j) n = cntF F n
  | 0, _ => rfl
  | n + 1, h => by
    unfold cntF
    rw [cntF_far n (by omega), show updB F j n = F n by unfold updB; rw [if_neg (by omega)]]
theorem cntF_set {F : Nat → Bool} {j : Nat} (h : F j = false) : ∀ n, j < n → cntF (updB F j) n + 1 = cntF F n
  | 0, hj => by omega
  | n + 1, hj => by
    unfold cntF
    by_cases e : j = n
    · subst e
      rw [cntF_far j (Nat.le_refl _), updB_same, h, if_pos rfl, if_neg (by decide)]
      omega
    · rw [show updB F j n = F n by unfold updB; rw [if_neg (fun x => e x.symm)], ← cntF_set h n (by omega)]
      omega
theorem cntF_le (F : Nat → Bool) (n : Nat) : cntF F n ≤ n := by
  induction n with
  | zero => exact Nat.le_refl _
  | succ n ih => unfold cntF; split <;> omega

def SoundF (st : List Int) (es : List Ed) (F : Nat → Bool) : Prop := ∀ i, F i = true → Rch st es i
def StartF (st : List Int) (F : Nat → Bool) (t : Nat) : Prop := ∀ k s : Nat, k < t → st.getD k 0 = (s : Int) → F s = true
def EdgeF (es : List Ed) (F : Nat → Bool) (t : Nat) : Prop := ∀ k a b : Nat, k < t → (es.getD k ed0).f = (a : Int) → (es.getD k ed0).t = (b : Int) → F a = true → F b = true
def RowF (w : World) (b S : Nat) (F : Nat → Bool) : Prop := w.rowIs b 4 S (fun i => .bool (F i))
theorem RowF.upd {w : World} {b S j : Nat} {F : Nat → Bool} (h : RowF w b S F) : RowF (w.setCell ⟨b, j, none⟩ (.bool true)) b S (updB F j) :=
  (World.rowIs.set h j (.bool true)).congr (fun i hi => by unfold updB; by_cases e : i = j <;> simp [e])
theorem RowF.cell {w : World} {b S i : Nat} {F : Nat → Bool} (h : RowF w b S F) (hi : i < S) : w.cell? ⟨b, i, none⟩ = some (.bool (F i)) := World.rowIs.cell h hi
theorem RowF.lt {w : World} {b S : Nat} {F : Nat → Bool} (h : RowF w b S F) : b < w.heap.size := World.rowIs.lt h
theorem RowF.free {w : World} {b S : Nat} {F : Nat → Bool} (h : RowF w b S F) (i : Nat) : w.frozen? ⟨b, i, none⟩ = false := World.rowIs.frozen h i
theorem RowF.alloc {w : World} {b S : Nat} {F : Nat → Bool} (h : RowF w b S F) (o : Obj) : RowF (w.alloc o) b S F := World.rowIs.alloc h o

theorem start_next {st : List Int} {F : Nat → Bool} {t j : Nat} (h : StartF st F t) (hj : st.getD t 0 = (j : Int)) : StartF st (updB F j) (t + 1) := by
  intro k s hk hs
  by_cases e : k = t
  · subst e
    obtain rfl : j = s := by omega
    exact updB_same F j
  · exact updB_mono (h k s (by omega) hs)
theorem sound_start {st : List Int} {es : List Ed} {F : Nat → Bool} {t j : Nat} (h : SoundF st es F) (ht : t < st.length) (hj : st.getD t 0 = (j : Int)) : SoundF st es (updB F j) := by
  intro i hi
  rcases updB_true hi with rfl | h2
  · exact .start t i ht hj
  · exact h i h2
theorem sound_edge {st : List Int} {es : List Ed} {F : Nat → Bool} {t a b : Nat} (h : SoundF st es F) (ht : t < es.length) (hf : (es.getD t ed0).f = (a : Int)) (hb : (es.getD t ed0).t = (b : Int)) (ha : F a = true) : SoundF st es (updB F b) := by
  intro i hi
  rcases updB_true hi with rfl | h2
  · exact .edge t a i ht hf hb (h a ha)
  · exact h i h2
theorem edge_next {es : List Ed} {F : Nat → Bool} {t a b : Nat} (h : EdgeF es F t) (hf : (es.getD t ed0).f = (a : Int)) (hb : (es.getD t ed0).t = (b : Int)) (hab : F a = true → F b = true) : EdgeF es F (t + 1) := by
  intro k x y hk hx hy h1
  by_cases e : k = t
  · subst e
    obtain rfl : a = x := by omega
    obtain rfl : b = y := by omega
    exact hab h1
  · exact h k x y (by omega) hx hy h1
theorem reach_done {st : List Int} {es : List Ed} {F : Nat → Bool} (h1 : SoundF st es F) (h2 : StartF st F st.length) (h3 : EdgeF es F es.length) (i : Nat) : F i = true ↔ Rch st es i := by
  refine ⟨h1 i, fun h => ?_⟩
  induction h with
  | start k s hk hs => exact h2 k s hk hs
  | edge k a b hk ha hb _ ih => exact h3 k a b hk ha hb ih

set_option maxRecDepth 100000 in
set_option maxHeartbeats 8000000 in
theorem refReached_any (P : Int) (S : Nat) (K M : Int) (A E : Option Addr) (n c ne ce : Nat) (st : List Int) (es : List Ed) (w : World) (ha : Ints w A n st) (hn : n ≤ 17592186044416) (hE : EdgesAt w E ne es) (hS : S ≤ 3000) (hne : ne ≤ 40000)
    (hst : ∀ j, j < n → ∃ s : Nat, st.getD j 0 = (s : Int) ∧ s < S)
    (hes : ∀ j, j < ne → ∃ a b : Nat, (es.getD j ed0).f = (a : Int) ∧ (es.getD j ed0).t = (b : Int) ∧ a < S ∧ b < S) :
    Calls Try.prog 41 #[.agg #[.int .i64 P, .int .i64 S, .slice A n c, .int .i64 K, .int .i64 M, .slice E ne ce]] w fun r w' =>
      ∃ b F, r = .returned (.slice (some ⟨b, 0, none⟩) S S) ∧ RowF w' b S F ∧ (∀ i, F i = true ↔ Rch st es i) ∧ w.heap.size ≤ b ∧ Below w.heap.size w w' := by
  have hmk := run_make_row' (P := Try.prog) 31 4 (.bool false) 1 Try.underlying31 bool_info rfl .i64 .i64 S (by omega) (by omega)
  have HA := Lib.hid hE
  have HEL := Lib.hid hE.1
  have HI := Lib.hid ha
  have HIL := Lib.hid ha.1
  have HST := Lib.hid hst
  have HES := Lib.hid hes
  clear hE ha hst hes
  go_enter Try.func41, Try.ntmps41
  go_wp2_with fail
  obtain ⟨W0, hW0⟩ : ∃ W0, w.alloc (.cells #[.int .i64 P, .int .i64 S, .slice A n c, .int .i64 K, .int .i64 M, .slice E ne ce] 25) = W0 := ⟨_, rfl⟩
  have q5 : W0.cell? ⟨w.heap.size, 5, none⟩ = some (.slice E ne ce) := by rw [← hW0, box_last]; rfl
  have hz : W0.heap.size = w.heap.size + 1 := by rw [← hW0]; simp
  have HB0 := Lib.hid (show Below w.heap.size w W0 by rw [← hW0]; exact (Below.refl _ _).alloc (Nat.le_refl _) _)
  rw [hW0]
  clear hW0
  obtain ⟨W1, hW1⟩ : ∃ W1, W0.alloc (.cells (madeCells #[.bool false] S) 4) = W1 := ⟨_, rfl⟩
  have HR0 := Lib.hid (show RowF W1 (w.heap.size + 1) S (fun _ => false) by unfold RowF; rw [← hW1, ← hz]; exact World.rowIs_made W0 _ S _)
  have HB1 := Lib.hid (show Below (w.heap.size + 1) W0 W1 by rw [← hW1, ← hz]; exact (Below.refl _ _).alloc (Nat.le_refl _) _)
  have hz1 : W1.heap.size = w.heap.size + 2 := by rw [← hW1]; simp [hz]
  rw [hW1]
  clear hW1
  go_loopg [15] n (fun g i wx => ∃ t : Nat, t + g = n ∧ i = .int .i64 t ∧ Hid (∃ F, RowF wx (w.heap.size + 1) S F ∧ SoundF st es F ∧ StartF st F t) ∧ Hid (Below (w.heap.size + 1) W0 wx))
  case atStart => exact ⟨0, by omega, rfl, ⟨_, HR0.out, (fun i h => by cases h), (fun k s h => by omega)⟩, HB1.out⟩
  case round =>
    obtain ⟨t, htg, rfl, HR, HBx⟩ := hrel
    have hti : (0 : Int) ≤ (t : Int) := by omega
    have HBw := Lib.hid (HB0.out.trans (HBx.out.mono (by omega)))
    have r5 := (HBx.out.cell (p := ⟨w.heap.size, 5, none⟩) (by simp)).trans q5
    obtain ⟨F, hRF, hSF, hTF⟩ := HR.out
    have HRF := Lib.hid hRF
    have HSF := Lib.hid hSF
    have HTF := Lib.hid hTF
    have hzr := hRF.lt
    clear hRF hSF hTF HR
    cases gk with
    | zero =>
      obtain rfl : n = t := by omega
      go_wp2_with fail
      clear r5
      go_loopg [6] (S + 2) (fun g m wx => ∃ mb : Bool, m = .bool mb ∧ Hid (∃ F, RowF wx (w.heap.size + 1) S F ∧ SoundF st es F ∧ StartF st F st.length ∧ (mb = true → cntF F S < g) ∧ (mb = false → EdgeF es F es.length)) ∧ Hid (Below (w.heap.size + 1) W0 wx))
      case atStart => exact ⟨true, rfl, ⟨F, HRF.out, HSF.out, by rw [HIL.out]; exact HTF.out, fun _ => by have := cntF_le F S; omega, fun h => by cases h⟩, HBx.out⟩
      case round =>
        clear HRF HSF HTF HBw HBx hzr htg hti
        obtain ⟨mb, rfl, HR, HBx⟩ := hrel
        have HBw := Lib.hid (HB0.out.trans (HBx.out.mono (by omega)))
        have r5 := (HBx.out.cell (p := ⟨w.heap.size, 5, none⟩) (by simp)).trans q5
        obtain ⟨F, hRF, hSF, hTF, hCT, hEF⟩ := HR.out
        have HRF := Lib.hid hRF
        have HSF := Lib.hid hSF
        have HTF := Lib.hid hTF
        have HCT := Lib.hid hCT
        have HEF := Lib.hid hEF
        have hzr := hRF.lt
        have hzr0 : w.heap.size < wr.heap.size := by omega
        clear hRF hSF hTF hCT hEF HR
        cases mb
        · go_wp2_with fail
          go_ret
          have HE9 := Lib.hid (HEF.out (by trivial))
          first | exact ⟨_, rfl, F, HRF.out, reach_done HSF.out HTF.out HE9.out, by omega, HBw.out⟩ | exact ⟨_, F, rfl, HRF.out, reach_done HSF.out HTF.out HE9.out, by omega, HBw.out⟩
        · have hct := HCT.out rfl
          clear HCT HEF
          go_wp2_with fail
          clear r5
          have HW := Lib.hid (⟨HRF.out, HSF.out, HTF.out⟩ : RowF wr (w.heap.size + 1) S F ∧ SoundF st es F ∧ StartF st F st.length)
          have HBX0 := Lib.hid HBx.out
          clear HRF HSF HTF HBx HBw
          obtain ⟨C, hC, HC⟩ : ∃ C, cntF F S = C ∧ Hid (cntF F S = C) := ⟨_, rfl, rfl⟩
          rw [hC] at hct
          clear hC
          go_loopg [6, 27] ne (fun g m i wx => ∃ (mb : Bool) (t : Nat), t + g = ne ∧ m = .bool mb ∧ i = .int .i64 t ∧
            Hid (∃ F, RowF wx (w.heap.size + 1) S F ∧ SoundF st es F ∧ StartF st F st.length ∧ (mb = true → cntF F S < C) ∧ (mb = false → EdgeF es F t ∧ cntF F S = C)) ∧ Hid (Below (w.heap.size + 1) W0 wx))
          case atStart => exact ⟨false, 0, by omega, rfl, rfl, ⟨F, HW.out.1, HW.out.2.1, HW.out.2.2, (fun h => by cases h), fun _ => ⟨(fun k a b h => by omega), HC.out⟩⟩, HBX0.out⟩
          case round =>
            rename_i gold wold
            clear HW HBX0 HC hzr hzr0 F
            obtain ⟨mb, t, htg, rfl, rfl, HR, HBx⟩ := hrel
            have hti : (0 : Int) ≤ (t : Int) := by omega
            have HBw := Lib.hid (HB0.out.trans (HBx.out.mono (by omega)))
            obtain ⟨F, hRF, hSF, hTF, hCT, hEF⟩ := HR.out
            have HRF := Lib.hid hRF
            have HSF := Lib.hid hSF
            have HTF := Lib.hid hTF
            have HCT := Lib.hid hCT
            have HEF := Lib.hid hEF
            have hzr := hRF.lt
            have hzr0 : w.heap.size < wr.heap.size := by omega
            clear hRF hSF hTF hCT hEF HR
            cases gk with
            | zero =>
              obtain rfl : ne = t := by omega
              have HN := Lib.hid (show ∃ F, RowF wr (w.heap.size + 1) S F ∧ SoundF st es F ∧ StartF st F st.length ∧ (mb = true → cntF F S < C) ∧ (mb = false → EdgeF es F es.length) from ⟨F, HRF.out, HSF.out, HTF.out, HCT.out, fun h => by rw [HEL.out]; exact (HEF.out h).1⟩)
              clear HRF HSF HTF HCT HEF
              go_wp2_with fail
              go_roundg C
              case measure => omega
              case rel => exact ⟨mb, rfl, HN, HBx⟩
            | succ q =>
              have ht1 : t < ne := by omega
              have hti2 : (t : Int) < (ne : Int) := by omega
              obtain ⟨b, off, rfl, hlt, hcell⟩ := (HA.out.below HBw.out).2 (by omega)
              obtain ⟨c0, c1, c2, c3, c4⟩ := hcell t ht1
              obtain ⟨x, y, hx, hy, hxS, hyS⟩ := HES.out t ht1
              have HSE := Lib.hid (fun h => sound_edge HSF.out (by rw [HEL.out]; exact ht1) hx hy h)
              have HEN := Lib.hid (fun (h : EdgeF es F t) hab => edge_next h hx hy hab)
              generalize es.getD t ed0 = ex at c0 c1 c2 c3 c4 hx hy
              obtain ⟨ef, et, ec, eb, em⟩ := ex
              simp only at c0 c1 c2 c3 c4 hx hy
              subst hx
              subst hy
              clear hcell
              have hx0 : (0 : Int) ≤ (x : Int) := by omega
              have hx1 : (x : Int) < (S : Int) := by omega
              have hy0 : (0 : Int) ≤ (y : Int) := by omega
              have hy1 : (y : Int) < (S : Int) := by omega
              have kx := HRF.out.cell hxS
              have ky := HRF.out.cell hyS
              have hfz := HRF.out.free y
              cases hfx : F x
              · rw [hfx] at kx
                have HN := Lib.hid (show ∃ F', RowF (wr.alloc (.cells #[.int .i64 x, .int .i64 y, .int .i64 ec, .int .i64 eb, .int .i64 em] 54)) (w.heap.size + 1) S F' ∧ SoundF st es F' ∧ StartF st F' st.length ∧ (mb = true → cntF F' S < C) ∧ (mb = false → EdgeF es F' (t + 1) ∧ cntF F' S = C) from
                  ⟨F, HRF.out.alloc _, HSF.out, HTF.out, HCT.out, fun h => ⟨HEN.out (HEF.out h).1 (fun h1 => by rw [hfx] at h1; cases h1), (HEF.out h).2⟩⟩)
                clear HRF HSF HTF HCT HEF HSE HEN hfx ky
                go_wp2_with fail
                go_roundg q
                case measure => omega
                case rel => exact ⟨mb, t + 1, by omega, rfl, by go_num, HN, HBx.out.alloc (by omega) _⟩
              · rw [hfx] at kx
                cases hfy : F y
                · rw [hfy] at ky
                  have HN := Lib.hid (show ∃ F', RowF ((wr.setCell ⟨w.heap.size + 1, y, none⟩ (.bool true)).alloc (.cells #[.int .i64 x, .int .i64 y, .int .i64 ec, .int .i64 eb, .int .i64 em] 54)) (w.heap.size + 1) S F' ∧ SoundF st es F' ∧ StartF st F' st.length ∧ cntF F' S < C from
                    ⟨updB F y, HRF.out.upd.alloc _, HSE.out hfx, (fun k s hk hs => updB_mono (HTF.out k s hk hs)), (by
                      have h1 := cntF_set hfy S hyS
                      cases mb
                      · have := (HEF.out rfl).2; omega
                      · have := HCT.out rfl; omega)⟩)
                  clear HRF HSF HTF HCT HEF HSE HEN hfx hfy
                  go_wp2_with fail
                  go_roundg q
                  case measure => omega
                  case rel =>
                    obtain ⟨F', u1, u2, u3, u4⟩ := HN.out
                    exact ⟨true, t + 1, by omega, rfl, by go_num, ⟨F', u1, u2, u3, fun _ => u4, fun h => by cases h⟩, (HBx.out.setCell (p := ⟨w.heap.size + 1, y, none⟩) (by simp) _).alloc (by simp; omega) _⟩
                · rw [hfy] at ky
                  have HN := Lib.hid (show ∃ F', RowF (wr.alloc (.cells #[.int .i64 x, .int .i64 y, .int .i64 ec, .int .i64 eb, .int .i64 em] 54)) (w.heap.size + 1) S F' ∧ SoundF st es F' ∧ StartF st F' st.length ∧ (mb = true → cntF F' S < C) ∧ (mb = false → EdgeF es F' (t + 1) ∧ cntF F' S = C) from
                    ⟨F, HRF.out.alloc _, HSF.out, HTF.out, HCT.out, fun h => ⟨HEN.out (HEF.out h).1 (fun _ => hfy), (HEF.out h).2⟩⟩)
                  clear HRF HSF HTF HCT HEF HSE HEN hfx hfy
                  go_wp2_with fail
                  go_roundg q
                  case measure => omega
                  case rel => exact ⟨mb, t + 1, by omega, rfl, by go_num, HN, HBx.out.alloc (by omega) _⟩
    | succ q =>
      have ht1 : t < n := by omega
      have hti2 : (t : Int) < (n : Int) := by omega
      obtain ⟨b, off, rfl, hlt, hcell⟩ := (HI.out.below HBw.out).at_ ht1
      have hct := hcell t ht1
      obtain ⟨s, hs, hsS⟩ := HST.out t ht1
      have HN := Lib.hid (show ∃ F', RowF (wr.setCell ⟨w.heap.size + 1, s, none⟩ (.bool true)) (w.heap.size + 1) S F' ∧ SoundF st es F' ∧ StartF st F' (t + 1) from
        ⟨updB F s, HRF.out.upd, sound_start HSF.out (by rw [HIL.out]; exact ht1) hs, start_next HTF.out hs⟩)
      have ks := HRF.out.cell hsS
      have hfz := HRF.out.free s
      rw [hs] at hct
      have hs0 : (0 : Int) ≤ (s : Int) := by omega
      have hs1 : (s : Int) < (S : Int) := by omega
      clear hcell HRF HSF HTF hs
      go_wp2_with fail
      go_roundg q
      case measure => omega
      case rel => exact ⟨t + 1, by omega, by go_num, HN, HBx.out.setCell (p := ⟨w.heap.size + 1, s, none⟩) (by simp) _⟩

end Go.Proofs.Ytfblnadmbfhjiaa.Wd

namespace Go.Proofs.Ytfblnadmbfhjiaa.Wd
open Go.RowKit
set_option linter.unusedVariables false

/-- The contract of the reference's Valid. -/
def RefValidOK : Prop := ∀ (P S K M : Int) (A E : Option Addr) (n c ne ce : Nat) (st : List Int) (es : List Ed) (w : World), Ints w A n st → n ≤ 17592186044416 → EdgesAt w E ne es → ne ≤ 17592186044416 →
  Calls Try.prog 19 #[.agg #[.int .i64 P, .int .i64 S, .slice A n c, .int .i64 K, .int .i64 M, .slice E ne ce]] w fun e w' => e = .returned (.bool (autB P S K M st es)) ∧ Below w.heap.size w w'

theorem letter_six (x : Int) (p : Nat) (w : World) (hp : p ≤ 6) : Calls Try.prog 43 #[.int .i64 x, .int .i64 p] w fun e w' => e = .returned (.bool (decide (0 ≤ x ∧ x < 2 ^ p))) ∧ w = w' := by
  obtain ⟨PP, hPP, HPP⟩ : ∃ X : Int, IntKind.i64.wrap ((2 : Int) ^ p) = X ∧ Hid ((2 : Int) ^ p = X) := ⟨_, pow_wrap6 hp, rfl⟩
  rw [HPP.out]
  have hp0 : (0 : Int) ≤ (p : Int) := by omega
  have hp6 : (p : Int) ≤ 6 := by omega
  obtain ⟨d, hd, HD⟩ : ∃ d, decide (0 ≤ x ∧ x < PP) = d ∧ Hid (decide (0 ≤ x ∧ x < PP) = d) := ⟨_, rfl, rfl⟩
  rw [hd]
  clear hd
  have hc : x < 0 ∨ (0 ≤ x ∧ PP ≤ x) ∨ (0 ≤ x ∧ x < PP) := by omega
  rcases hc with h | ⟨h, h2⟩ | ⟨h, h2⟩
  · have HF := Lib.hid (show d = false by rw [← HD.out]; exact decide_eq_false (by omega))
    go_enter Try.func43, Try.ntmps43
    go_wp2_with fail
    go_ret
    exact ⟨ret_bool HF.out.symm, rfl⟩
  · have HF := Lib.hid (show d = false by rw [← HD.out]; exact decide_eq_false (by omega))
    go_enter Try.func43, Try.ntmps43
    go_wp2_with fail
    go_ret
    exact ⟨ret_bool (by rw [HF.out]; exact decide_eq_false (by omega)), rfl⟩
  · have HF := Lib.hid (show d = true by rw [← HD.out]; exact decide_eq_true ⟨h, h2⟩)
    go_enter Try.func43, Try.ntmps43
    go_wp2_with fail
    go_ret
    exact ⟨ret_bool HF.out.symm, rfl⟩

set_option maxRecDepth 100000 in
set_option maxHeartbeats 2000000 in
theorem refStep_bad (hV : RefValidOK) (P S K M s l : Int) (A E : Option Addr) (n c ne ce : Nat) (st : List Int) (es : List Ed) (w : World) (ha : Ints w A n st) (hn : n ≤ 17592186044416) (he : EdgesAt w E ne es) (hne : ne ≤ 17592186044416) (hv : autB P S K M st es = false) :
    Calls Try.prog 17 #[.agg #[.int .i64 P, .int .i64 S, .slice A n c, .int .i64 K, .int .i64 M, .slice E ne ce], .int .i64 s, .int .i64 l] w fun e w' => ResS w w' P S K M st es s l e := by
  have HV := Lib.hid (fun W (hW : Below w.heap.size w W) => hV P S K M A E n c ne ce st es W (ha.below hW) hn (he.below hW) hne)
  have HF := Lib.hid hv
  rw [hv] at HV
  clear hv ha he hV
  go_enter Try.func17, Try.ntmps17
  go_wp2_with fail
  refine (HV.out _ ((Below.refl _ _).alloc (Nat.le_refl _) _)).mono ?_
  rintro r w1 ⟨rfl, hb1⟩
  have HB1 := Lib.hid (boxB hb1)
  clear hb1
  go_wp2_with fail
  go_ret2
  exact ⟨_, [], 1, rfl, World.ownsRow_nil _ _ _ _, .inl ⟨HF.out, rfl, rfl⟩, HB1.out⟩

set_option maxRecDepth 100000 in
set_option maxHeartbeats 4000000 in
theorem refStep_range (hV : RefValidOK) (p : Nat) (S K M s l : Int) (A E : Option Addr) (n c ne ce : Nat) (st : List Int) (es : List Ed) (w : World) (ha : Ints w A n st) (hn : n ≤ 17592186044416) (he : EdgesAt w E ne es) (hne : ne ≤ 17592186044416) (hp : p ≤ 6) (hv : autB p S K M st es = true)
    (hr : ¬ (0 ≤ s ∧ s < S ∧ 0 ≤ l ∧ l < 2 ^ p)) :
    Calls Try.prog 17 #[.agg #[.int .i64 p, .int .i64 S, .slice A n c, .int .i64 K, .int .i64 M, .slice E ne ce], .int .i64 s, .int .i64 l] w fun e w' => ResS w w' p S K M st es s l e := by
  have HV := Lib.hid (fun W (hW : Below w.heap.size w W) => hV p S K M A E n c ne ce st es W (ha.below hW) hn (he.below hW) hne)
  have HF := Lib.hid hv
  have HR := Lib.hid hr
  have HLT := Lib.hid (fun w => letter_six l p w hp)
  have HX := Lib.hid (Box6.new w p S A n c K M E ne ce 25)
  rw [hv] at HV
  obtain ⟨lb, hlb, HLB⟩ : ∃ lb, decide (0 ≤ l ∧ l < 2 ^ p) = lb ∧ Hid (decide (0 ≤ l ∧ l < 2 ^ p) = lb) := ⟨_, rfl, rfl⟩
  rw [hlb] at HLT
  have hcase : s < 0 ∨ (0 ≤ s ∧ S ≤ s) ∨ (0 ≤ s ∧ s < S ∧ lb = false) := by
    rcases Int.lt_or_le s 0 with h | h
    · exact .inl h
    rcases Int.lt_or_le s S with h2 | h2
    · refine .inr (.inr ⟨h, h2, ?_⟩)
      rw [← hlb]
      exact decide_eq_false (fun h3 => hr ⟨h, h2, h3.1, h3.2⟩)
    · exact .inr (.inl ⟨h, h2⟩)
  clear hv ha he hr hlb hV
  rcases hcase with h | ⟨h, h2⟩ | ⟨h, h2, rfl⟩
  · go_enter Try.func17, Try.ntmps17
    go_wp2_with fail
    refine (HV.out _ ((Below.refl _ _).alloc (Nat.le_refl _) _)).mono ?_
    rintro r w1 ⟨rfl, hb1⟩
    obtain ⟨hz, p0, p1, p2, p3, p4, p5⟩ := HX.out.below hb1
    have HB1 := Lib.hid (boxB hb1)
    clear hb1
    go_wp2_with fail
    go_ret2
    exact ⟨_, [], 6, rfl, World.ownsRow_nil _ _ _ _, .inr (.inl ⟨HF.out, HR.out, rfl, rfl⟩), HB1.out⟩
  · go_enter Try.func17, Try.ntmps17
    go_wp2_with fail
    refine (HV.out _ ((Below.refl _ _).alloc (Nat.le_refl _) _)).mono ?_
    rintro r w1 ⟨rfl, hb1⟩
    obtain ⟨hz, p0, p1, p2, p3, p4, p5⟩ := HX.out.below hb1
    have HB1 := Lib.hid (boxB hb1)
    clear hb1
    go_wp2_with fail
    go_ret2
    exact ⟨_, [], 6, rfl, World.ownsRow_nil _ _ _ _, .inr (.inl ⟨HF.out, HR.out, rfl, rfl⟩), HB1.out⟩
  · go_enter Try.func17, Try.ntmps17
    go_wp2_with fail
    refine (HV.out _ ((Below.refl _ _).alloc (Nat.le_refl _) _)).mono ?_
    rintro r w1 ⟨rfl, hb1⟩
    obtain ⟨hz, p0, p1, p2, p3, p4, p5⟩ := HX.out.below hb1
    have HB1 := Lib.hid (boxB hb1)
    clear hb1
    go_wp2_with fail
    refine (HLT.out _).mono ?_
    rintro r w2 ⟨rfl, rfl⟩
    go_wp2_with fail
    go_ret2
    exact ⟨_, [], 6, rfl, World.ownsRow_nil _ _ _ _, .inr (.inl ⟨HF.out, HR.out, rfl, rfl⟩), HB1.out⟩

set_option maxRecDepth 100000 in
set_option maxHeartbeats 4000000 in
theorem refStep_good (hV : RefValidOK) (p : Nat) (S K M s l : Int) (A E : Option Addr) (n c ne ce : Nat) (st : List Int) (es : List Ed) (w : World) (ha : Ints w A n st) (hn : n ≤ 17592186044416) (he : EdgesAt w E ne es) (hne : ne ≤ 40000) (hp : p ≤ 6) (hv : autB p S K M st es = true)
    (hr : 0 ≤ s ∧ s < S ∧ 0 ≤ l ∧ l < 2 ^ p) :
    Calls Try.prog 17 #[.agg #[.int .i64 p, .int .i64 S, .slice A n c, .int .i64 K, .int .i64 M, .slice E ne ce], .int .i64 s, .int .i64 l] w fun e w' => ResS w w' p S K M st es s l e := by
  have HV := Lib.hid (fun W (hW : Below w.heap.size w W) => hV p S K M A E n c ne ce st es W (ha.below hW) hn (he.below hW) (by omega))
  have HOUT := Lib.hid (fun W (hW : Below w.heap.size w W) => refOut_any p S K M s l A E n c ne ce es W (he.below hW) hne)
  have HV2 := Lib.hid hv
  have HR := Lib.hid hr
  have HL := Lib.hid he.1
  have HLT := Lib.hid (fun w => letter_six l p w hp)
  have HX := Lib.hid (Box6.new w p S A n c K M E ne ce 25)
  rw [hv] at HV
  rw [show decide (0 ≤ l ∧ l < 2 ^ p) = true from decide_eq_true hr.2.2] at HLT
  obtain ⟨h, h2, _⟩ := hr
  clear hv ha he hV
  go_enter Try.func17, Try.ntmps17
  go_wp2_with fail
  refine (HV.out _ ((Below.refl _ _).alloc (Nat.le_refl _) _)).mono ?_
  rintro r w1 ⟨rfl, hb1⟩
  obtain ⟨hz, p0, p1, p2, p3, p4, p5⟩ := HX.out.below hb1
  have HB1 := Lib.hid (boxB hb1)
  clear hb1
  go_wp2_with fail
  refine (HLT.out _).mono ?_
  rintro r w2 ⟨rfl, rfl⟩
  go_wp2_with fail
  refine (HOUT.out _ HB1.out).mono ?_
  rintro r w3 ⟨v, rfl, hown, hb3⟩
  have HOWN := Lib.hid hown
  have HB3 := Lib.hid (HB1.out.trans (hb3.mono HB1.out.size))
  clear hown hb3
  go_wp2_with fail
  go_ret2
  refine ⟨_, _, 0, rfl, own_le' HOWN.out HB1.out.size, .inr (.inr ⟨HV2.out, HR.out, ?_, rfl⟩), HB3.out⟩
  rw [HL.out]

theorem refStep_any (hV : RefValidOK) (P S K M s l : Int) (A E : Option Addr) (n c ne ce : Nat) (st : List Int) (es : List Ed) (w : World) (ha : Ints w A n st) (hn : n ≤ 17592186044416) (he : EdgesAt w E ne es) (hne : ne ≤ 17592186044416) :
    Calls Try.prog 17 #[.agg #[.int .i64 P, .int .i64 S, .slice A n c, .int .i64 K, .int .i64 M, .slice E ne ce], .int .i64 s, .int .i64 l] w fun e w' => ResS w w' P S K M st es s l e := by
  cases hv : autB P S K M st es
  · exact refStep_bad hV P S K M s l A E n c ne ce st es w ha hn he hne hv
  · obtain ⟨⟨h1, h2, _⟩, _, _, h4, _⟩ := autB_true hv
    obtain ⟨p, rfl⟩ := Int.eq_ofNat_of_zero_le h1
    have h3 := he.1
    by_cases hr : 0 ≤ s ∧ s < S ∧ 0 ≤ l ∧ l < 2 ^ p
    · exact refStep_good hV p S K M s l A E n c ne ce st es w ha hn he (by omega) (by omega) hv hr
    · exact refStep_range hV p S K M s l A E n c ne ce st es w ha hn he hne (by omega) hv hr

end Go.Proofs.Ytfblnadmbfhjiaa.Wd

namespace Go.Proofs.Ytfblnadmbfhjiaa.Wd
open Go.RowKit
set_option linter.unusedVariables false

/-- All bits are words of 64 bits. -/
def BitsOK (es : List Ed) : Prop := ∀ i, i < es.length → -9223372036854775808 ≤ (es.getD i ed0).b ∧ (es.getD i ed0).b < 9223372036854775808
theorem edge_ok {P M : Nat} {S : Int} {es : List Ed} (h : edgesB P S M es = true) {i : Nat} (hi : i < es.length) : edB P S M (es.getD i ed0) = true := by
  rw [List.getD_eq_getElem?_getD, List.getElem?_eq_getElem hi]
  exact List.all_eq_true.1 h es[i] (List.getElem_mem hi)
/-- The two ways to say that no two edges of a state have a letter in common. -/
theorem apart_clash {p S M : Nat} {es : List Ed} (hp : p ≤ 6) (h : edgesB p S M es = true) (hb : BitsOK es) : NoHit es es.length ↔ clashB p es es.length = false := by
  have hfr := fun i hi => (from_state h i hi).imp fun f hf => hf.1
  rw [← Bool.not_eq_true, clashB_iff p es es.length hfr]
  constructor
  · rintro hn ⟨i, j, h1, h2, h3, h4⟩
    exact hn i j h1 h2 h3 ((meet_iff hp (edge_ok h (by omega)) (edge_ok h h2) (hb i (by omega)) (hb j h2)).1 h4)
  · intro hn i j h1 h2 h3 h4
    exact hn ⟨i, j, h1, h2, h3, (meet_iff hp (edge_ok h (by omega)) (edge_ok h h2) (hb i (by omega)) (hb j h2)).2 h4⟩

set_option maxRecDepth 100000 in
set_option maxHeartbeats 2000000 in
theorem refOne_any (p S : Nat) (K M : Int) (A E : Option Addr) (n c ne ce : Nat) (st : List Int) (es : List Ed) (w : World) (hst : st.length = n) (hE : EdgesAt w E ne es) (hne : ne ≤ 40000) (hp : p ≤ 6) (hS : S ≤ 3000) (hes : edgesB p S M.toNat es = true) (hb : BitsOK es) :
    Calls Try.prog 29 #[.agg #[.int .i64 p, .int .i64 S, .slice A n c, .int .i64 K, .int .i64 M, .slice E ne ce]] w fun e w' => e = .returned (.bool (decide (st.length = 1) && !clashB p es es.length)) ∧ Below w.heap.size w w' := by
  have hL := hE.1
  have HAP := Lib.hid (fun W (hW : Below w.heap.size w W) => refApart_any p S K M A E n c ne ce es W (hE.below hW) hS hne (fun j hj => from_state hes j (by rw [hL]; exact hj)))
  have HCL := Lib.hid (apart_clash hp hes hb)
  rw [hL] at HCL
  rw [hst, hL]
  clear hE hes hb hL hst
  obtain ⟨cl, hcl, HC⟩ : ∃ cl, clashB p es ne = cl ∧ Hid (clashB p es ne = cl) := ⟨_, rfl, rfl⟩
  rw [hcl] at HCL ⊢
  clear hcl
  by_cases h1 : n = 1
  · subst h1
    go_enter Try.func29, Try.ntmps29
    go_wp2_with fail
    refine (HAP.out _ ((Below.refl _ _).alloc (Nat.le_refl _) _)).mono ?_
    rintro e w1 ⟨r, rfl, hr, hb1⟩
    have HB1 := Lib.hid (boxB hb1)
    obtain rfl : r = !cl := by
      have h2 : (r = true) ↔ cl = false := hr.trans HCL.out
      cases r <;> cases cl <;> simp_all
    clear hr hb1 HCL
    go_wp2_with fail
    go_ret
    exact ⟨ret_bool (by simp), HB1.out⟩
  · have h2 : ((n : Int) == 1) = false := by rw [beq_eq_false_iff_ne]; omega
    have h3 : ¬ (n : Int) = 1 := by omega
    have h4 : decide ((n : Int) = 1) = false := decide_eq_false h3
    go_enter Try.func29, Try.ntmps29
    go_wp2_with fail
    go_ret
    exact ⟨ret_bool (by rw [decide_eq_false h1]; rfl), (Below.refl _ _).alloc (Nat.le_refl _) _⟩

set_option maxRecDepth 100000 in
set_option maxHeartbeats 2000000 in
theorem refDet_any (hV : RefValidOK) (P S K M : Int) (A E : Option Addr) (n c ne ce : Nat) (st : List Int) (es : List Ed) (w : World) (ha : Ints w A n st) (hn : n ≤ 17592186044416) (he : EdgesAt w E ne es) (hne : ne ≤ 17592186044416) (hb : BitsOK es) :
    Calls Try.prog 11 #[.agg #[.int .i64 P, .int .i64 S, .slice A n c, .int .i64 K, .int .i64 M, .slice E ne ce]] w fun e w' => ResB (DetR P S K M st es) w w' e := by
  have HV := Lib.hid (fun W (hW : Below w.heap.size w W) => hV P S K M A E n c ne ce st es W (ha.below hW) hn (he.below hW) hne)
  cases hv : autB P S K M st es
  · have HF := Lib.hid hv
    rw [hv] at HV
    clear hv ha he hV hb
    go_enter Try.func11, Try.ntmps11
    go_wp2_with fail
    refine (HV.out _ ((Below.refl _ _).alloc (Nat.le_refl _) _)).mono ?_
    rintro r w1 ⟨rfl, hb1⟩
    have HB1 := Lib.hid (boxB hb1)
    clear hb1
    go_wp2_with fail
    go_ret2
    exact ⟨_, _, rfl, .inl ⟨HF.out, rfl, rfl⟩, HB1.out⟩
  · obtain ⟨⟨h1, h2, h5, h6, _⟩, _, _, h4, h7⟩ := autB_true hv
    obtain ⟨p, rfl⟩ := Int.eq_ofNat_of_zero_le h1
    obtain ⟨s, rfl⟩ := Int.eq_ofNat_of_zero_le h5
    have hL := he.1
    have HO := Lib.hid (fun W (hW : Below w.heap.size w W) => refOne_any p s K M A E n c ne ce st es W ha.1 (he.below hW) (by omega) (by omega) (by omega) h7 hb)
    have HX := Lib.hid (Box6.new w p s A n c K M E ne ce 25)
    have HV2 := Lib.hid hv
    have HR := Lib.hid (show DetR p s K M st es (decide (st.length = 1) && !clashB p es es.length) 0 from .inr ⟨hv, rfl, rfl⟩)
    rw [hv] at HV
    generalize (decide (st.length = 1) && !clashB p es es.length) = rb at *
    clear hv ha he hV hb h1 h2 h4 h5 h6 h7 hL
    go_enter Try.func11, Try.ntmps11
    go_wp2_with fail
    refine (HV.out _ ((Below.refl _ _).alloc (Nat.le_refl _) _)).mono ?_
    rintro r w1 ⟨rfl, hb1⟩
    obtain ⟨hz, p0, p1, p2, p3, p4, p5⟩ := HX.out.below hb1
    have HB1 := Lib.hid (boxB hb1)
    clear hb1
    go_wp2_with fail
    refine (HO.out _ HB1.out).mono ?_
    rintro r w2 ⟨rfl, hb2⟩
    have HB2 := Lib.hid (HB1.out.trans (hb2.mono HB1.out.size))
    clear hb2
    go_wp2_with fail
    go_ret2
    exact ⟨_, _, rfl, HR, HB2.out⟩

end Go.Proofs.Ytfblnadmbfhjiaa.Wd

namespace Go.Proofs.Ytfblnadmbfhjiaa.Wd
open Go.RowKit
set_option linter.unusedVariables false

set_option maxRecDepth 100000 in
set_option maxHeartbeats 2000000 in
theorem refCom_any (hV : RefValidOK) (P S K M : Int) (A E : Option Addr) (n c ne ce : Nat) (st : List Int) (es : List Ed) (w : World) (ha : Ints w A n st) (hn : n ≤ 17592186044416) (he : EdgesAt w E ne es) (hne : ne ≤ 17592186044416) :
    Calls Try.prog 13 #[.agg #[.int .i64 P, .int .i64 S, .slice A n c, .int .i64 K, .int .i64 M, .slice E ne ce]] w fun e w' => ResB (ComR P S K M st es) w w' e := by
  have HV := Lib.hid (fun W (hW : Below w.heap.size w W) => hV P S K M A E n c ne ce st es W (ha.below hW) hn (he.below hW) hne)
  cases hv : autB P S K M st es
  · have HF := Lib.hid hv
    rw [hv] at HV
    clear hv ha he hV
    go_enter Try.func13, Try.ntmps13
    go_wp2_with fail
    refine (HV.out _ ((Below.refl _ _).alloc (Nat.le_refl _) _)).mono ?_
    rintro r w1 ⟨rfl, hb1⟩
    have HB1 := Lib.hid (boxB hb1)
    clear hb1
    go_wp2_with fail
    go_ret2
    exact ⟨_, _, rfl, .inl ⟨HF.out, rfl, rfl⟩, HB1.out⟩
  · obtain ⟨⟨h1, h2, h5, h6, _⟩, _, _, h4, h7⟩ := autB_true hv
    obtain ⟨p, rfl⟩ := Int.eq_ofNat_of_zero_le h1
    obtain ⟨s, rfl⟩ := Int.eq_ofNat_of_zero_le h5
    have hL := he.1
    have HO := Lib.hid (fun W (hW : Below w.heap.size w W) => refWhole_any p s K M A E n c ne ce es W (he.below hW) (by omega) (by omega) (by omega) (fun j hj => (from_state h7 j (by rw [hL]; exact hj))))
    have HX := Lib.hid (Box6.new w p s A n c K M E ne ce 25)
    have HR := Lib.hid (show ComR p s K M st es (fullB p es s) 0 from .inr ⟨hv, rfl, rfl⟩)
    rw [hv] at HV
    generalize fullB p es s = rb at *
    clear hv ha he hV h1 h2 h4 h5 h6 h7 hL
    go_enter Try.func13, Try.ntmps13
    go_wp2_with fail
    refine (HV.out _ ((Below.refl _ _).alloc (Nat.le_refl _) _)).mono ?_
    rintro r w1 ⟨rfl, hb1⟩
    obtain ⟨hz, p0, p1, p2, p3, p4, p5⟩ := HX.out.below hb1
    have HB1 := Lib.hid (boxB hb1)
    clear hb1
    go_wp2_with fail
    refine (HO.out _ HB1.out).mono ?_
    rintro r w2 ⟨rfl, hb2⟩
    have HB2 := Lib.hid (HB1.out.trans (hb2.mono HB1.out.size))
    clear hb2
    go_wp2_with fail
    go_ret2
    exact ⟨_, _, rfl, HR.out, HB2.out⟩

end Go.Proofs.Ytfblnadmbfhjiaa.Wd

namespace Go.Proofs.Ytfblnadmbfhjiaa.Wd
open Go.RowKit
set_option linter.unusedVariables false

def wayA (P M : Nat) (S : Int) (x : Ed) : Prop := x.f < 0 ∨ (0 ≤ x.f ∧ S ≤ x.f)
def wayB (P M : Nat) (S : Int) (x : Ed) : Prop := (0 ≤ x.f ∧ x.f < S ∧ x.t < 0) ∨ (0 ≤ x.f ∧ x.f < S ∧ 0 ≤ x.t ∧ S ≤ x.t)
def wayC (P M : Nat) (S : Int) (x : Ed) : Prop := (0 ≤ x.f ∧ x.f < S ∧ 0 ≤ x.t ∧ x.t < S ∧ x.c < 0) ∨ (0 ≤ x.f ∧ x.f < S ∧ 0 ≤ x.t ∧ x.t < S ∧ 0 ≤ x.c ∧ (2 : Int) ^ P ≤ x.c)
def wayD (P M : Nat) (S : Int) (x : Ed) : Prop := 0 ≤ x.f ∧ x.f < S ∧ 0 ≤ x.t ∧ x.t < S ∧ 0 ≤ x.c ∧ x.c < (2 : Int) ^ P ∧ ¬ bits .andNot .i64 x.b x.c = 0
def wayE (P M : Nat) (S : Int) (x : Ed) : Prop := (0 ≤ x.f ∧ x.f < S ∧ 0 ≤ x.t ∧ x.t < S ∧ 0 ≤ x.c ∧ x.c < (2 : Int) ^ P ∧ bits .andNot .i64 x.b x.c = 0 ∧ x.m < 0) ∨ (0 ≤ x.f ∧ x.f < S ∧ 0 ≤ x.t ∧ x.t < S ∧ 0 ≤ x.c ∧ x.c < (2 : Int) ^ P ∧ bits .andNot .i64 x.b x.c = 0 ∧ 0 ≤ x.m ∧ (2 : Int) ^ M ≤ x.m)

/-- The first edge that is wrong, if there is one, is wrong in this way. -/
def Wrong (P M : Nat) (S : Int) (es : List Ed) (ne : Nat) (Wy : Nat → Nat → Int → Ed → Prop) : Prop := ∀ t, t < ne → edgesB P S M (es.take t) = true → edB P S M (es.getD t ed0) = true ∨ Wy P M S (es.getD t ed0)

theorem some_way (P M : Nat) (S : Int) (x : Ed) : edB P S M x = true ∨ wayA P M S x ∨ wayB P M S x ∨ wayC P M S x ∨ wayD P M S x ∨ wayE P M S x := by
  obtain ⟨ef, et, ec, eb, em⟩ := x
  unfold edB wayA wayB wayC wayD wayE
  simp only
  rcases ten_ways S (2 ^ P) (2 ^ M) ef et ec (bits .andNot .i64 eb ec) em with h | ⟨h, h2⟩ | ⟨h, h2, h3⟩ | ⟨h, h2, h3, h4⟩ | ⟨h, h2, h3, h4, h5⟩ | ⟨h, h2, h3, h4, h5, h6⟩ | ⟨h, h2, h3, h4, h5, h6, h7⟩ | ⟨h, h2, h3, h4, h5, h6, h7, h8⟩ | ⟨h, h2, h3, h4, h5, h6, h7, h8, h9⟩ | ⟨h, h2, h3, h4, h5, h6, h7, h8, h9⟩
  · exact .inr (.inl (.inl h))
  · exact .inr (.inl (.inr ⟨h, h2⟩))
  · exact .inr (.inr (.inl (.inl ⟨h, h2, h3⟩)))
  · exact .inr (.inr (.inl (.inr ⟨h, h2, h3, h4⟩)))
  · exact .inr (.inr (.inr (.inl (.inl ⟨h, h2, h3, h4, h5⟩))))
  · exact .inr (.inr (.inr (.inl (.inr ⟨h, h2, h3, h4, h5, h6⟩))))
  · exact .inr (.inr (.inr (.inr (.inl ⟨h, h2, h3, h4, h5, h6, h7⟩))))
  · exact .inr (.inr (.inr (.inr (.inr (.inl ⟨h, h2, h3, h4, h5, h6, h7, h8⟩)))))
  · exact .inr (.inr (.inr (.inr (.inr (.inr ⟨h, h2, h3, h4, h5, h6, h7, h8, h9⟩)))))
  · exact .inl (decide_eq_true ⟨⟨h, h2⟩, ⟨h3, h4⟩, ⟨h5, h6⟩, h7, h8, h9⟩)

theorem take_bad {P M : Nat} {S : Int} {es : List Ed} {k t : Nat} (hk : k < es.length) (h : edB P S M (es.getD k ed0) = false) (ht : k < t) : edgesB P S M (es.take t) = false := by
  rw [← Bool.not_eq_true]
  intro hx
  have h1 := List.all_eq_true.1 hx (es.getD k ed0) (by
    rw [List.getD_eq_getElem?_getD, List.getElem?_eq_getElem hk]
    exact List.mem_of_getElem (i := k) (h := by simp; omega) (by simp))
  rw [h] at h1
  cases h1

theorem first_bad (P M : Nat) (S : Int) (es : List Ed) : ∀ n, n ≤ es.length → edgesB P S M (es.take n) = true ∨ ∃ k, k < n ∧ edgesB P S M (es.take k) = true ∧ edB P S M (es.getD k ed0) = false := by
  intro n
  induction n with
  | zero => intro _; exact .inl (by simp [edgesB])
  | succ n ih =>
    intro hn
    rcases ih (by omega) with h | ⟨k, hk, h1, h2⟩
    · cases hb : edB P S M (es.getD n ed0)
      · exact .inr ⟨n, by omega, h, hb⟩
      · exact .inl (edgesB_step (by omega) h hb)
    · exact .inr ⟨k, by omega, h1, h2⟩

theorem wrong_ways (P M : Nat) (S : Int) (es : List Ed) (ne : Nat) (hl : es.length = ne) : Wrong P M S es ne wayA ∨ Wrong P M S es ne wayB ∨ Wrong P M S es ne wayC ∨ Wrong P M S es ne wayD ∨ Wrong P M S es ne wayE := by
  rcases first_bad P M S es ne (by omega) with h | ⟨k, hk, h1, h2⟩
  · refine .inl fun t ht _ => .inl ?_
    rw [← Bool.not_eq_false]
    intro hx
    rw [take_bad (by omega) hx ht] at h
    cases h
  · have key : ∀ Wy : Nat → Nat → Int → Ed → Prop, Wy P M S (es.getD k ed0) → Wrong P M S es ne Wy := by
      intro Wy hw t ht htk
      rcases Nat.lt_trichotomy t k with h | h | h
      · left
        rw [← Bool.not_eq_false]
        intro hx
        rw [take_bad (by omega) hx h] at h1
        cases h1
      · subst h; exact .inr hw
      · rw [take_bad (by omega) h2 h] at htk; cases htk
    rcases some_way P M S (es.getD k ed0) with h | h | h | h | h | h
    · rw [h] at h2; cases h2
    · exact .inl (key _ h)
    · exact .inr (.inl (key _ h))
    · exact .inr (.inr (.inl (key _ h)))
    · exact .inr (.inr (.inr (.inl (key _ h))))
    · exact .inr (.inr (.inr (.inr (key _ h))))

end Go.Proofs.Ytfblnadmbfhjiaa.Wd
