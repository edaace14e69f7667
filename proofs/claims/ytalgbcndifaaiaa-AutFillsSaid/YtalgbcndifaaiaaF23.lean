/-
  outgoing of package aut: for each state the indices of its edges, for all automata.
  Rows of edges that a walk owns: for apart of the reference. No function is walked here.
  The table of Whole as data: which letters the first edges have, bit by bit. No program is looked at here.
  Cubes of letters as data, and as rows that a walk owns; append of structs.
  slices.Clone at []api.Edge.
  slices.Clone at []int, and rotated of package word.
-/
import Derived.Test.YtalgbcndifaaiaaF22
import Derived.Test.YtalgbcndifaaiaaF21
import Derived.Test.YtalgbcndifaaiaaWdLeaf
import Derived.Deep.RegionHeld3
namespace Go.Proofs.Ytalgbcndifaaiaa.Wd
open Go.RowKit
set_option linter.unusedVariables false
set_option linter.unusedSimpArgs false

/-- The two lie in different blocks (or the first has none). -/
def Apt (v v' : Value) : Prop := v.ownBlock = none ∨ v.ownBlock ≠ v'.ownBlock
theorem Apt.symm {v v' : Value} (h : Apt v v') : Apt v' v := by
  rcases h with h | h
  · by_cases h' : v'.ownBlock = none
    · exact .inl h'
    · exact .inr (by rw [h]; exact h')
  · exact .inr (Ne.symm h)
theorem apt_old {w : World} {B e k n : Nat} {v : Value} {xs : List Value} (h : w.ownsRow B e k v n xs) {b : Nat} (hb : v.ownBlock = some b) : B ≤ b ∧ b < w.heap.size := by
  rcases h.2 with ⟨rfl, _⟩ | ⟨g, cap, cur, rfl, h1, hgg, _⟩
  · cases hb
  · cases hb
    exact ⟨h1, (Array.getElem?_eq_some_iff.1 hgg).1⟩
theorem apt_grow {w w2 : World} {B e k n' : Nat} {v v' v2 : Value} {xs' : List Value} (h' : w.ownsRow B e k v' n' xs') (hne : Apt v' v) (hg : w.grownBy w2 v.ownBlock) (h2 : v2.ownBlock = v.ownBlock ∨ v2.ownBlock = some w.heap.size) :
    w2.ownsRow B e k v' n' xs' ∧ Apt v' v2 := by
  refine ⟨h'.kept hg hne, ?_⟩
  rcases h2 with h2 | h2
  · show v'.ownBlock = none ∨ v'.ownBlock ≠ v2.ownBlock
    rw [h2]
    exact hne
  · by_cases h0 : v'.ownBlock = none
    · exact .inl h0
    · refine .inr fun h3 => ?_
      have := (apt_old h' (h3.trans h2)).2
      omega

/-- S rows of ints, own to the walk, each in a block of its own. -/
structure Rows (B S : Nat) (w : World) (V : Nat → Value) (L : Nat → List Int) : Prop where
  own : ∀ s, s < S → w.ownsRow B 3 1 (V s) (L s).length ((L s).map (Value.int .i64))
  apt : ∀ s s', s < S → s' < S → s ≠ s' → Apt (V s) (V s')
theorem Rows.start (B S : Nat) (w : World) : Rows B S w (fun _ => .slice none 0 0) (fun _ => []) := ⟨fun s _ => World.ownsRow_nil _ _ _ _, fun _ _ _ _ _ => .inl rfl⟩
theorem Rows.below {B S : Nat} {w w' : World} {V : Nat → Value} {L : Nat → List Int} (h : Rows B S w V L) (hb : Below w.heap.size w w') : Rows B S w' V L := ⟨fun s hs => own_keep (h.own s hs) hb, h.apt⟩
theorem Rows.put {B S : Nat} {w : World} {V : Nat → Value} {L : Nat → List Int} (h : Rows B S w V L) {a : Addr} (ha : a.block < B) (v : Value) : Rows B S (w.setCell a v) V L := ⟨fun s hs => ownsRow_setCell_below (h.own s hs) ha v, h.apt⟩
theorem Rows.lists {B S : Nat} {w : World} {V : Nat → Value} {L L' : Nat → List Int} (h : Rows B S w V L) (e : ∀ s, s < S → L s = L' s) : Rows B S w V L' := ⟨fun s hs => by rw [← e s hs]; exact h.own s hs, h.apt⟩
def putV (V : Nat → Value) (f : Nat) (v : Value) (j : Nat) : Value := if j = f then v else V j
def putL (L : Nat → List Int) (f : Nat) (l : List Int) (j : Nat) : List Int := if j = f then l else L j
theorem Rows.grow {B S f : Nat} {w w2 : World} {V : Nat → Value} {L : Nat → List Int} {v v' : Value} {l : List Int} {x : Int} (h : Rows B S w V L) (hf : f < S) (hl : V f = v ∧ L f = l)
    (hown : w2.ownsRow B 3 1 v' (l.length + 1) (l.map (Value.int .i64) ++ [x].map (Value.int .i64))) (hg : w.grownBy w2 v.ownBlock) (hat : v'.ownBlock = v.ownBlock ∨ v'.ownBlock = some w.heap.size) :
    Rows B S w2 (putV V f v') (putL L f (l ++ [x])) := by
  obtain ⟨rfl, rfl⟩ := hl
  refine ⟨fun s hs => ?_, fun s s' hs hs' hne => ?_⟩
  · unfold putV putL
    by_cases e : s = f
    · rw [if_pos e, if_pos e, List.length_append, List.map_append]; exact hown
    · rw [if_neg e, if_neg e]; exact (apt_grow (h.own s hs) (h.apt s f hs hf e) hg hat).1
  · unfold putV
    by_cases e : s = f
    · rw [if_pos e, if_neg (fun e' => hne (e.trans e'.symm))]
      exact (apt_grow (h.own s' hs') (h.apt s' f hs' hf (fun e' => hne (e.trans e'.symm))) hg hat).2.symm
    · rw [if_neg e]
      by_cases e' : s' = f
      · rw [if_pos e']; exact (apt_grow (h.own s hs) (h.apt s f hs hf e) hg hat).2
      · rw [if_neg e']; exact h.apt s s' hs hs' hne

/-- Of the first k edges those from s. -/
def fromL (es : List Ed) (s k : Nat) : List Int := ((List.range k).filter fun j => decide ((es.getD j ed0).f = (s : Int))).map fun (j : Nat) => (j : Int)
theorem fromL_yes {es : List Ed} {s k : Nat} (h : (es.getD k ed0).f = (s : Int)) : fromL es s (k + 1) = fromL es s k ++ [(k : Int)] := by
  unfold fromL
  rw [List.range_succ, List.filter_append, List.map_append]
  simp only [List.filter_cons, List.filter_nil, h, decide_true, if_true, List.map_cons, List.map_nil]
theorem fromL_no {es : List Ed} {s k : Nat} (h : ¬ (es.getD k ed0).f = (s : Int)) : fromL es s (k + 1) = fromL es s k := by
  unfold fromL
  rw [List.range_succ, List.filter_append, List.map_append]
  simp only [List.filter_cons, List.filter_nil, decide_eq_false h, Bool.false_eq_true, if_false, List.map_nil, List.append_nil]
theorem fromL_len (es : List Ed) (s k : Nat) : (fromL es s k).length ≤ k := by
  unfold fromL
  rw [List.length_map]
  exact Nat.le_trans (List.length_filter_le _ _) (by simp)

theorem row_info : (Try.prog.info? 22).map (fun i => (i.zero, i.size, i.bytes)) = some (some (.slice none 0 0), 1, 24) := by kernel_rfl

set_option maxRecDepth 100000 in
set_option maxHeartbeats 8000000 in
theorem outgoing_any (P : Int) (S : Nat) (K M : Int) (A E : Option Addr) (n c ne ce : Nat) (es : List Ed) (w : World) (hE : EdgesAt w E ne es) (hS : S ≤ 3000) (hne : ne ≤ 40000)
    (hfr : ∀ j, j < ne → ∃ f : Nat, (es.getD j ed0).f = (f : Int) ∧ f < S) :
    Calls Try.prog 53 #[.agg #[.int .i64 P, .int .i64 S, .slice A n c, .int .i64 K, .int .i64 M, .slice E ne ce]] w fun r w' =>
      ∃ V, r = .returned (.slice (some ⟨w.heap.size + 1, 0, none⟩) S S) ∧ w'.rowIs (w.heap.size + 1) 22 S V ∧ Rows (w.heap.size + 2) S w' V (fun s => fromL es s ne) ∧ Below w.heap.size w w' := by
  obtain ⟨i0, hi, hi0, hi1, hi2⟩ := info_parts int_row
  have hmk := run_make_row' (P := Try.prog) 103 22 (.slice none 0 0) 24 Try.underlying103 row_info rfl .i64 .i64 S (by omega) (by omega)
  have HA := Lib.hid hE
  have HFR := Lib.hid hfr
  clear hE hfr
  go_enter Try.func53, Try.ntmps53
  go_wp2_with fail
  obtain ⟨W0, hW0⟩ : ∃ W0, w.alloc (.cells #[.int .i64 P, .int .i64 S, .slice A n c, .int .i64 K, .int .i64 M, .slice E ne ce] 25) = W0 := ⟨_, rfl⟩
  have hz : W0.heap.size = w.heap.size + 1 := by rw [← hW0]; simp
  have HB0 := Lib.hid (show Below w.heap.size w W0 by rw [← hW0]; exact (Below.refl _ _).alloc (Nat.le_refl _) _)
  rw [hW0]
  clear hW0
  obtain ⟨W1, hW1⟩ : ∃ W1, W0.alloc (.cells (madeCells #[.slice none 0 0] S) 22) = W1 := ⟨_, rfl⟩
  have HR0 := Lib.hid (show W1.rowIs (w.heap.size + 1) 22 S (fun _ => .slice none 0 0) by rw [← hW1, ← hz]; exact World.rowIs_made W0 _ S _)
  have HB1 := Lib.hid (show Below (w.heap.size + 1) W0 W1 by rw [← hW1, ← hz]; exact (Below.refl _ _).alloc (Nat.le_refl _) _)
  have hz1 : W1.heap.size = w.heap.size + 2 := by rw [← hW1]; simp [hz]
  rw [hW1]
  clear hW1
  go_loopg [12] ne (fun g i wx => ∃ t : Nat, t + g = ne ∧ i = .int .i64 t ∧ Hid (∃ V, wx.rowIs (w.heap.size + 1) 22 S V ∧ Rows (w.heap.size + 2) S wx V (fun s => fromL es s t)) ∧ Hid (Below (w.heap.size + 1) W0 wx) ∧ Hid (w.heap.size + 2 ≤ wx.heap.size))
  case atStart => exact ⟨0, by omega, rfl, ⟨_, HR0.out, Rows.start _ _ _⟩, HB1.out, (by show _ ≤ _; omega)⟩
  case round =>
    obtain ⟨t, htg, rfl, HR, HBx, HZ⟩ := hrel
    have hti : (0 : Int) ≤ (t : Int) := by omega
    have HBw := Lib.hid (HB0.out.trans (HBx.out.mono (by omega)))
    obtain ⟨V, hrow, hrs⟩ := HR.out
    have HROW := Lib.hid hrow
    have HRS := Lib.hid hrs
    have hzz := HZ.out
    clear hrow hrs HR
    cases gk with
    | zero =>
      obtain rfl : ne = t := by omega
      go_wp2_with fail
      go_ret
      first | exact ⟨rfl, V, HROW.out, HRS.out, HBw.out⟩ | exact ⟨V, rfl, HROW.out, HRS.out, HBw.out⟩
    | succ q =>
      have ht1 : t < ne := by omega
      have hti2 : (t : Int) < (ne : Int) := by omega
      obtain ⟨b, off, rfl, hlt, hcell⟩ := (HA.out.below HBw.out).2 (by omega)
      obtain ⟨c0, c1, c2, c3, c4⟩ := hcell t ht1
      obtain ⟨f, hf, hfS⟩ := HFR.out t ht1
      have HYES := Lib.hid (fromL_yes hf)
      have HNO := Lib.hid (fun s (hs : ¬ s = f) => fromL_no (es := es) (s := s) (k := t) (by rw [hf]; omega))
      have HLN := Lib.hid (fromL_len es f t)
      generalize es.getD t ed0 = x at *
      obtain ⟨ef, et, ec, eb, em⟩ := x
      simp only at c0 c1 c2 c3 c4 hf
      subst hf
      clear hcell
      have hf0 : (0 : Int) ≤ (f : Int) := by omega
      have hf1 : (f : Int) < (S : Int) := by omega
      obtain ⟨v, hvf, HVF⟩ : ∃ v, V f = v ∧ Hid (V f = v) := ⟨_, rfl, rfl⟩
      have hv : wr.cell? ⟨w.heap.size + 1, f, none⟩ = some v := by rw [← hvf]; exact HROW.out.cell hfS
      have hfz := HROW.out.frozen f
      have HO := Lib.hid (show wr.ownsRow (w.heap.size + 2) 3 1 v (fromL es f t).length ((fromL es f t).map (Value.int .i64)) by rw [← hvf]; exact HRS.out.own f hfS)

      have hz0 : w.heap.size + 1 < wr.heap.size := by omega
      clear hvf
      go_wp2_with fail
      have HBA := Lib.hid (show Below wr.heap.size wr ((wr.alloc (.cells #[.int .i64 f, .int .i64 et, .int .i64 ec, .int .i64 eb, .int .i64 em] 37)).alloc (.cells #[.int .i64 (t : Int)] 3)).drew from (((Below.refl _ _).alloc (Nat.le_refl _) _).alloc (by simp) _).drew)
      refine wp_region_until_drew (st := [12]) (S := fun V => V.cell? ⟨wr.heap.size, 0, none⟩ = some (.int .i64 f) ∧ V.cell? ⟨w.heap.size + 1, f, none⟩ = some v) (by kernel_rfl) ⟨by show World.cell? (wr.alloc _) _ = _; rw [box_last]; rfl, by show World.cell? (wr.alloc _) _ = _; rw [Below.cell ((Below.refl wr.heap.size wr).alloc (Nat.le_refl _) _) hz0]; exact hv⟩ (fun hHeld => ?_)
      refine wpAnyU_pure (i := 0) (v := ?vo0) rfl (by kernel_rfl) (by kernel_rfl) (by kernel_rfl) (by kernel_rfl) (fun _ _ _ h => h) (Or.inl ⟨by rfl, fun V _ => ?hyo0⟩) (fun _ => hHeld) ?resto0
      case hyo0 => go_simp; try with_reducible rfl
      try simp only [Act.put, List.getElem_toArray, List.getElem_cons_zero, List.getElem_cons_succ, List.setIfInBounds_toArray, List.set_cons_zero, List.set_cons_succ]
      refine wpAnyU_pure (i := 1) (v := ?vo1) rfl (by kernel_rfl) (by kernel_rfl) (by kernel_rfl) (by kernel_rfl) (fun _ _ _ h => h) (Or.inl ⟨by rfl, fun V _ => ?hyo1⟩) (fun _ => hHeld) ?resto1
      case hyo1 => go_simp; try with_reducible rfl
      try simp only [Act.put, List.getElem_toArray, List.getElem_cons_zero, List.getElem_cons_succ, List.setIfInBounds_toArray, List.set_cons_zero, List.set_cons_succ]
      refine wpAnyU_load (i := 2) (v := ?vo2) rfl (by kernel_rfl) (by kernel_rfl) (by kernel_rfl) (by kernel_rfl) (fun _ _ _ h => h) (Or.inl ⟨by rfl, fun V hSw => ?hyo2⟩) hHeld ?resto2
      case hyo2 => (obtain ⟨hs1, hs2⟩ := hSw); go_simp; try with_reducible rfl
      try simp only [Act.put, List.getElem_toArray, List.getElem_cons_zero, List.getElem_cons_succ, List.setIfInBounds_toArray, List.set_cons_zero, List.set_cons_succ]
      refine wpAnyU_pure (i := 3) (v := ?vo3) rfl (by kernel_rfl) (by kernel_rfl) (by kernel_rfl) (by kernel_rfl) (fun _ _ _ h => h) (Or.inl ⟨by rfl, fun V _ => ?hyo3⟩) (fun _ => hHeld) ?resto3
      case hyo3 => go_simp; try with_reducible rfl
      try simp only [Act.put, List.getElem_toArray, List.getElem_cons_zero, List.getElem_cons_succ, List.setIfInBounds_toArray, List.set_cons_zero, List.set_cons_succ]
      refine wpAnyU_pure (i := 4) (v := ?vo4) rfl (by kernel_rfl) (by kernel_rfl) (by kernel_rfl) (by kernel_rfl) (fun _ _ _ h => h) (Or.inl ⟨by rfl, fun V _ => ?hyo4⟩) (fun _ => hHeld) ?resto4
      case hyo4 => go_simp; try with_reducible rfl
      try simp only [Act.put, List.getElem_toArray, List.getElem_cons_zero, List.getElem_cons_succ, List.setIfInBounds_toArray, List.set_cons_zero, List.set_cons_succ]
      refine wpAnyU_load (i := 5) (v := ?vo5) rfl (by kernel_rfl) (by kernel_rfl) (by kernel_rfl) (by kernel_rfl) (fun _ _ _ h => h) (Or.inl ⟨by rfl, fun V hSw => ?hyo5⟩) hHeld ?resto5
      case hyo5 => (obtain ⟨hs1, hs2⟩ := hSw); go_simp; try with_reducible rfl
      try simp only [Act.put, List.getElem_toArray, List.getElem_cons_zero, List.getElem_cons_succ, List.setIfInBounds_toArray, List.set_cons_zero, List.set_cons_succ]
      refine wpAnyU_pure (i := 6) (v := ?vo6) rfl (by kernel_rfl) (by kernel_rfl) (by kernel_rfl) (by kernel_rfl) (fun _ _ _ h => h) (Or.inl ⟨by rfl, fun V _ => ?hyo6⟩) (fun _ => hHeld) ?resto6
      case hyo6 => go_simp; try with_reducible rfl
      try simp only [Act.put, List.getElem_toArray, List.getElem_cons_zero, List.getElem_cons_succ, List.setIfInBounds_toArray, List.set_cons_zero, List.set_cons_succ]
      refine wpAnyU_load (i := 7) (v := ?vo7) rfl (by kernel_rfl) (by kernel_rfl) (by kernel_rfl) (by kernel_rfl) (fun _ _ _ h => h) (Or.inl ⟨by rfl, fun V hSw => ?hyo7⟩) hHeld ?resto7
      case hyo7 => (obtain ⟨hs1, hs2⟩ := hSw); go_simp; try with_reducible rfl
      try simp only [Act.put, List.getElem_toArray, List.getElem_cons_zero, List.getElem_cons_succ, List.setIfInBounds_toArray, List.set_cons_zero, List.set_cons_succ]
      refine wpAnyU_pure (i := 8) (v := ?vo8) rfl (by kernel_rfl) (by kernel_rfl) (by kernel_rfl) (by kernel_rfl) (fun _ _ _ h => h) (Or.inl ⟨by rfl, fun V _ => ?hyo8⟩) (fun _ => hHeld) ?resto8
      case hyo8 => go_simp; try with_reducible rfl
      try simp only [Act.put, List.getElem_toArray, List.getElem_cons_zero, List.getElem_cons_succ, List.setIfInBounds_toArray, List.set_cons_zero, List.set_cons_succ]
      refine wpAnyU_ready (rs := [9]) (by kernel_rfl) (by simp) (AllU.cons (i := 9) rfl (fun K hK => ?_) AllU.nil)
      simp only [List.getElem_toArray, List.getElem_cons_zero, List.getElem_cons_succ]
      go_simp
      refine hK.out _ _ (fun _ => ⟨?se, (HBA.out.cell (p := ⟨w.heap.size + 1, f, none⟩) hz0).trans hv⟩) ?re
      case se => exact (box_first wr #[.int .i64 f, .int .i64 et, .int .i64 ec, .int .i64 eb, .int .i64 em] 37 (.cells #[.int .i64 (t : Int)] 3) 0)
      clear hK K
      try simp only [Act.put, List.getElem_toArray, List.getElem_cons_zero, List.getElem_cons_succ, List.setIfInBounds_toArray, List.set_cons_zero, List.set_cons_succ]
      refine wpAnyU_ready (rs := [10]) (by kernel_rfl) (by simp) (AllU.cons (i := 10) rfl (fun K hK => ?_) AllU.nil)
      have hown0 := own_keep HO.out HBA.out
      have hbase : w.heap.size + 2 ≤ ((wr.alloc (.cells #[.int .i64 f, .int .i64 et, .int .i64 ec, .int .i64 eb, .int .i64 em] 37)).alloc (.cells #[.int .i64 (t : Int)] 3)).drew.heap.size := Nat.le_trans hzz HBA.out.size
      refine step_append_ints _ (by rfl) _ _ _ (by rfl) (w.heap.size + 2) 3 i0 _ Try.underlying22 hi hi0 hi1 hi2 rfl v (fromL es f t).length ((fromL es f t).map (Value.int .i64)) (by rfl) (by exact hown0) (some ⟨wr.heap.size + 1, 0, none⟩) 1 1 [(t : Int)] (by rfl) (by exact one_new (wr.alloc (.cells #[.int .i64 f, .int .i64 et, .int .i64 ec, .int .i64 eb, .int .i64 em] 37)) (wr.heap.size + 1) (by simp) t _) (by have := HLN.out; omega) (by exact hbase) ?_
      intro v' w2 hown hgrow hat
      obtain ⟨A', c', hve, hcc⟩ := own_slice hown
      have HRW := Lib.hid ((HRS.out.below HBA.out).grow hfS (l := fromL es f t) ⟨HVF.out, rfl⟩ hown hgrow hat)
      rw [hve] at HRW
      rw [hve] at hown hat ⊢
      have hb2 := below_own hown0 hgrow hbase
      have HB2 := Lib.hid hb2
      have HOW := Lib.hid hown
      have hc2 : w2.cell? ⟨w.heap.size + 1, f, none⟩ = some v := (hb2.cell (p := ⟨w.heap.size + 1, f, none⟩) (by simp)).trans ((HBA.out.cell (p := ⟨w.heap.size + 1, f, none⟩) hz0).trans hv)
      have hf2 : w2.frozen? ⟨w.heap.size + 1, f, none⟩ = false := (hb2.frozen (p := ⟨w.heap.size + 1, f, none⟩) (by simp)).trans ((HBA.out.frozen (p := ⟨w.heap.size + 1, f, none⟩) hz0).trans hfz)
      have he2 : w2.cell? ⟨wr.heap.size, 0, none⟩ = some (.int .i64 f) := (hgrow.cell_far ⟨wr.heap.size, 0, none⟩ (by simp; omega) (own_apart0 HO.out (Nat.le_refl _))).trans (box_first wr #[.int .i64 f, .int .i64 et, .int .i64 ec, .int .i64 eb, .int .i64 em] 37 (.cells #[.int .i64 (t : Int)] 3) 0)
      clear hve hown0 hown hgrow hat hb2 hHeld
      have hHeld := And.intro he2 hc2
      refine hK.out _ _ (fun _ => hHeld) ?_
      clear hK K
      try simp only [Act.put, List.getElem_toArray, List.getElem_cons_zero, List.getElem_cons_succ, List.setIfInBounds_toArray, List.set_cons_zero, List.set_cons_succ]
      refine wpAnyU_pure (i := 11) (v := ?vq11) rfl (by kernel_rfl) (by kernel_rfl) (by kernel_rfl) (by kernel_rfl) (fun _ _ _ h => h) (Or.inl ⟨by rfl, fun V _ => ?hyq11⟩) (fun _ => hHeld) ?restq11
      case hyq11 => go_simp; try with_reducible rfl
      try simp only [Act.put, List.getElem_toArray, List.getElem_cons_zero, List.getElem_cons_succ, List.setIfInBounds_toArray, List.set_cons_zero, List.set_cons_succ]
      refine wpAnyU_ready (rs := [12]) (by kernel_rfl) (by simp) (AllU.cons (i := 12) rfl (fun K hK => ?_) AllU.nil)
      simp only [List.getElem_toArray, List.getElem_cons_zero, List.getElem_cons_succ]
      go_simp
      refine hK.out _ _ (fun h => by have h2 : false = true := h; cases h2) ?_
      clear hK K
      try simp only [Act.put, List.getElem_toArray, List.getElem_cons_zero, List.getElem_cons_succ, List.setIfInBounds_toArray, List.set_cons_zero, List.set_cons_succ]
      refine wpAnyU_done (by kernel_rfl) ?_ _
      clear hHeld
      go_wp2_with fail
      go_roundg q
      case measure => omega
      case rel =>
        refine ⟨t + 1, by omega, by go_num, ⟨_, (((HROW.out.of_block (HBA.out.block _ hz0)).of_block (HB2.out.block _ (by omega))).set f (.slice A' ((fromL es f t).length + 1) c')), ?_⟩, ?_, ?_⟩
        · have h1 := (HRW.out.put (a := ⟨w.heap.size + 1, f, none⟩) (by show w.heap.size + 1 < w.heap.size + 2; omega) (.slice A' ((fromL es f t).length + 1) c')).lists (L' := fun s => fromL es s (t + 1)) (fun s hs => by
            show putL _ f _ s = fromL es s (t + 1)
            unfold putL
            by_cases e : s = f
            · subst e; rw [if_pos rfl, HYES.out]
            · rw [if_neg e, HNO.out s e])
          exact h1
        · exact ((HBx.out.trans (HBA.out.mono (by omega))).trans (HB2.out.mono (by omega))).setCell (p := ⟨w.heap.size + 1, f, none⟩) (by simp) _
        · have := Nat.le_trans hbase HB2.out.size
          show _ ≤ _
          simpa using this

end Go.Proofs.Ytalgbcndifaaiaa.Wd

namespace Go.Proofs.Ytalgbcndifaaiaa.Wd
open Go.RowKit
set_option linter.unusedVariables false

theorem edge_info : (Try.prog.info? 37).map (fun i => (i.zero, i.size, i.bytes)) = some (some (.agg #[.int .i64 0, .int .i64 0, .int .i64 0, .int .i64 0, .int .i64 0]), 5, 40) := by kernel_rfl

/-- The cells of an edge, and of a list of edges. -/
def edV (e : Ed) : List Value := [.int .i64 e.f, .int .i64 e.t, .int .i64 e.c, .int .i64 e.b, .int .i64 e.m]
def edsV (l : List Ed) : List Value := l.flatMap edV
theorem edsV_cons (e : Ed) (l : List Ed) : edsV (e :: l) = edV e ++ edsV l := rfl
theorem edsV_snoc (l : List Ed) (e : Ed) : edsV (l ++ [e]) = edsV l ++ edV e := by unfold edsV; rw [List.flatMap_append]; simp
theorem edsV_len (l : List Ed) : (edsV l).length = l.length * 5 := by
  induction l with
  | nil => rfl
  | cons e l ih => rw [edsV_cons, List.length_append, ih, List.length_cons]; show 5 + _ = _; omega
theorem edV_at (e : Ed) : (edV e)[0]? = some (.int .i64 e.f) ∧ (edV e)[1]? = some (.int .i64 e.t) ∧ (edV e)[2]? = some (.int .i64 e.c) ∧ (edV e)[3]? = some (.int .i64 e.b) ∧ (edV e)[4]? = some (.int .i64 e.m) := ⟨rfl, rfl, rfl, rfl, rfl⟩
theorem edsV_at (l : List Ed) (u k : Nat) (hu : u < l.length) (hk : k < 5) : (edsV l)[u * 5 + k]? = (edV (l.getD u ed0))[k]? := by
  induction l generalizing u with
  | nil => simp at hu
  | cons e l ih =>
    rw [edsV_cons]
    cases u with
    | zero =>
      rw [List.getElem?_append_left (by show 0 * 5 + k < 5; omega)]
      simp
    | succ u =>
      rw [List.getElem?_append_right (by show 5 ≤ _; omega)]
      show (edsV l)[(u + 1) * 5 + k - 5]? = _
      rw [show (u + 1) * 5 + k - 5 = u * 5 + k by omega, ih u (by simpa using hu)]
      simp

/-- An own row of edges: the cells of the edge u. -/
theorem own_edge {w : World} {B n : Nat} {v : Value} {l : List Ed} (h : w.ownsRow B 37 5 v n (edsV l)) (hn : l.length = n) {u : Nat} (hu : u < n) :
    ∃ g cap, v = .slice (some ⟨g, 0, none⟩) n cap ∧ B ≤ g ∧ g < w.heap.size ∧ w.cell? ⟨g, u * 5, none⟩ = some (.int .i64 (l.getD u ed0).f) ∧ w.cell? ⟨g, u * 5 + 1, none⟩ = some (.int .i64 (l.getD u ed0).t) ∧
      w.cell? ⟨g, u * 5 + 2, none⟩ = some (.int .i64 (l.getD u ed0).c) ∧ w.cell? ⟨g, u * 5 + 3, none⟩ = some (.int .i64 (l.getD u ed0).b) ∧ w.cell? ⟨g, u * 5 + 4, none⟩ = some (.int .i64 (l.getD u ed0).m) := by
  have hc := fun g (hg : v.ownBlock = some g) => h.cells hg
  have hl := h.lt
  rcases h.2 with ⟨rfl, hn0⟩ | ⟨g, cap, cur, rfl, hb, _⟩
  · omega
  · have hg : Value.ownBlock (.slice (some ⟨g, 0, none⟩) n cap) = some g := by simp [Value.ownBlock]
    have key : ∀ k, k < 5 → ∀ x, (edV (l.getD u ed0))[k]? = some x → w.cell? ⟨g, u * 5 + k, none⟩ = some x := fun k hk x hx => by
      have := hc g hg (u * 5 + k) x (by rw [edsV_at l u k (by omega) hk]; exact hx)
      rw [Addr.add_lit] at this
      simpa using this
    obtain ⟨e0, e1, e2, e3, e4⟩ := edV_at (l.getD u ed0)
    exact ⟨g, cap, rfl, hb, (hl g hg).2, key 0 (by omega) _ e0, key 1 (by omega) _ e1, key 2 (by omega) _ e2, key 3 (by omega) _ e3, key 4 (by omega) _ e4⟩
/-- Its length, as a slice. -/
theorem own_edges {w : World} {B n : Nat} {v : Value} {xs : List Value} (h : w.ownsRow B 37 5 v n xs) : ∃ A cap, v = .slice A n cap ∧ n ≤ cap := by
  rcases h.2 with ⟨rfl, hn⟩ | ⟨g, cap, cur, rfl, _, _, hnc, _⟩
  · exact ⟨none, 0, by rw [hn], by omega⟩
  · exact ⟨_, cap, rfl, hnc⟩

/-- append of one edge, as a step of a region that draws its order. -/
theorem step_append_edge {P : Program} (w : World) {ops : Array Oper} {o : Oper} {a : Act} {K : Act → World → Prop} {Q : Exit → Act → World → Prop} {E : Prop} (hgd : o.guard = none) (s x : Operand) (t : TypeId)
    (ho : o.op = .call { callee := .builtin .append, args := #[s, x], argTypes := #[t, t] })
    (base : Nat) (e : TypeId) (i : TypeInfo) (z : Value) (ht : P.underlying t = some (.slice e)) (hi : P.info? e = some i) (hz : i.zero = some z)
    (hsize : i.size = 5) (hby : i.bytes = 40) (hzs : z.cells.size = 5)
    (v : Value) (n : Nat) (xs : List Value) (hs : a.eval s = v) (hown : w.ownsRow base e 5 v n xs)
    (ad : Addr) (c : Nat) (y : Ed) (hx : a.eval x = .slice (some ad) 1 c) (hnews : ∀ j u, (edV y)[j]? = some u → w.cell? (ad.add j) = some u) (hn : n ≤ 1000000) (hbase : base ≤ w.heap.size)
    (h : ∀ v' w', w'.ownsRow base e 5 v' (n + 1) (xs ++ edV y) → w.grownBy w' v.ownBlock → (v'.ownBlock = v.ownBlock ∨ v'.ownBlock = some w.heap.size) → K (a.put o.dst v') w') :
    if Region.wanted o (yielded ops a.tmps) = true then Oper.wp P o a w K Q else E := by
  have hw : Region.wanted o (yielded ops a.tmps) = true := by simp [Region.wanted, hgd]
  rw [if_pos hw]
  obtain ⟨v', w', hrun, h2, h3, _, h4⟩ := run_append_own_at (P := P) w base t o.type e i z 5 40 ht hi hz hsize hby hzs (by omega) v n xs hown ad 1 c (edV y) (by rfl) hnews (by
    intro u hu
    simp only [edV, List.mem_cons, List.not_mem_nil, or_false] at hu
    rcases hu with rfl | rfl | rfl | rfl | rfl <;> rfl) (by unfold maxLen; omega) (by omega) hbase
  unfold Oper.wp execOp
  simp only [ho, resolve, invoke, builtin, Sem.run_bind, Sem.run_pure, Result.andThen_ok, List.map_toArray, List.map_cons, List.map_nil, hs, hx, hrun]
  exact h v' w' h2 h3 h4

/-- S rows of edges, own to the walk, each in a block of its own. -/
structure RowsE (B S : Nat) (w : World) (V : Nat → Value) (L : Nat → List Ed) : Prop where
  own : ∀ s, s < S → w.ownsRow B 37 5 (V s) (L s).length (edsV (L s))
  apt : ∀ s s', s < S → s' < S → s ≠ s' → Apt (V s) (V s')
theorem RowsE.start (B S : Nat) (w : World) : RowsE B S w (fun _ => .slice none 0 0) (fun _ => []) := ⟨fun s _ => World.ownsRow_nil _ _ _ _, fun _ _ _ _ _ => .inl rfl⟩
theorem RowsE.below {B S : Nat} {w w' : World} {V : Nat → Value} {L : Nat → List Ed} (h : RowsE B S w V L) (hb : Below w.heap.size w w') : RowsE B S w' V L := ⟨fun s hs => own_keep (h.own s hs) hb, h.apt⟩
theorem RowsE.put {B S : Nat} {w : World} {V : Nat → Value} {L : Nat → List Ed} (h : RowsE B S w V L) {a : Addr} (ha : a.block < B) (v : Value) : RowsE B S (w.setCell a v) V L := ⟨fun s hs => ownsRow_setCell_below (h.own s hs) ha v, h.apt⟩
theorem RowsE.lists {B S : Nat} {w : World} {V : Nat → Value} {L L' : Nat → List Ed} (h : RowsE B S w V L) (e : ∀ s, s < S → L s = L' s) : RowsE B S w V L' := ⟨fun s hs => by rw [← e s hs]; exact h.own s hs, h.apt⟩
def putE (L : Nat → List Ed) (f : Nat) (l : List Ed) (j : Nat) : List Ed := if j = f then l else L j
theorem RowsE.grow {B S f : Nat} {w w2 : World} {V : Nat → Value} {L : Nat → List Ed} {v v' : Value} {l : List Ed} {x : Ed} (h : RowsE B S w V L) (hf : f < S) (hl : V f = v ∧ L f = l)
    (hown : w2.ownsRow B 37 5 v' (l.length + 1) (edsV l ++ edV x)) (hg : w.grownBy w2 v.ownBlock) (hat : v'.ownBlock = v.ownBlock ∨ v'.ownBlock = some w.heap.size) :
    RowsE B S w2 (putV V f v') (putE L f (l ++ [x])) := by
  obtain ⟨rfl, rfl⟩ := hl
  refine ⟨fun s hs => ?_, fun s s' hs hs' hne => ?_⟩
  · unfold putV putE
    by_cases e : s = f
    · rw [if_pos e, if_pos e, List.length_append, edsV_snoc]; exact hown
    · rw [if_neg e, if_neg e]; exact (apt_grow (h.own s hs) (h.apt s f hs hf e) hg hat).1
  · unfold putV
    by_cases e : s = f
    · rw [if_pos e, if_neg (fun e' => hne (e.trans e'.symm))]
      exact (apt_grow (h.own s' hs') (h.apt s' f hs' hf (fun e' => hne (e.trans e'.symm))) hg hat).2.symm
    · rw [if_neg e]
      by_cases e' : s' = f
      · rw [if_pos e']; exact (apt_grow (h.own s hs) (h.apt s f hs hf e) hg hat).2
      · rw [if_neg e']; exact h.apt s s' hs hs' hne

/-- Of the first k edges those from s. -/
def fromE (es : List Ed) (s k : Nat) : List Ed := ((List.range k).map fun j => es.getD j ed0).filter fun e => decide (e.f = (s : Int))
theorem fromE_yes {es : List Ed} {s k : Nat} (h : (es.getD k ed0).f = (s : Int)) : fromE es s (k + 1) = fromE es s k ++ [es.getD k ed0] := by
  unfold fromE
  rw [List.range_succ, List.map_append, List.filter_append]
  simp only [List.map_cons, List.map_nil, List.filter_cons, List.filter_nil, h, decide_true, if_true]
theorem fromE_no {es : List Ed} {s k : Nat} (h : ¬ (es.getD k ed0).f = (s : Int)) : fromE es s (k + 1) = fromE es s k := by
  unfold fromE
  rw [List.range_succ, List.map_append, List.filter_append]
  simp only [List.map_cons, List.map_nil, List.filter_cons, List.filter_nil, decide_eq_false h, Bool.false_eq_true, if_false, List.append_nil]
theorem fromE_len (es : List Ed) (s k : Nat) : (fromE es s k).length ≤ k := by
  unfold fromE
  exact Nat.le_trans (List.length_filter_le _ _) (by simp)
theorem fromE_mem {es : List Ed} {s k : Nat} {e : Ed} : e ∈ fromE es s k ↔ ∃ i, i < k ∧ es.getD i ed0 = e ∧ e.f = (s : Int) := by
  unfold fromE
  rw [List.mem_filter, List.mem_map]
  constructor
  · rintro ⟨⟨i, h1, h2⟩, h3⟩
    exact ⟨i, List.mem_range.1 h1, h2, of_decide_eq_true h3⟩
  · rintro ⟨i, h1, h2, h3⟩
    exact ⟨⟨i, List.mem_range.2 h1, h2⟩, decide_eq_true h3⟩

end Go.Proofs.Ytalgbcndifaaiaa.Wd

namespace Go.Proofs.Ytalgbcndifaaiaa.Wd
open Go.RowKit
set_option linter.unusedVariables false

/-- Has one of the first t edges from i / 64 the letter i % 64? -/
def bitT (p : Nat) (es : List Ed) (t i : Nat) : Bool := (setsN p es t (i / 64)).testBit (i % 64)
/-- The same, with the first l letters of an edge e from f beside it. -/
def midT (p : Nat) (es : List Ed) (t f : Nat) (e : Ed) (l i : Nat) : Bool := bitT p es t i || (decide (i / 64 = f) && (decide (i % 64 < l) && letB ((i % 64 : Nat) : Int) e))
theorem bitT_zero (p : Nat) (es : List Ed) (i : Nat) : bitT p es 0 i = false := by simp [bitT, setsN]
theorem midT_zero (p : Nat) (es : List Ed) (t f : Nat) (e : Ed) (i : Nat) : midT p es t f e 0 i = bitT p es t i := by simp [midT]
theorem midT_all {p : Nat} {es : List Ed} {t f : Nat} (hf : (es.getD t ed0).f = (f : Int)) (i : Nat) : midT p es t f (es.getD t ed0) (2 ^ p) i = bitT p es (t + 1) i := by
  unfold midT bitT
  by_cases h : i / 64 = f
  · rw [h, setsN_same hf, Nat.testBit_or, fitN_bit]; simp
  · rw [setsN_other (by rw [hf]; omega), decide_eq_false h]; simp
theorem midT_here (p : Nat) (es : List Ed) (t f : Nat) (e : Ed) {l : Nat} (hl : l < 64) : midT p es t f e l (f * 64 + l) = bitT p es t (f * 64 + l) := by
  unfold midT
  rw [show (f * 64 + l) % 64 = l by omega, decide_eq_false (show ¬ l < l by omega)]
  simp
theorem midT_step (p : Nat) (es : List Ed) (t f : Nat) (e : Ed) {l : Nat} (hl : l < 64) (i : Nat) : midT p es t f e (l + 1) i = if i = f * 64 + l then (bitT p es t i || letB (l : Int) e) else midT p es t f e l i := by
  by_cases h : i = f * 64 + l
  · subst h
    rw [if_pos rfl]
    unfold midT
    rw [show (f * 64 + l) % 64 = l by omega, show (f * 64 + l) / 64 = f by omega, decide_eq_true (show l < l + 1 by omega)]
    simp
  · rw [if_neg h]
    unfold midT
    by_cases h1 : i / 64 = f
    · rw [show decide (i % 64 < l + 1) = decide (i % 64 < l) by rw [decide_eq_decide]; omega]
    · rw [decide_eq_false h1]; simp
theorem full_bits {p S : Nat} (hp : p ≤ 6) (es : List Ed) : fullB p es S = true ↔ ∀ s l : Nat, s < S → l < 2 ^ p → bitT p es es.length (s * 64 + l) = true := by
  have h64 := (pow_six hp).2
  rw [fullB_iff hp]
  have key : ∀ s l : Nat, l < 2 ^ p → (bitT p es es.length (s * 64 + l) = true ↔ ∃ i, i < es.length ∧ (es.getD i ed0).f = (s : Int) ∧ letB (l : Int) (es.getD i ed0) = true) := by
    intro s l hl
    unfold bitT
    rw [show (s * 64 + l) / 64 = s by omega, show (s * 64 + l) % 64 = l by omega, setsN_bit]
    constructor
    · rintro ⟨i, h1, h2, h3⟩
      rw [fitN_bit, Bool.and_eq_true] at h3
      exact ⟨i, h1, h2, h3.2⟩
    · rintro ⟨i, h1, h2, h3⟩
      exact ⟨i, h1, h2, by rw [fitN_bit, decide_eq_true hl, h3]; rfl⟩
  exact ⟨fun h s l hs hl => (key s l hl).2 (h s hs l hl), fun h s hs l hl => (key s l hl).1 (h s l hs hl)⟩

/-- Are the first k letters of a row there? -/
def rowB (p : Nat) (es : List Ed) (s : Nat) : Nat → Bool
  | 0 => true
  | l + 1 => rowB p es s l && bitT p es es.length (s * 64 + l)
theorem rowB_iff (p : Nat) (es : List Ed) (s k : Nat) : rowB p es s k = true ↔ ∀ l, l < k → bitT p es es.length (s * 64 + l) = true := by
  induction k with
  | zero => simp [rowB]
  | succ k ih =>
    rw [rowB, Bool.and_eq_true, ih]
    constructor
    · rintro ⟨h1, h2⟩ l hl
      by_cases e : l = k
      · subst e; exact h2
      · exact h1 l (by omega)
    · intro h
      exact ⟨fun l hl => h l (by omega), h k (by omega)⟩
/-- The first s states have all. -/
def RowsB (p : Nat) (es : List Ed) (s : Nat) : Prop := ∀ s' l : Nat, s' < s → l < 2 ^ p → bitT p es es.length (s' * 64 + l) = true
theorem RowsB.step {p : Nat} {es : List Ed} {s : Nat} (h : RowsB p es s) (h2 : rowB p es s (2 ^ p) = true) : RowsB p es (s + 1) := by
  intro s' l hs hl
  by_cases e : s' = s
  · subst e; exact (rowB_iff p es s' (2 ^ p)).1 h2 l hl
  · exact h s' l (by omega) hl
theorem full_no {p S s l : Nat} (hp : p ≤ 6) {es : List Ed} (hs : s < S) (hl : l < 2 ^ p) (h : bitT p es es.length (s * 64 + l) = false) : fullB p es S = false := by
  rw [Bool.eq_false_iff]
  intro h2
  rw [(full_bits hp es).1 h2 s l hs hl] at h
  cases h
end Go.Proofs.Ytalgbcndifaaiaa.Wd

namespace Go.Proofs.Ytalgbcndifaaiaa.Wd
open Go.RowKit
set_option linter.unusedVariables false

section
variable {P : Program} (w : World)
/-- append of m structs that lie one behind the other. -/
theorem wpList_append_cells {ops : Array Oper} {rest : List Oper} {o : Oper} {a : Act} {Q : Exit → Act → World → Prop} (hgd : o.guard = none) (s x : Operand) (t : TypeId)
    (ho : o.op = .call { callee := .builtin .append, args := #[s, x], argTypes := #[t, t] })
    (base : Nat) (e : TypeId) (sz by_ : Nat) (i : TypeInfo) (z : Value) (ht : P.underlying t = some (.slice e)) (hi : P.info? e = some i) (hz : i.zero = some z)
    (hsize : i.size = sz) (hby : i.bytes = by_) (hzs : z.cells.size = sz) (hsz0 : 0 < sz)
    (v : Value) (n : Nat) (xs : List Value) (hs : a.eval s = v) (hown : w.ownsRow base e sz v n xs)
    (ad : Addr) (m c : Nat) (ys : List Value) (hx : a.eval x = .slice (some ad) m c) (hl : ys.length = m * sz) (hnews : ∀ j u, ys[j]? = some u → w.cell? (ad.add j) = some u) (h1 : ∀ u ∈ ys, u.oneCell' = true) (hn : n + m ≤ 1000000) (hb2 : by_ ≤ 1000) (hbase : base ≤ w.heap.size)
    (h : ∀ v' w', w'.ownsRow base e sz v' (n + m) (xs ++ ys) → w.grownBy w' v.ownBlock → (v'.ownBlock = v.ownBlock ∨ v'.ownBlock = some w.heap.size) → wpList P ops Q rest (a.put o.dst v') w') : wpList P ops Q (o :: rest) a w := by
  obtain ⟨v', w', hrun, h2, h3, _, h4⟩ := run_append_own_at (P := P) w base t o.type e i z sz by_ ht hi hz hsize hby hzs hsz0 v n xs hown ad m c ys hl hnews h1 (by unfold maxLen; omega) (by
    have : (n + m) * by_ ≤ 1000000 * 1000 := Nat.mul_le_mul hn hb2
    omega) hbase
  refine wpList_plain hgd fun _ hK => ?_
  unfold Oper.wp execOp
  simp only [ho, resolve, invoke, builtin, Sem.run_bind, Sem.run_pure, Result.andThen_ok, List.map_toArray, List.map_cons, List.map_nil, hs, hx, hrun]
  exact hK _ _ (h v' w' h2 h3 h4)
end

structure Cu where
  c : Nat
  b : Nat
  l : Nat
def cu0 : Cu := ⟨0, 0, 0⟩
def cuV (x : Cu) : List Value := [.int .i64 x.c, .int .i64 x.b, .int .u64 x.l]
def cusV (l : List Cu) : List Value := l.flatMap cuV
theorem cusV_cons (e : Cu) (l : List Cu) : cusV (e :: l) = cuV e ++ cusV l := rfl
theorem cusV_app (l r : List Cu) : cusV (l ++ r) = cusV l ++ cusV r := by unfold cusV; rw [List.flatMap_append]
theorem cusV_snoc (l : List Cu) (e : Cu) : cusV (l ++ [e]) = cusV l ++ cuV e := by rw [cusV_app]; simp [cusV]
theorem cusV_len (l : List Cu) : (cusV l).length = l.length * 3 := by
  induction l with
  | nil => rfl
  | cons e l ih => rw [cusV_cons, List.length_append, ih, List.length_cons]; show 3 + _ = _; omega
theorem cusV_one (l : List Cu) : ∀ u ∈ cusV l, u.oneCell' = true := by
  intro u hu
  obtain ⟨x, _, hx⟩ := List.mem_flatMap.1 hu
  simp only [cuV, List.mem_cons, List.not_mem_nil, or_false] at hx
  rcases hx with rfl | rfl | rfl <;> rfl
theorem cusV_at (l : List Cu) (u k : Nat) (hu : u < l.length) (hk : k < 3) : (cusV l)[u * 3 + k]? = (cuV (l.getD u cu0))[k]? := by
  induction l generalizing u with
  | nil => simp at hu
  | cons e l ih =>
    rw [cusV_cons]
    cases u with
    | zero =>
      rw [List.getElem?_append_left (by show 0 * 3 + k < 3; omega)]
      simp
    | succ u =>
      rw [List.getElem?_append_right (by show 3 ≤ _; omega)]
      show (cusV l)[(u + 1) * 3 + k - 3]? = _
      rw [show (u + 1) * 3 + k - 3 = u * 3 + k by omega, ih u (by simpa using hu)]
      simp

/-- Cubes in memory. -/
def CusAt (w : World) (A : Option Addr) (n : Nat) (l : List Cu) : Prop :=
  l.length = n ∧ (0 < n → ∃ b, A = some ⟨b, 0, none⟩ ∧ b < w.heap.size ∧ ∀ j, j < n → w.cell? ⟨b, j * 3, none⟩ = some (.int .i64 (l.getD j cu0).c) ∧ w.cell? ⟨b, j * 3 + 1, none⟩ = some (.int .i64 (l.getD j cu0).b) ∧ w.cell? ⟨b, j * 3 + 2, none⟩ = some (.int .u64 (l.getD j cu0).l))
theorem CusAt.below {w w' : World} {A : Option Addr} {n : Nat} {l : List Cu} (h : CusAt w A n l) (hb : Below w.heap.size w w') : CusAt w' A n l := ⟨h.1, fun hn => by
  obtain ⟨b, e, hlt, hc⟩ := h.2 hn
  refine ⟨b, e, Nat.lt_of_lt_of_le hlt hb.size, fun j hj => ?_⟩
  obtain ⟨c0, c1, c2⟩ := hc j hj
  exact ⟨(hb.cell (p := ⟨b, j * 3, none⟩) hlt).trans c0, (hb.cell (p := ⟨b, j * 3 + 1, none⟩) hlt).trans c1, (hb.cell (p := ⟨b, j * 3 + 2, none⟩) hlt).trans c2⟩⟩
theorem own_any {w : World} {B n sz : Nat} {e : TypeId} {v : Value} {xs : List Value} (h : w.ownsRow B e sz v n xs) : ∃ A cap, v = .slice A n cap ∧ n ≤ cap := by
  rcases h.2 with ⟨rfl, hn⟩ | ⟨g, cap, cur, rfl, _, _, hnc, _⟩
  · exact ⟨none, 0, by rw [hn], by omega⟩
  · exact ⟨_, cap, rfl, hnc⟩
theorem CusAt.of_own {w : World} {B n cap : Nat} {A : Option Addr} {l : List Cu} (h : w.ownsRow B 89 3 (.slice A n cap) n (cusV l)) (hl : l.length = n) : CusAt w A n l := by
  refine ⟨hl, fun hn => ?_⟩
  rcases h.2 with ⟨he, h0⟩ | ⟨g, cap', cur, hv, hb, _⟩
  · omega
  · injection hv with hv _ _
    subst hv
    have hg : Value.ownBlock (.slice (some ⟨g, 0, none⟩) n cap) = some g := by simp [Value.ownBlock]
    have hlt := (h.lt g hg).2
    refine ⟨g, rfl, hlt, fun j hj => ?_⟩
    have key : ∀ k, k < 3 → ∀ x, (cuV (l.getD j cu0))[k]? = some x → w.cell? ⟨g, j * 3 + k, none⟩ = some x := fun k hk x hx => by
      have := h.cells hg (j * 3 + k) x (by rw [cusV_at l j k (by omega) hk]; exact hx)
      rw [Addr.add_lit] at this
      simpa using this
    exact ⟨key 0 (by omega) _ rfl, key 1 (by omega) _ rfl, key 2 (by omega) _ rfl⟩

theorem cube_info : (Try.prog.info? 89).map (fun i => (i.zero, i.size, i.bytes)) = some (some (.agg #[.int .i64 0, .int .i64 0, .int .u64 0]), 3, 24) := by kernel_rfl

/-- The letters of a cube, as a number. -/
def cubeN (p c b : Nat) : Nat := fitN p ⟨0, 0, (c : Int), (b : Int), 0⟩
/-- The cubes that care for c. -/
def cubesOfL (p c : Nat) : Nat → List Cu
  | 0 => []
  | k + 1 => if k &&& c = k then cubesOfL p c k ++ [⟨c, k, cubeN p c k⟩] else cubesOfL p c k
theorem andNot_six : ∀ x c : Fin 64, (bits .andNot .i64 ((x.val : Nat) : Int) ((c.val : Nat) : Int) = 0 ↔ x.val &&& c.val = x.val) := by decide +kernel
theorem andNot_small {x c : Nat} (hx : x < 64) (hc : c < 64) : bits .andNot .i64 (x : Int) (c : Int) = 0 ↔ x &&& c = x := andNot_six ⟨x, hx⟩ ⟨c, hc⟩
theorem cubesOfL_len (p c k : Nat) : (cubesOfL p c k).length ≤ k := by
  induction k with
  | zero => simp [cubesOfL]
  | succ k ih =>
    unfold cubesOfL
    split
    · rw [List.length_append]; show _ + 1 ≤ _; omega
    · omega
theorem cubesOfL_mem {p c : Nat} {x : Cu} : ∀ {k : Nat}, x ∈ cubesOfL p c k ↔ ∃ b, b < k ∧ b &&& c = b ∧ x = ⟨c, b, cubeN p c b⟩
  | 0 => ⟨fun h => (by cases h), fun ⟨b, hb, _⟩ => by omega⟩
  | k + 1 => by
    unfold cubesOfL
    split
    · rename_i h
      rw [List.mem_append, List.mem_singleton, cubesOfL_mem]
      constructor
      · rintro (⟨b, h1, h2, h3⟩ | rfl)
        · exact ⟨b, by omega, h2, h3⟩
        · exact ⟨k, by omega, h, rfl⟩
      · rintro ⟨b, h1, h2, h3⟩
        by_cases e : b = k
        · subst e; exact .inr h3
        · exact .inl ⟨b, by omega, h2, h3⟩
    · rename_i h
      rw [cubesOfL_mem]
      constructor
      · rintro ⟨b, h1, h2, h3⟩
        exact ⟨b, by omega, h2, h3⟩
      · rintro ⟨b, h1, h2, h3⟩
        by_cases e : b = k
        · subst e; exact absurd h2 h
        · exact ⟨b, by omega, h2, h3⟩
theorem cubesOfL_ne (p c : Nat) {k : Nat} (hk : 0 < k) : 0 < (cubesOfL p c k).length := by
  have : (⟨c, 0, cubeN p c 0⟩ : Cu) ∈ cubesOfL p c k := cubesOfL_mem.2 ⟨0, hk, Nat.zero_and c, rfl⟩
  exact List.length_pos_of_mem this

/-- How many bits? -/
def bitsN : Nat → Nat → Nat
  | 0, _ => 0
  | k + 1, x => x % 2 + bitsN k (x / 2)
/-- The cubes that care for q propositions, of the first k sets of these. -/
def cubesAtL (p q : Nat) : Nat → List Cu
  | 0 => []
  | k + 1 => if bitsN 6 k = q then cubesAtL p q k ++ cubesOfL p k (2 ^ p) else cubesAtL p q k
/-- The cubes that care for less than q propositions. -/
def cubesL (p : Nat) : Nat → List Cu
  | 0 => []
  | q + 1 => cubesL p q ++ cubesAtL p q (2 ^ p)
theorem cubesAtL_mem {p q : Nat} {x : Cu} : ∀ {k : Nat}, x ∈ cubesAtL p q k ↔ ∃ c, c < k ∧ bitsN 6 c = q ∧ x ∈ cubesOfL p c (2 ^ p)
  | 0 => ⟨fun h => (by cases h), fun ⟨c, hc, _⟩ => by omega⟩
  | k + 1 => by
    unfold cubesAtL
    split
    · rename_i h
      rw [List.mem_append, cubesAtL_mem]
      constructor
      · rintro (⟨c, h1, h2, h3⟩ | h3)
        · exact ⟨c, by omega, h2, h3⟩
        · exact ⟨k, by omega, h, h3⟩
      · rintro ⟨c, h1, h2, h3⟩
        by_cases e : c = k
        · subst e; exact .inr h3
        · exact .inl ⟨c, by omega, h2, h3⟩
    · rename_i h
      rw [cubesAtL_mem]
      constructor
      · rintro ⟨c, h1, h2, h3⟩
        exact ⟨c, by omega, h2, h3⟩
      · rintro ⟨c, h1, h2, h3⟩
        by_cases e : c = k
        · subst e; exact absurd h2 h
        · exact ⟨c, by omega, h2, h3⟩
theorem cubesL_mem {p : Nat} {x : Cu} : ∀ {q : Nat}, x ∈ cubesL p q ↔ ∃ c b, c < 2 ^ p ∧ bitsN 6 c < q ∧ b < 2 ^ p ∧ b &&& c = b ∧ x = ⟨c, b, cubeN p c b⟩
  | 0 => ⟨fun h => (by cases h), fun ⟨c, b, _, hc, _⟩ => by omega⟩
  | q + 1 => by
    rw [cubesL, List.mem_append, cubesL_mem, cubesAtL_mem]
    constructor
    · rintro (⟨c, b, h1, h2, h3, h4, h5⟩ | ⟨c, h1, h2, h3⟩)
      · exact ⟨c, b, h1, by omega, h3, h4, h5⟩
      · obtain ⟨b, h4, h5, h6⟩ := cubesOfL_mem.1 h3
        exact ⟨c, b, h1, by omega, h4, h5, h6⟩
    · rintro ⟨c, b, h1, h2, h3, h4, h5⟩
      by_cases e : bitsN 6 c = q
      · exact .inr ⟨c, h1, e, cubesOfL_mem.2 ⟨b, h3, h4, h5⟩⟩
      · exact .inl ⟨c, b, h1, by omega, h3, h4, h5⟩
theorem bits_le : ∀ p : Fin 7, ∀ c : Fin 64, c.val < 2 ^ p.val → bitsN 6 c.val ≤ p.val := by decide +kernel
/-- All cubes over p propositions. -/
def allCubes (p : Nat) : List Cu := cubesL p (p + 1)
theorem allCubes_mem {p : Nat} (hp : p ≤ 6) {x : Cu} : x ∈ allCubes p ↔ ∃ c b, c < 2 ^ p ∧ b < 2 ^ p ∧ b &&& c = b ∧ x = ⟨c, b, cubeN p c b⟩ := by
  unfold allCubes
  rw [cubesL_mem]
  constructor
  · rintro ⟨c, b, h1, _, h3, h4, h5⟩; exact ⟨c, b, h1, h3, h4, h5⟩
  · rintro ⟨c, b, h1, h3, h4, h5⟩
    have h64 := (pow_six hp).2
    exact ⟨c, b, h1, by have := bits_le ⟨p, by omega⟩ ⟨c, by omega⟩ h1; simp only at this; omega, h3, h4, h5⟩
theorem cubesAtL_len (p q k : Nat) : (cubesAtL p q k).length ≤ k * 2 ^ p := by
  induction k with
  | zero => simp [cubesAtL]
  | succ k ih =>
    unfold cubesAtL
    have := cubesOfL_len p k (2 ^ p)
    rw [Nat.succ_mul]
    split
    · rw [List.length_append]; omega
    · omega
theorem cubesL_len {p : Nat} (hp : p ≤ 6) (q : Nat) : (cubesL p q).length ≤ q * 4096 := by
  induction q with
  | zero => simp [cubesL]
  | succ q ih =>
    rw [cubesL, List.length_append, Nat.succ_mul]
    have h64 := (pow_six hp).2
    have h1 := cubesAtL_len p q (2 ^ p)
    have h2 : 2 ^ p * 2 ^ p ≤ 64 * 64 := Nat.mul_le_mul h64 h64
    omega
end Go.Proofs.Ytalgbcndifaaiaa.Wd

namespace Go.Proofs.Ytalgbcndifaaiaa.Wd
open Go.RowKit
set_option linter.unusedVariables false

theorem edsV_one (l : List Ed) : ∀ u ∈ edsV l, u.oneCell' = true := by
  intro u hu
  obtain ⟨x, _, hx⟩ := List.mem_flatMap.1 hu
  simp only [edV, List.mem_cons, List.not_mem_nil, or_false] at hx
  rcases hx with rfl | rfl | rfl | rfl | rfl <;> rfl

/-- The cells of edges in memory, one by one. -/
theorem EdgesAt.news {w : World} {b off n : Nat} {es : List Ed} (h : EdgesAt w (some ⟨b, off, none⟩) n es) (hn : 0 < n) : ∀ j u, (edsV es)[j]? = some u → w.cell? ((⟨b, off, none⟩ : Addr).add j) = some u := by
  obtain ⟨b', off', e, hlt, hc⟩ := h.2 hn
  cases e
  intro j u hu
  have hj : j < es.length * 5 := by
    have := (List.getElem?_eq_some_iff.1 hu).1
    rwa [edsV_len] at this
  obtain ⟨q, k, rfl, hk⟩ : ∃ q k, j = q * 5 + k ∧ k < 5 := ⟨j / 5, j % 5, by omega, by omega⟩
  have hq : q < n := by have := h.1; omega
  obtain ⟨c0, c1, c2, c3, c4⟩ := hc q hq
  rw [edsV_at es q k (by omega) hk] at hu
  rw [Addr.add_lit]
  obtain ⟨e0, e1, e2, e3, e4⟩ := edV_at (es.getD q ed0)
  have hk' : k = 0 ∨ k = 1 ∨ k = 2 ∨ k = 3 ∨ k = 4 := by omega
  rcases hk' with rfl | rfl | rfl | rfl | rfl
  · rw [e0] at hu; injection hu with hu; subst hu; exact c0
  · rw [e1] at hu; injection hu with hu; subst hu; exact c1
  · rw [e2] at hu; injection hu with hu; subst hu; exact c2
  · rw [e3] at hu; injection hu with hu; subst hu; exact c3
  · rw [e4] at hu; injection hu with hu; subst hu; exact c4

theorem EdgesAt.of_own {w : World} {B n cap : Nat} {A : Option Addr} {l : List Ed} (h : w.ownsRow B 37 5 (.slice A n cap) n (edsV l)) (hl : l.length = n) : EdgesAt w A n l := by
  refine ⟨hl, fun hn => ?_⟩
  rcases h.2 with ⟨he, h0⟩ | ⟨g, cap', cur, hv, hb, _⟩
  · omega
  · injection hv with hv _ _
    subst hv
    have hg : Value.ownBlock (.slice (some ⟨g, 0, none⟩) n cap) = some g := by simp [Value.ownBlock]
    have hlt := (h.lt g hg).2
    refine ⟨g, 0, rfl, hlt, fun j hj => ?_⟩
    have key : ∀ k, k < 5 → ∀ x, (edV (l.getD j ed0))[k]? = some x → w.cell? ⟨g, 0 + j * 5 + k, none⟩ = some x := fun k hk x hx => by
      have := h.cells hg (j * 5 + k) x (by rw [edsV_at l j k (by omega) hk]; exact hx)
      rw [Addr.add_lit] at this
      simpa using this
    exact ⟨key 0 (by omega) _ rfl, key 1 (by omega) _ rfl, key 2 (by omega) _ rfl, key 3 (by omega) _ rfl, key 4 (by omega) _ rfl⟩

set_option maxRecDepth 100000 in
set_option maxHeartbeats 1600000 in
theorem cloneE_any (A : Option Addr) (n c : Nat) (es : List Ed) (w : World) (h : EdgesAt w A n es) (hn : n ≤ 100000) :
    Calls Try.prog 43 #[.slice A n c] w fun e w' => ∃ v, e = .returned v ∧ w'.ownsRow w.heap.size 37 5 v n (edsV es) ∧ Below w.heap.size w w' := by
  obtain ⟨i0, hi, hi0, hi1, hi2⟩ := info_parts edge_info
  have q22 : ∀ (w : World) (a : Option Addr) (n c n' c' : Nat), (binOp .eql 23 (.slice a n c) (.slice none n' c')).run Try.prog w = .ok (.bool a.isNone) w := fun w a n c n' c' => Lib.run_eql_slice_nil w _ _ a n c n' c' Try.underlying23
  have u22 : ∀ w, Sem.run Try.prog (underlying 23) w = .ok (TypeDesc.slice 37) w := run_underlying Try.underlying23
  cases A with
  | none =>
    obtain rfl : n = 0 := by
      rcases Nat.eq_zero_or_pos n with h0 | h0
      · exact h0
      · obtain ⟨b, off, e, _⟩ := h.2 h0
        cases e
    obtain rfl : es = [] := List.eq_nil_of_length_eq_zero h.1
    go_enter Try.func43, Try.ntmps43
    go_wp2
    go_ret
    exact ⟨_, rfl, ⟨by simp [edsV], .inl ⟨rfl, rfl⟩⟩, Below.refl _ _⟩
  | some a =>
    have hx := h.1
    have HL := Lib.hid (show (edsV es).length = n * 5 by rw [edsV_len, hx])
    have HA : Aside (∀ W : World, (W = w.alloc (.cells #[] 37)) → ∀ j u, (edsV es)[j]? = some u → W.cell? (a.add j) = some u) := by
      rintro W rfl j u hu
      have hn0 : 0 < n := by
        have := (List.getElem?_eq_some_iff.1 hu).1
        rw [edsV_len] at this
        omega
      have h2 := h.below ((Below.refl _ w).alloc (Nat.le_refl _) (.cells #[] 37))
      obtain ⟨b, off, e, hb, hc⟩ := h2.2 hn0
      injection e with e
      subst e
      exact EdgesAt.news h2 hn0 j u hu
    clear h
    go_enter Try.func43, Try.ntmps43
    go_wp2_with (at_builtin; refine wpList_append_cells _ (by rfl) _ _ 23 (by rfl) w.heap.size 37 5 40 i0 _ Try.underlying23 hi hi0 hi1 hi2 rfl (by decide) _ 0 [] (by rfl) (World.ownsRow_made w #[] 0 (Nat.le_refl _) (Nat.zero_le _) rfl) a n c (edsV es) (by rfl) (by exact HL.out) (by exact HA.out _ rfl) (by exact edsV_one es) (by omega) (by decide) (by simp) ?_)
    intro v' w1 hown hgrow _
    go_wp2
    go_ret
    exact ⟨v', rfl, by simpa using hown, ((Below.refl _ w).alloc (Nat.le_refl _) _).grown hgrow (by simp) (by intro k hk; simp [Value.ownBlock] at hk; omega)⟩

end Go.Proofs.Ytalgbcndifaaiaa.Wd

namespace Go.Proofs.Ytalgbcndifaaiaa.Wd
open Go.RowKit

theorem int_info : (Try.prog.info? 3).map (fun i => (i.zero, i.size, i.bytes)) = some (some (.int .i64 0), 1, 8) := by kernel_rfl

set_option maxRecDepth 100000 in
set_option maxHeartbeats 800000 in
theorem clone_any (A : Option Addr) (n c : Nat) (xs : List Int) (w : World) (h : Ints w A n xs) (hn : n ≤ 100000) :
    Calls Try.prog 42 #[.slice A n c] w fun e w' => ∃ v, e = .returned v ∧ w'.ownsRow w.heap.size 3 1 v n (xs.map (Value.int .i64)) ∧ Below w.heap.size w w' := by
  obtain ⟨i0, hi, hz0, hz1, hz2⟩ := info_parts int_info
  have q22 : ∀ (w : World) (a : Option Addr) (n c n' c' : Nat), (binOp .eql 22 (.slice a n c) (.slice none n' c')).run Try.prog w = .ok (.bool a.isNone) w := fun w a n c n' c' => Lib.run_eql_slice_nil w _ _ a n c n' c' Try.underlying22
  have u22 : ∀ w, Sem.run Try.prog (underlying 22) w = .ok (TypeDesc.slice 3) w := run_underlying Try.underlying22
  cases A with
  | none =>
    obtain rfl : n = 0 := by
      rcases Nat.eq_zero_or_pos n with h0 | h0
      · exact h0
      · obtain ⟨b, off, e, _⟩ := h.2 h0
        cases e
    obtain rfl : xs = [] := List.eq_nil_of_length_eq_zero h.1
    go_enter Try.func42, Try.ntmps42
    go_wp2
    go_ret
    exact ⟨_, rfl, ⟨by simp, .inl ⟨rfl, rfl⟩⟩, Below.refl _ _⟩
  | some a =>
    have hx := h.1
    have HA : Aside (∀ W : World, (W = w.alloc (.cells #[] 3)) → ∀ j u, (xs.map (Value.int .i64))[j]? = some u → W.cell? (a.add j) = some u) := by
      rintro W rfl j u hu
      have hj : j < n := by
        have := (List.getElem?_eq_some_iff.1 hu).1
        simp at this; omega
      obtain ⟨b, off, e, hb, hc⟩ := (h.alloc (.cells #[] 3)).at_ hj
      injection e with e
      subst e
      exact Ints.news hx hc j u hu
    clear h
    go_enter Try.func42, Try.ntmps42
    go_wp2_with (at_builtin; refine wpList_append_own _ rfl _ _ 22 rfl w.heap.size 3 i0 (.int .i64 0) 1 8 Try.underlying22 hi hz0 hz1 hz2 rfl (by decide) _ _ _ rfl (World.ownsRow_made w #[] 0 (Nat.le_refl _) (Nat.zero_le _) rfl) a n c (xs.map (Value.int .i64)) rfl ?qc1 ?qc2 ?qc3 ?qc4 ?qc5 ?qc6 ?_)
    case qc1 => simp; omega
    case qc2 => exact HA.out _ rfl
    case qc3 => exact ones xs
    case qc4 => unfold maxLen; omega
    case qc5 => omega
    case qc6 => simp
    intro v' w1 hown hgrow hnil
    go_wp2
    go_ret
    exact ⟨v', rfl, by simpa using hown, ((Below.refl _ w).alloc (Nat.le_refl _) _).grown hgrow (by simp) (by intro k hk; simp [Value.ownBlock] at hk; omega)⟩

/-- The same, the result written as a slice. -/
theorem clone_slice (A : Option Addr) (n c : Nat) (xs : List Int) (w : World) (h : Ints w A n xs) (hn : n ≤ 100000) :
    Calls Try.prog 42 #[.slice A n c] w fun e w' => ∃ A' c', e = .returned (.slice A' n c') ∧ w'.ownsRow w.heap.size 3 1 (.slice A' n c') n (xs.map (Value.int .i64)) ∧ n ≤ c' ∧ Below w.heap.size w w' :=
  (clone_any A n c xs w h hn).mono fun _ _ ⟨v, he, ho, hb⟩ => by
    obtain ⟨A', c', rfl, hc⟩ := own_slice ho
    exact ⟨A', c', he, ho, hc, hb⟩

end Go.Proofs.Ytalgbcndifaaiaa.Wd
