/-
  The edges of the example automaton, state by state.
-/
import Derived.Test.YtfblnadmbfhjiaaAtAgain2
import Derived.Test.YtfblnadmbfhjiaaWdHeld
import Derived.Test.YtfblnadmbfhjiaaWdAppend
namespace Go.Proofs.Ytfblnadmbfhjiaa.Wd
open Go.RowKit
set_option linter.unusedVariables false
set_option linter.unusedSimpArgs false

theorem agL_edge {w : World} {s e : Nat} (h : CellsAt w (agL s e)) {t : Nat} (ht : t < 2) : ∃ y2 y3 y4 : Int, w.cell? ⟨e, t * 5, none⟩ = some (.int .i64 0) ∧ w.cell? ⟨e, t * 5 + 1, none⟩ = some (.int .i64 0) ∧ w.cell? ⟨e, t * 5 + 2, none⟩ = some (.int .i64 y2) ∧ w.cell? ⟨e, t * 5 + 3, none⟩ = some (.int .i64 y3) ∧ w.cell? ⟨e, t * 5 + 4, none⟩ = some (.int .i64 y4) := by
  obtain ⟨_, _, ⟨a0, a1, a2, a3, a4⟩, b0, b1, b2, b3, b4⟩ := agL_out h
  have h2 : t = 0 ∨ t = 1 := by omega
  rcases h2 with rfl | rfl
  · exact ⟨1, 1, 1, a0, a1, a2, a3, a4⟩
  · exact ⟨1, 0, 0, b0, b1, b2, b3, b4⟩

theorem int_row : (Try.prog.info? 3).map (fun i => (i.zero, i.size, i.bytes)) = some (some (.int .i64 0), 1, 8) := by kernel_rfl

theorem own_keep {w w' : World} {base e size n : Nat} {v : Value} {xs : List Value} (h : w.ownsRow base e size v n xs) (hb : Below w.heap.size w w') : w'.ownsRow base e size v n xs :=
  h.kept (row := none) ⟨hb.os, hb.tape, hb.output, hb.size, fun j hj _ => hb.block j hj⟩ (by cases hv : v.ownBlock <;> simp)
theorem own_apart0 {w : World} {B e n g : Nat} {v : Value} {xs : List Value} (h : w.ownsRow B e 1 v n xs) (hg : w.heap.size ≤ g) : some g ≠ v.ownBlock := by
  intro he
  rcases h.2 with ⟨rfl, _⟩ | ⟨b, cap, cur, rfl, h1, hgg, _⟩
  · cases he
  · cases he
    exact Nat.lt_irrefl _ (Nat.lt_of_lt_of_le (Array.getElem?_eq_some_iff.1 hgg).1 hg)
theorem one_new (w : World) (g : Nat) (hg : w.heap.size = g) (x : Int) (t : TypeId) : Ints (w.alloc (.cells #[.int .i64 x] t)).drew (some ⟨g, 0, none⟩) 1 [x] := by
  subst hg
  exact ⟨rfl, fun _ => ⟨w.heap.size, 0, rfl, by simp, fun j hj => by
    obtain rfl : j = 0 := by omega
    show World.cell? (w.alloc _) _ = _
    rw [box_last]
    rfl⟩⟩

def upL (k : Nat) : List Int := (List.range k).map fun (j : Nat) => (j : Int)
theorem upL_snoc (k : Nat) : upL (k + 1) = upL k ++ [(k : Int)] := by simp [upL, List.range_succ]

set_option maxRecDepth 100000 in
set_option maxHeartbeats 4000000 in
theorem outgoing_ag (s e : Nat) (w : World) (h : CellsAt w (agL s e)) : Calls Try.prog 62 #[agV s e] w fun r w' =>
    ∃ o g c, r = .returned (.slice (some ⟨o, 0, none⟩) 1 1) ∧ w.heap.size ≤ o ∧ CellsAt w' [(⟨o, 0, none⟩, .slice (some ⟨g, 0, none⟩) 2 c), (⟨g, 0, none⟩, .int .i64 0), (⟨g, 1, none⟩, .int .i64 1)] ∧ Below w.heap.size w w' := by
  obtain ⟨i0, hi, hi0, hi1, hi2⟩ := info_parts int_row
  have hmk : ∀ w : World, (Instr.makeSlice 95 (.int .i64 1) (.int .i64 1)).run Try.prog w = .ok (.slice (some ⟨w.heap.size, 0, none⟩) 1 1) (w.alloc (.cells #[.slice none 0 0] 22)) := fun _ => by kernel_rfl
  have HL := Lib.hid h
  clear h
  unfold agV
  go_enter Try.func62, Try.ntmps62
  go_wp2_with fail
  have hX0 : ∀ X : World, X.heap.size = w.heap.size + 1 → True := fun _ _ => trivial
  go_loopg [12] 2 (fun g i wx => ∃ (t : Nat) (v : Value), t + g = 2 ∧ i = .int .i64 t ∧ Hid (wx.ownsRow (w.heap.size + 2) 3 1 v t ((upL t).map (Value.int .i64))) ∧ Hid (wx.cell? ⟨w.heap.size + 1, 0, none⟩ = some v ∧ wx.frozen? ⟨w.heap.size + 1, 0, none⟩ = false ∧ w.heap.size + 2 ≤ wx.heap.size) ∧ Below w.heap.size w wx)
  case atStart =>
    refine ⟨0, .slice none 0 0, by omega, rfl, World.ownsRow_nil _ _ _ _, ⟨?_, ?_, ?_⟩, ((Below.refl _ _).alloc (Nat.le_refl _) _).alloc (by simp) _⟩
    · simp
    · simp
    · simp
  case round =>
    obtain ⟨t, v, htg, rfl, HO, HV, hbx⟩ := hrel
    cases gk with
    | zero =>
      obtain rfl : t = 2 := by omega
      obtain ⟨A, c, rfl, hcc⟩ := own_slice HO.out
      obtain ⟨g, cap, hv1, hv2, hlt⟩ := HO.out.form (by omega)
      have hA : A = some ⟨g, 0, none⟩ := by injection hv1
      subst hA
      have hq0 := HO.out.cells (g := g) rfl 0 (.int .i64 0) (by simp [upL])
      have hq1 := HO.out.cells (g := g) rfl 1 (.int .i64 1) (by simp [upL])
      rw [Addr.add_lit] at hq0 hq1
      have HCS := Lib.hid (show CellsAt wr [(⟨w.heap.size + 1, 0, none⟩, .slice (some ⟨g, 0, none⟩) 2 c), (⟨g, 0, none⟩, .int .i64 0), (⟨g, 1, none⟩, .int .i64 1)] by
        intro p hp
        simp only [List.mem_cons, List.not_mem_nil, or_false] at hp
        rcases hp with rfl | rfl | rfl
        · exact ⟨by have := HV.out.2.2; show w.heap.size + 1 < _; omega, HV.out.1⟩
        · exact ⟨hlt, by simpa using hq0⟩
        · exact ⟨hlt, by simpa using hq1⟩)
      clear hv1 hq0 hq1 hX0
      go_wp2_with fail
      go_ret
      exact ⟨w.heap.size + 1, rfl, by omega, ⟨g, c, HCS.out⟩, hbx⟩
    | succ g =>
      have hti : (0 : Int) ≤ (t : Int) := by omega
      have hti2 : (t : Int) < 2 := by omega
      have ht2 : t < 2 := by omega
      obtain ⟨y2, y3, y4, e0, e1, e2, e3, e4⟩ := agL_edge (HL.out.below hbx) ht2
      have hv := HV.out.1
      have hfz := HV.out.2.1
      have hzz := HV.out.2.2
      have hz0 : w.heap.size + 1 < wr.heap.size := by omega
      clear hX0
      go_wp2_with fail
      have HBA := Lib.hid (show Below wr.heap.size wr ((wr.alloc (.cells #[.int .i64 0, .int .i64 0, .int .i64 y2, .int .i64 y3, .int .i64 y4] 54)).alloc (.cells #[.int .i64 (t : Int)] 3)).drew from (((Below.refl _ _).alloc (Nat.le_refl _) _).alloc (by simp) _).drew)
      refine wp_region_until_drew (st := [12]) (S := fun V => V.cell? ⟨wr.heap.size, 0, none⟩ = some (.int .i64 0) ∧ V.cell? ⟨w.heap.size + 1, 0, none⟩ = some v) (by kernel_rfl) ⟨by show World.cell? (wr.alloc _) _ = _; rw [box_last]; rfl, by show World.cell? (wr.alloc _) _ = _; rw [Below.cell ((Below.refl wr.heap.size wr).alloc (Nat.le_refl _) _) hz0]; exact hv⟩ (fun hHeld => ?_)
      refine wpAnyU_pure (i := 0) (v := ?vo0) rfl (by kernel_rfl) (by kernel_rfl) (by kernel_rfl) (by kernel_rfl) (fun _ _ _ h => h) (Or.inl ⟨by rfl, fun V _ => ?hyo0⟩) (fun _ => hHeld) ?resto0
      case hyo0 => go_simp; try with_reducible rfl
      try simp only [Act.put, List.getElem_toArray, List.getElem_cons_zero, List.getElem_cons_succ, List.setIfInBounds_toArray, List.set_cons_zero, List.set_cons_succ]
      refine wpAnyU_pure (i := 1) (v := ?vo1) rfl (by kernel_rfl) (by kernel_rfl) (by kernel_rfl) (by kernel_rfl) (fun _ _ _ h => h) (Or.inl ⟨by rfl, fun V _ => ?hyo1⟩) (fun _ => hHeld) ?resto1
      case hyo1 => go_simp; try with_reducible rfl
      try simp only [Act.put, List.getElem_toArray, List.getElem_cons_zero, List.getElem_cons_succ, List.setIfInBounds_toArray, List.set_cons_zero, List.set_cons_succ]
      refine wpAnyU_load (i := 2) (v := ?vo2) rfl (by kernel_rfl) (by kernel_rfl) (by kernel_rfl) (by kernel_rfl) (fun _ _ _ h => h) (Or.inl ⟨by rfl, fun V hSw => ?hyo2⟩) hHeld ?resto2
      case hyo2 => (obtain ⟨hs1, hs2⟩ := hSw); go_simp; try with_reducible rfl
      try simp only [Act.put, List.getElem_toArray, List.getElem_cons_zero, List.getElem_cons_succ, List.setIfInBounds_toArray, List.set_cons_zero, List.set_cons_succ]
      refine wpAnyU_pure (i := 3) (v := ?vo3) rfl (by kernel_rfl) (by kernel_rfl) (by kernel_rfl) (by kernel_rfl) (fun _ _ _ h => h) (Or.inl ⟨by rfl, fun V _ => ?hyo3⟩) (fun _ => hHeld) ?resto3
      case hyo3 => go_simp; try with_reducible rfl
      try simp only [Act.put, List.getElem_toArray, List.getElem_cons_zero, List.getElem_cons_succ, List.setIfInBounds_toArray, List.set_cons_zero, List.set_cons_succ]
      refine wpAnyU_pure (i := 4) (v := ?vo4) rfl (by kernel_rfl) (by kernel_rfl) (by kernel_rfl) (by kernel_rfl) (fun _ _ _ h => h) (Or.inl ⟨by rfl, fun V _ => ?hyo4⟩) (fun _ => hHeld) ?resto4
      case hyo4 => go_simp; try with_reducible rfl
      try simp only [Act.put, List.getElem_toArray, List.getElem_cons_zero, List.getElem_cons_succ, List.setIfInBounds_toArray, List.set_cons_zero, List.set_cons_succ]
      refine wpAnyU_load (i := 5) (v := ?vo5) rfl (by kernel_rfl) (by kernel_rfl) (by kernel_rfl) (by kernel_rfl) (fun _ _ _ h => h) (Or.inl ⟨by rfl, fun V hSw => ?hyo5⟩) hHeld ?resto5
      case hyo5 => (obtain ⟨hs1, hs2⟩ := hSw); go_simp; try with_reducible rfl
      try simp only [Act.put, List.getElem_toArray, List.getElem_cons_zero, List.getElem_cons_succ, List.setIfInBounds_toArray, List.set_cons_zero, List.set_cons_succ]
      refine wpAnyU_pure (i := 6) (v := ?vo6) rfl (by kernel_rfl) (by kernel_rfl) (by kernel_rfl) (by kernel_rfl) (fun _ _ _ h => h) (Or.inl ⟨by rfl, fun V _ => ?hyo6⟩) (fun _ => hHeld) ?resto6
      case hyo6 => go_simp; try with_reducible rfl
      try simp only [Act.put, List.getElem_toArray, List.getElem_cons_zero, List.getElem_cons_succ, List.setIfInBounds_toArray, List.set_cons_zero, List.set_cons_succ]
      refine wpAnyU_load (i := 7) (v := ?vo7) rfl (by kernel_rfl) (by kernel_rfl) (by kernel_rfl) (by kernel_rfl) (fun _ _ _ h => h) (Or.inl ⟨by rfl, fun V hSw => ?hyo7⟩) hHeld ?resto7
      case hyo7 => (obtain ⟨hs1, hs2⟩ := hSw); go_simp; try with_reducible rfl
      try simp only [Act.put, List.getElem_toArray, List.getElem_cons_zero, List.getElem_cons_succ, List.setIfInBounds_toArray, List.set_cons_zero, List.set_cons_succ]
      refine wpAnyU_pure (i := 8) (v := ?vo8) rfl (by kernel_rfl) (by kernel_rfl) (by kernel_rfl) (by kernel_rfl) (fun _ _ _ h => h) (Or.inl ⟨by rfl, fun V _ => ?hyo8⟩) (fun _ => hHeld) ?resto8
      case hyo8 => go_simp; try with_reducible rfl
      try simp only [Act.put, List.getElem_toArray, List.getElem_cons_zero, List.getElem_cons_succ, List.setIfInBounds_toArray, List.set_cons_zero, List.set_cons_succ]
      refine wpAnyU_ready (rs := [9]) (by kernel_rfl) (by simp) (AllU.cons (i := 9) rfl (fun K hK => ?_) AllU.nil)
      simp only [List.getElem_toArray, List.getElem_cons_zero, List.getElem_cons_succ]
      go_simp
      refine hK.out _ _ (fun _ => ⟨?se, (HBA.out.cell (p := ⟨w.heap.size + 1, 0, none⟩) hz0).trans hv⟩) ?re
      case se => exact (box_first wr #[.int .i64 0, .int .i64 0, .int .i64 y2, .int .i64 y3, .int .i64 y4] 54 (.cells #[.int .i64 (t : Int)] 3) 0)
      clear hK K
      try simp only [Act.put, List.getElem_toArray, List.getElem_cons_zero, List.getElem_cons_succ, List.setIfInBounds_toArray, List.set_cons_zero, List.set_cons_succ]
      refine wpAnyU_ready (rs := [10]) (by kernel_rfl) (by simp) (AllU.cons (i := 10) rfl (fun K hK => ?_) AllU.nil)
      have hown0 := own_keep HO.out HBA.out
      have hbase : w.heap.size + 2 ≤ ((wr.alloc (.cells #[.int .i64 0, .int .i64 0, .int .i64 y2, .int .i64 y3, .int .i64 y4] 54)).alloc (.cells #[.int .i64 (t : Int)] 3)).drew.heap.size := Nat.le_trans hzz HBA.out.size
      refine step_append_ints _ (by rfl) _ _ _ (by rfl) (w.heap.size + 2) 3 i0 _ Try.underlying22 hi hi0 hi1 hi2 rfl v t ((upL t).map (Value.int .i64)) (by rfl) (by exact hown0) (some ⟨wr.heap.size + 1, 0, none⟩) 1 1 [(t : Int)] (by rfl) (by exact one_new (wr.alloc (.cells #[.int .i64 0, .int .i64 0, .int .i64 y2, .int .i64 y3, .int .i64 y4] 54)) (wr.heap.size + 1) (by simp) t _) (by omega) (by exact hbase) ?_
      intro v' w2 hown hgrow hat
      obtain ⟨A', c', hve, hcc⟩ := own_slice hown
      rw [hve] at hown hat ⊢
      have hb2 := below_own hown0 hgrow hbase
      have HB2 := Lib.hid hb2
      have HOW := Lib.hid hown
      have hc2 : w2.cell? ⟨w.heap.size + 1, 0, none⟩ = some v := (hb2.cell (p := ⟨w.heap.size + 1, 0, none⟩) (by simp)).trans ((HBA.out.cell (p := ⟨w.heap.size + 1, 0, none⟩) hz0).trans hv)
      have hf2 : w2.frozen? ⟨w.heap.size + 1, 0, none⟩ = false := (hb2.frozen (p := ⟨w.heap.size + 1, 0, none⟩) (by simp)).trans ((HBA.out.frozen (p := ⟨w.heap.size + 1, 0, none⟩) hz0).trans hfz)
      have he2 : w2.cell? ⟨wr.heap.size, 0, none⟩ = some (.int .i64 0) := (hgrow.cell_far ⟨wr.heap.size, 0, none⟩ (by simp; omega) (own_apart0 HO.out (Nat.le_refl _))).trans (box_first wr #[.int .i64 0, .int .i64 0, .int .i64 y2, .int .i64 y3, .int .i64 y4] 54 (.cells #[.int .i64 (t : Int)] 3) 0)
      clear hve hown0 hown hgrow hat hb2 hHeld
      have hHeld := And.intro he2 hc2
      refine hK.out _ _ (fun _ => hHeld) ?_
      clear hK K
      try simp only [Act.put, List.getElem_toArray, List.getElem_cons_zero, List.getElem_cons_succ, List.setIfInBounds_toArray, List.set_cons_zero, List.set_cons_succ]
      refine wpAnyU_pure (i := 11) (v := ?vq11) rfl (by kernel_rfl) (by kernel_rfl) (by kernel_rfl) (by kernel_rfl) (fun _ _ _ h => h) (Or.inl ⟨by rfl, fun V _ => ?hyq11⟩) (fun _ => hHeld) ?restq11
      case hyq11 => go_simp; try with_reducible rfl
      try simp only [Act.put, List.getElem_toArray, List.getElem_cons_zero, List.getElem_cons_succ, List.setIfInBounds_toArray, List.set_cons_zero, List.set_cons_succ]
      refine wpAnyU_ready (rs := [12]) (by kernel_rfl) (by simp) (AllU.cons (i := 12) rfl (fun K hK => ?_) AllU.nil)
      simp only [List.getElem_toArray, List.getElem_cons_zero, List.getElem_cons_succ]
      go_simp
      refine hK.out _ _ (fun h => by have h2 : false = true := h; cases h2) ?_
      clear hK K
      try simp only [Act.put, List.getElem_toArray, List.getElem_cons_zero, List.getElem_cons_succ, List.setIfInBounds_toArray, List.set_cons_zero, List.set_cons_succ]
      refine wpAnyU_done (by kernel_rfl) ?_ _
      clear hHeld
      go_wp2_with fail
      go_roundg g
      case measure => omega
      case rel =>
        refine ⟨t + 1, .slice A' (t + 1) c', by omega, by go_num, ?_, ⟨?_, ?_, ?_⟩, ?_⟩
        · show World.ownsRow _ _ _ _ _ _ _
          rw [upL_snoc, List.map_append]
          exact ownsRow_setCell_below HOW.out (by show w.heap.size + 1 < w.heap.size + 2; omega) _
        · exact World.cell?_setCell_same w2 _ _ hc2
        · rw [World.frozen?_setCell]; exact hf2
        · have := Nat.le_trans hbase HB2.out.size; simpa using this
        · exact ((hbx.trans (HBA.out.mono hbx.size)).trans (HB2.out.mono (by omega))).setCell (p := ⟨w.heap.size + 1, 0, none⟩) (by simp) _

end Go.Proofs.Ytfblnadmbfhjiaa.Wd
