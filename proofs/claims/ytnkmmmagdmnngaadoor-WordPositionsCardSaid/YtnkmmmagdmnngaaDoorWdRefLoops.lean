/-
  Loops of the reference.
-/
import Derived.Test.YtnkmmmagdmnngaaDoorWdLoops
namespace Go.Proofs.YtnkmmmagdmnngaaDoor.Wd
open Go.RowKit
set_option linter.unusedVariables false

set_option maxRecDepth 100000 in
set_option maxHeartbeats 1000000 in
theorem refLoops_early (A B : Option Addr) (n c m d : Nat) (s l : List Int) (k : Int) (w : World) (ha : Ints w A n s) (hb : Ints w B m l) (h1 : n + m ≤ 100000) (he : validB 6 s l = false ∨ k < 1 ∨ 200 < k) :
    Calls Tryd.prog 22 #[.agg #[.slice A n c, .slice B m d], .int .i64 k] w fun e w' => Res w w' (OutL s l k) (codeL s l k) e := by
  have hn : n ≤ 100000 := by omega
  have hm : m ≤ 100000 := by omega
  have HC := Lib.hid (fun W hW hW' => is_any A B n c m d s l W hW hW' hn hm)
  have HX := Lib.hid ha.1
  have HY := Lib.hid hb.1
  cases hv : validB 6 s l
  · have HV := Lib.hid hv
    clear hv h1 he
    go_enter Tryd.func22, Tryd.ntmps22
    go_wp2_with fail
    refine (HC.out _ ((ha.alloc _).alloc _) ((hb.alloc _).alloc _)).mono ?_
    rintro e w1 ⟨rfl, hb1⟩
    rw [HV.out]
    obtain ⟨hc, hf⟩ := bcell hb1
    have hz : w.heap.size + 1 < w1.heap.size := by have := hb1.size; simp at this; omega
    go_wp2_with fail
    refine bodyPost_ret (v := .tuple #[.agg #[.slice none 0 0, .slice none 0 0], .int .i64 1]) (by simp [results, Tryd.results22, go_sem, hc]) rfl ?_
    exact resL_bad ((((((Below.refl _ _).alloc (Nat.le_refl _) _).alloc (by simp) _).trans (hb1.mono (by simp; omega))).setCell (by simp) _).setCell (by simp) _) (okL_v HV.out).1 (okL_v HV.out).2
  · have HV := Lib.hid hv
    have hm0 : 0 < m := by have := valid6 hv; have := HY.out; omega
    by_cases hk : k < 1
    · clear hv h1 he
      go_enter Tryd.func22, Tryd.ntmps22
      go_wp2_with fail
      refine (HC.out _ ((ha.alloc _).alloc _) ((hb.alloc _).alloc _)).mono ?_
      rintro e w1 ⟨rfl, hb1⟩
      rw [HV.out]
      obtain ⟨hc, hf⟩ := bcell hb1
      have hz : w.heap.size + 1 < w1.heap.size := by have := hb1.size; simp at this; omega
      go_wp2_with fail
      refine bodyPost_ret (v := .tuple #[.agg #[.slice none 0 0, .slice none 0 0], .int .i64 6]) (by simp [results, Tryd.results22, go_sem, hc]) rfl ?_
      exact resL_bad ((((((Below.refl _ _).alloc (Nat.le_refl _) _).alloc (by simp) _).trans (hb1.mono (by simp; omega))).setCell (by simp) _).setCell (by simp) _) (okL_k HV.out hk).1 (okL_k HV.out hk).2
    · have hk2 : 200 < k := by
        rcases he with h | h | h
        · rw [hv] at h; cases h
        · omega
        · exact h
      have hfull : ¬ (s.length : Int) + k * l.length ≤ 200 := by
        rw [HX.out, HY.out]
        have : k * 1 ≤ k * (m : Int) := Int.mul_le_mul_of_nonneg_left (by omega) (by omega)
        omega
      have HF := Lib.hid hfull
      clear hv h1 he hfull
      go_enter Tryd.func22, Tryd.ntmps22
      go_wp2_with fail
      refine (HC.out _ ((ha.alloc _).alloc _) ((hb.alloc _).alloc _)).mono ?_
      rintro e w1 ⟨rfl, hb1⟩
      rw [HV.out]
      obtain ⟨hc, hf⟩ := bcell hb1
      have hz : w.heap.size + 1 < w1.heap.size := by have := hb1.size; simp at this; omega
      go_wp2_with fail
      refine bodyPost_ret (v := .tuple #[.agg #[.slice none 0 0, .slice none 0 0], .int .i64 3]) (by simp [results, Tryd.results22, go_sem, hc]) rfl ?_
      exact resL_bad ((((((Below.refl _ _).alloc (Nat.le_refl _) _).alloc (by simp) _).trans (hb1.mono (by simp; omega))).setCell (by simp) _).setCell (by simp) _) (okL_full HV.out (by omega) (Int.not_le.mpr HF.out)).1 (okL_full HV.out (by omega) (Int.not_le.mpr HF.out)).2

set_option maxRecDepth 100000 in
set_option maxHeartbeats 1000000 in
theorem refLoops_else (A B : Option Addr) (n c m d : Nat) (s l : List Int) (k : Nat) (w : World) (ha : Ints w A n s) (hb : Ints w B m l) (h1 : n + m ≤ 100000) (hnc : n ≤ c) (hmd : m ≤ d) (hv : validB 6 s l = true) (hk : 1 ≤ k) (hk2 : k ≤ 200) :
    Calls Tryd.prog 22 #[.agg #[.slice A n c, .slice B m d], .int .i64 k] w fun e w' => Res w w' (OutL s l k) (codeL s l k) e := by
  obtain ⟨i0, hi, hi0, hi1, hi2⟩ := info_parts int_info
  have hn : n ≤ 100000 := by omega
  have hm : m ≤ 100000 := by omega
  have HC := Lib.hid (fun W hW hW' => is_any A B n c m d s l W hW hW' hn hm)
  have e1 := ha.1
  have e2 := hb.1
  have hm0 : 0 < m := by have := valid6 hv; omega
  have hn2 : n ≤ 200 := by have := valid6 hv; omega
  have hm2 : m ≤ 200 := by have := valid6 hv; omega
  have HV := Lib.hid hv
  have HX := Lib.hid e1
  have HY := Lib.hid e2
  obtain ⟨P, hP⟩ : ∃ P, k * m = P := ⟨_, rfl⟩
  have hP2 : P ≤ 40000 := by rw [← hP]; exact Nat.mul_le_mul hk2 hm2
  have HP := Lib.hid hP
  have g1 : (k : Int) * (m : Int) = (P : Int) := by rw [← hP]; simp
  have g2 : IntKind.i64.wrap (P : Int) = (P : Int) := IntWalk.i64_in _ (by omega)
  have g3 : IntKind.i64.wrap ((n : Int) + P) = (n : Int) + P := IntWalk.i64_in _ (by omega)
  clear hP hv h1 e1 e2
  have hd0 : decide ((k : Int) < 1) = false := by simp; omega
  have hd1 : decide ((200 : Int) < (k : Int)) = false := by simp; omega
  by_cases hqk : 200 < n + P
  · have hd2 : decide ((200 : Int) < (n : Int) + P) = true := by simp; omega
    have HF := Lib.hid (show ¬ (s.length : Int) + (k : Int) * l.length ≤ 200 by rw [HX.out, HY.out, g1]; omega)
    go_enter Tryd.func22, Tryd.ntmps22
    go_wp2_with fail
    refine (HC.out _ ((ha.alloc _).alloc _) ((hb.alloc _).alloc _)).mono ?_
    rintro e w1 ⟨rfl, hb1⟩
    rw [HV.out]
    obtain ⟨hc, hf⟩ := bcell hb1
    have hz : w.heap.size + 1 < w1.heap.size := by have := hb1.size; simp at this; omega
    go_wp2_with fail
    refine bodyPost_ret (v := .tuple #[.agg #[.slice none 0 0, .slice none 0 0], .int .i64 3]) (by simp [results, Tryd.results22, go_sem, hc]) rfl ?_
    exact resL_bad ((((((Below.refl _ _).alloc (Nat.le_refl _) _).alloc (by simp) _).trans (hb1.mono (by simp; omega))).setCell (by simp) _).setCell (by simp) _) (okL_full HV.out (by omega) (Int.not_le.mpr HF.out)).1 (okL_full HV.out (by omega) (Int.not_le.mpr HF.out)).2
  · have hd2 : decide ((200 : Int) < (n : Int) + P) = false := by simp; omega
    have HG := Lib.hid (show (s.length : Int) + (k : Int) * l.length ≤ 200 by rw [HX.out, HY.out, g1]; omega)
    go_enter Tryd.func22, Tryd.ntmps22
    go_wp2_with fail
    refine (HC.out _ ((ha.alloc _).alloc _) ((hb.alloc _).alloc _)).mono ?_
    rintro e w1 ⟨rfl, hb1⟩
    rw [HV.out]
    obtain ⟨hc, hf⟩ := bcell hb1
    have hz : w.heap.size + 1 < w1.heap.size := by have := hb1.size; simp at this; omega
    have hz0 : w.heap.size < w1.heap.size := by omega
    have p0 : w1.cell? ⟨w.heap.size, 0, none⟩ = some (.slice A n c) := by rw [hc _ _ (by simp; omega)]; simp [go_sem]
    have p1 : w1.cell? ⟨w.heap.size, 1, none⟩ = some (.slice B m d) := by rw [hc _ _ (by simp; omega)]; simp [go_sem]
    have q0 : w1.cell? ⟨w.heap.size + 1, 0, none⟩ = some (.slice none 0 0) := by rw [hc _ _ (by simp)]; simp [go_sem]
    have q1 : w1.cell? ⟨w.heap.size + 1, 1, none⟩ = some (.slice none 0 0) := by rw [hc _ _ (by simp)]; simp [go_sem]
    have q2 : w1.frozen? ⟨w.heap.size + 1, 0, none⟩ = false := by rw [hf _ _ (by simp)]; simp [go_sem]
    have q3 : w1.frozen? ⟨w.heap.size + 1, 1, none⟩ = false := by rw [hf _ _ (by simp)]; simp [go_sem]
    have hbw : Below w.heap.size w w1 := (((Below.refl _ _).alloc (Nat.le_refl _) _).alloc (by simp) _).trans (hb1.mono (by simp; omega))
    clear hc hf
    go_wp2_with fail
    obtain ⟨g, hg⟩ : ∃ g, w1.heap.size = g := ⟨_, rfl⟩
    have HGS := Lib.hid hg
    have o0 : (w1.alloc (.cells #[.slice A n c, .slice none 0 0] 24)).cell? ⟨g, 0, none⟩ = some (.slice A n c) := by rw [← hg, box_last]; rfl
    have o1 : (w1.alloc (.cells #[.slice A n c, .slice none 0 0] 24)).cell? ⟨g, 1, none⟩ = some (.slice none 0 0) := by rw [← hg, box_last]; rfl
    have o2 : (w1.alloc (.cells #[.slice A n c, .slice none 0 0] 24)).frozen? ⟨g, 0, none⟩ = false := by rw [← hg, box_last_free]
    have o3 : (w1.alloc (.cells #[.slice A n c, .slice none 0 0] 24)).frozen? ⟨g, 1, none⟩ = false := by rw [← hg, box_last_free]
    have hal : Below w1.heap.size w1 (w1.alloc (.cells #[.slice A n c, .slice none 0 0] 24)) := (Below.refl _ _).alloc (Nat.le_refl _) _
    have hsz : g + 1 = (w1.alloc (.cells #[.slice A n c, .slice none 0 0] 24)).heap.size := by simp [hg]
    rw [hg]
    generalize w1.alloc (.cells #[.slice A n c, .slice none 0 0] 24) = W at *
    have hbW : Below w.heap.size w W := hbw.trans (hal.mono (by omega))
    have p0' : W.cell? ⟨w.heap.size, 0, none⟩ = some (.slice A n c) := by rw [hal.cell (by simpa using hz0)]; exact p0
    have p1' : W.cell? ⟨w.heap.size, 1, none⟩ = some (.slice B m d) := by rw [hal.cell (by simpa using hz0)]; exact p1
    have q0' : W.cell? ⟨w.heap.size + 1, 0, none⟩ = some (.slice none 0 0) := by rw [hal.cell (by simpa using hz)]; exact q0
    have q1' : W.cell? ⟨w.heap.size + 1, 1, none⟩ = some (.slice none 0 0) := by rw [hal.cell (by simpa using hz)]; exact q1
    have q2' : W.frozen? ⟨w.heap.size + 1, 0, none⟩ = false := by rw [hal.frozen (by simpa using hz)]; exact q2
    have q3' : W.frozen? ⟨w.heap.size + 1, 1, none⟩ = false := by rw [hal.frozen (by simpa using hz)]; exact q3
    have hgz : w.heap.size + 1 < g := by omega
    have HA := Lib.hid ha
    have HB := Lib.hid hb
    have HROOM : Hid (∀ j, j ≤ k → (rep l j).length ≤ 200 ∧ (rep l (j + 1)).length = (rep l j).length + m) := fun j hj => by
      refine ⟨?_, by simp only [rep, List.length_append, HY.out]⟩
      rw [rep_length, HY.out]
      have := Nat.mul_le_mul_right m hj
      have := HP.out
      omega
    clear hal hbw p0 p1 q0 q1 q2 q3 hz hz0 hb1 ha hb hg
    have HSZ := Lib.hid hsz
    clear hsz
    go_loopg [36] k (fun gg i wx => ∃ (j : Nat) (v : Value), j + gg = k ∧ i = .int .i64 j ∧ g + 1 ≤ wx.heap.size ∧
      (wx.cell? ⟨w.heap.size, 0, none⟩ = some (.slice A n c) ∧ wx.cell? ⟨w.heap.size, 1, none⟩ = some (.slice B m d) ∧ wx.cell? ⟨w.heap.size + 1, 0, none⟩ = some (.slice none 0 0) ∧ wx.cell? ⟨w.heap.size + 1, 1, none⟩ = some (.slice none 0 0)) ∧
      (wx.frozen? ⟨w.heap.size + 1, 0, none⟩ = false ∧ wx.frozen? ⟨w.heap.size + 1, 1, none⟩ = false) ∧
      (wx.cell? ⟨g, 0, none⟩ = some (.slice A n c) ∧ wx.cell? ⟨g, 1, none⟩ = some v ∧ wx.frozen? ⟨g, 0, none⟩ = false ∧ wx.frozen? ⟨g, 1, none⟩ = false) ∧
      Hid (wx.ownsRow (g + 1) 3 1 v (rep l j).length ((rep l j).map (Value.int .i64))) ∧ Below w.heap.size w wx)
    case atStart => exact ⟨0, .slice none 0 0, by omega, rfl, by have := HSZ.out; omega, ⟨p0', p1', q0', q1'⟩, ⟨q2', q3'⟩, ⟨o0, o1, o2, o3⟩, World.ownsRow_nil _ _ _ _, hbW⟩
    case round =>
      obtain ⟨j, v, hjg, rfl, hsz2, ⟨x0, x1, y0, y1⟩, ⟨y2, y3⟩, ⟨v0, v1, v2, v3⟩, HO, hbx⟩ := hrel
      clear p0' p1' q0' q1' q2' q3' o0 o1 o2 o3
      cases gk with
      | zero =>
        obtain rfl : j = k := by omega
        obtain ⟨B2, c2, hv2, hc2⟩ := own_slice HO.out
        subst hv2
        have hi2 := Ints.of_own HO.out
        have hi1 := HA.out.below hbx
        have HLEN := Lib.hid (show (rep l j).length ≤ 200 from (HROOM.out j (Nat.le_refl _)).1)
        clear HO
        generalize hlen : (rep l j).length = nl at *
        clear hlen
        go_wp2_with fail
        refine bodyPost_ret (v := .tuple #[.agg #[.slice A n c, .slice B2 nl c2], .int .i64 0]) (by simp [results, Tryd.results22, go_sem, y0, y1]) rfl ?_
        have r1' := (World.cell?_setCell_other wr ⟨w.heap.size + 1, 0, none⟩ ⟨w.heap.size + 1, 1, none⟩ (.slice A n c) (by simp)).trans y1
        rw [(okL_good HV.out (by omega) HG.out).2]
        refine ⟨A, n, c, B2, nl, c2, s, rep l j, rfl, ⟨(hi1.set y0 (by simp) _).set r1' (by simp) _, (hi2.set y0 (by simp) _).set r1' (by simp) _, hnc, hc2⟩, ⟨?_, ?_, ?_⟩, ?_⟩
        · unfold OutL; rw [if_pos (okL_good HV.out (by omega) HG.out).1]; exact ⟨rfl, rfl⟩
        · rw [HX.out]; omega
        · have := (HROOM.out j (Nat.le_refl _)).1; omega
        · exact (hbx.setCell (by simp) _).setCell (by simp) _
      | succ gg =>
        have hjk : j < k := by omega
        go_wp2_with (at_builtin; refine wpList_append_ints _ (by rfl) _ _ 22 (by rfl) (g + 1) 3 i0 _ Tryd.underlying22 hi hi0 hi1 hi2 rfl v (rep l j).length ((rep l j).map (Value.int .i64)) (by rfl) HO.out B m d l (by rfl) (by exact HB.out.below hbx) (by have := (HROOM.out j (by omega)).1; omega) hsz2 ?_)
        intro v' w' hown hgrow _
        obtain ⟨B3, c3, hv3, hc3⟩ := own_slice hown
        subst hv3
        have HO' := Lib.hid hown
        have hk : Below (g + 1) wr w' := below_own HO.out hgrow hsz2
        have x0' : w'.cell? ⟨w.heap.size, 0, none⟩ = some (.slice A n c) := by rw [hk.cell (by simp; omega)]; exact x0
        have x1' : w'.cell? ⟨w.heap.size, 1, none⟩ = some (.slice B m d) := by rw [hk.cell (by simp; omega)]; exact x1
        have y0' : w'.cell? ⟨w.heap.size + 1, 0, none⟩ = some (.slice none 0 0) := by rw [hk.cell (by simp; omega)]; exact y0
        have y1' : w'.cell? ⟨w.heap.size + 1, 1, none⟩ = some (.slice none 0 0) := by rw [hk.cell (by simp; omega)]; exact y1
        have y2' : w'.frozen? ⟨w.heap.size + 1, 0, none⟩ = false := by rw [hk.frozen (by simp; omega)]; exact y2
        have y3' : w'.frozen? ⟨w.heap.size + 1, 1, none⟩ = false := by rw [hk.frozen (by simp; omega)]; exact y3
        have v0' : w'.cell? ⟨g, 0, none⟩ = some (.slice A n c) := by rw [hk.cell (by simp)]; exact v0
        have v1' : w'.cell? ⟨g, 1, none⟩ = some v := by rw [hk.cell (by simp)]; exact v1
        have v2' : w'.frozen? ⟨g, 0, none⟩ = false := by rw [hk.frozen (by simp)]; exact v2
        have v3' : w'.frozen? ⟨g, 1, none⟩ = false := by rw [hk.frozen (by simp)]; exact v3
        have hbx' : Below w.heap.size w w' := hbx.trans (hk.mono (by omega))
        have hsz' : g + 1 ≤ w'.heap.size := by have := hk.size; omega
        clear hown hgrow x0 x1 y0 y1 y2 y3 v0 v1 v2 v3 hk hbx hsz2
        go_wp2_with fail
        go_roundg gg
        case measure => omega
        case rel =>
          refine ⟨j + 1, .slice B3 ((rep l j).length + m) c3, by omega, by go_num, by simpa using hsz', ⟨?_, ?_, ?_, ?_⟩, ⟨?_, ?_⟩, ⟨?_, ?_, ?_, ?_⟩, ?_, hbx'.setCell (by simp; omega) _⟩
          · exact (World.cell?_setCell_other w' ⟨g, 1, none⟩ _ _ (by simp)).trans x0'
          · exact (World.cell?_setCell_other w' ⟨g, 1, none⟩ _ _ (by simp)).trans x1'
          · exact (World.cell?_setCell_other w' ⟨g, 1, none⟩ _ _ (by simp)).trans y0'
          · exact (World.cell?_setCell_other w' ⟨g, 1, none⟩ _ _ (by simp)).trans y1'
          · simp [go_sem, y2']
          · simp [go_sem, y3']
          · exact (World.cell?_setCell_other w' ⟨g, 1, none⟩ _ _ (by simp)).trans v0'
          · simp [go_sem, v1']
          · simp [go_sem, v2']
          · simp [go_sem, v3']
          · have := HO'.out
            rw [← List.map_append, ← (HROOM.out j (by omega)).2] at this
            rw [← (HROOM.out j (by omega)).2] at *
            exact ownsRow_setCell_below this (Nat.lt_succ_self g) _

theorem refLoops_any (A B : Option Addr) (n c m d : Nat) (s l : List Int) (k : Int) (w : World) (ha : Ints w A n s) (hb : Ints w B m l) (h1 : n + m ≤ 100000) (hnc : n ≤ c) (hmd : m ≤ d) :
    Calls Tryd.prog 22 #[.agg #[.slice A n c, .slice B m d], .int .i64 k] w fun e w' => Res w w' (OutL s l k) (codeL s l k) e := by
  cases hv : validB 6 s l
  · exact refLoops_early A B n c m d s l k w ha hb h1 (.inl hv)
  · by_cases hk : k < 1
    · exact refLoops_early A B n c m d s l k w ha hb h1 (.inr (.inl hk))
    · by_cases hk2 : 200 < k
      · exact refLoops_early A B n c m d s l k w ha hb h1 (.inr (.inr hk2))
      · obtain ⟨j, rfl⟩ := Int.eq_ofNat_of_zero_le (show 0 ≤ k by omega)
        exact refLoops_else A B n c m d s l j w ha hb h1 hnc hmd hv (by omega) (by omega)

end Go.Proofs.YtnkmmmagdmnngaaDoor.Wd
