/-
  Before of package graph.
-/
import Derived.Test.YtffdbncjndnnaaaGaRefAttrE
namespace Go.Proofs.Ytffdbncjndnnaaa.Wd
open Go.RowKit
set_option linter.unusedVariables false
set_option linter.unusedSimpArgs false

/-- As often as s lies in l: v. -/
def hitL (v : Int) (s : Nat) (l : List Int) : List Int := (l.filter fun y => decide (y = (s : Int))).map fun _ => v
/-- The predecessors of s among the positions below j, and j for its first t successors. -/
def preT (G : Gm) (j t s : Nat) : List Int := ((List.range j).flatMap fun (v : Nat) => hitL (v : Int) s (G.X.getD v [])) ++ hitL j s ((G.X.getD j []).take t)
theorem take_more {l : List Int} {t : Nat} (h : t < l.length) : l.take (t + 1) = l.take t ++ [l.getD t 0] := by
  rw [List.take_succ_eq_append_getElem h]
  simp [List.getD_eq_getElem?_getD, List.getElem?_eq_getElem h]
theorem preT_zero (G : Gm) (s : Nat) : preT G 0 0 s = [] := by simp [preT, hitL]
theorem preT_row (G : Gm) {j t : Nat} (s : Nat) (h : (G.X.getD j []).length = t) : preT G (j + 1) 0 s = preT G j t s := by
  unfold preT
  rw [List.range_succ, List.flatMap_append, List.take_zero, List.take_of_length_le (by omega)]
  simp [hitL]
theorem preT_next (G : Gm) {j t : Nat} (s y : Nat) (h : t < (G.X.getD j []).length) (hy : (G.X.getD j []).getD t 0 = (y : Int)) : preT G j (t + 1) s = if s = y then preT G j t s ++ [(j : Int)] else preT G j t s := by
  have e := take_more h
  rw [hy] at e
  unfold preT
  rw [e]
  unfold hitL
  rw [List.filter_append, List.map_append]
  by_cases hs : s = y
  · subst hs
    rw [if_pos rfl]
    simp
  · rw [if_neg hs]
    have : ¬ (y : Int) = (s : Int) := fun e => hs (by omega)
    simp [this]
theorem hitL_len (v : Int) (s : Nat) (l : List Int) : (hitL v s l).length ≤ l.length := by
  unfold hitL
  rw [List.length_map]
  exact List.length_filter_le _ _
theorem preT_len (G : Gm) (hl : ∀ v, (G.X.getD v []).length ≤ 64) (j t s : Nat) : (preT G j t s).length ≤ 64 * (j + 1) := by
  unfold preT
  rw [List.length_append]
  have h1 : ((List.range j).flatMap fun (v : Nat) => hitL (v : Int) s (G.X.getD v [])).length ≤ 64 * j := by
    induction j with
    | zero => simp
    | succ j ih =>
      rw [List.range_succ, List.flatMap_append, List.length_append]
      have := hitL_len j s (G.X.getD j [])
      have := hl j
      simp only [List.flatMap_cons, List.flatMap_nil, List.append_nil]
      omega
  have h2 := hitL_len j s ((G.X.getD j []).take t)
  rw [List.length_take] at h2
  have := hl j
  omega

set_option maxRecDepth 100000 in
set_option maxHeartbeats 16000000 in
theorem pre_any (a p x : Option Addr) (n e : Nat) (G : Gm) (w : World) (h : GameIn w a n p n x n G) (hv : gmB G = true) (hn : n ≤ 1000) :
    Calls Try.prog 44 #[.slice x n e] w fun r w' =>
      ∃ V, r = .returned (.slice (some ⟨w.heap.size, 0, none⟩) n n) ∧ w'.rowIs w.heap.size 22 n V ∧ Fam (w.heap.size + 1) n w' V (fun _ => 3) (fun s => (preT G n 0 s).map (Value.int .i64)) ∧ Below w.heap.size w w' := by
  obtain ⟨hg1, hg2, hg3, hg4⟩ := gmB_true hv
  have hxl := h.x.1
  have hn0 : (0 : Int) ≤ (n : Int) := by omega
  have H0 := Lib.hid h
  have HLEN := Lib.hid (fun v => gmB_len hv v)
  have HSU := Lib.hid (fun v (hvn : v < n) => (succB_true (posB_true (hg4 v (by omega))).2.2.2).2.2)
  rw [show (G.X.length : Int) = (n : Int) by omega] at HSU
  obtain ⟨i0, hi, hi0, hi1, hi2⟩ := g_info_parts g_ints_info
  have hmx := run_make_row' (P := Try.prog) 23 22 (.slice none 0 0) 24 Try.underlying23 g_rows_info rfl .i64 .i64 n (by omega) (by omega)
  clear h hv hg4 hg1 hg2 hg3 hxl
  go_enter Try.func44, Try.ntmps44
  go_wp2_with fail
  obtain ⟨W1, hW1⟩ : ∃ W1, w.alloc (.cells (madeCells #[.slice none 0 0] n) 22) = W1 := ⟨_, rfl⟩
  have HN1 := Lib.hid (show W1.rowIs w.heap.size 22 n (fun i => .slice none 0 0) by rw [← hW1]; exact World.rowIs_made _ _ _ _)
  have HW1 := Lib.hid (show Below w.heap.size w W1 by rw [← hW1]; exact (Below.refl _ _).alloc (Nat.le_refl _) _)
  have HZ1 := Lib.hid (show w.heap.size + 1 ≤ W1.heap.size by rw [← hW1]; simp)
  rw [hW1]
  clear hW1 hmx
  obtain ⟨bn, hbn, HBN⟩ : ∃ bn, w.heap.size = bn ∧ Hid (w.heap.size = bn) := ⟨_, rfl, rfl⟩
  rw [hbn] at HN1 HZ1 HW1 ⊢
  clear hbn
  go_loopg [13] n (fun g i wx => ∃ j : Nat, j + g = n ∧ i = .int .i64 j ∧ Hid (∃ V, wx.rowIs bn 22 n V ∧ Fam (bn + 1) n wx V (fun _ => 3) (fun s => (preT G j 0 s).map (Value.int .i64))) ∧ Hid (Below bn w wx) ∧ Hid (bn + 1 ≤ wx.heap.size))
  case atStart => exact ⟨0, by omega, rfl, ⟨_, HN1.out, ⟨fun s _ => by rw [preT_zero]; exact World.ownsRow_nil _ _ _ _, fun _ _ _ _ _ => .inl rfl⟩⟩, HW1.out, HZ1.out⟩
  case round =>
    obtain ⟨j, hjg, rfl, HV, HBX, HZX⟩ := hrel
    have hj0 : (0 : Int) ≤ (j : Int) := by omega
    cases gk with
    | zero =>
      obtain rfl : n = j := by omega
      obtain ⟨V, hV, hF⟩ := HV.out
      have HV1 := Lib.hid hV
      have HF1 := Lib.hid hF
      clear hV hF HV
      go_wp2_with fail
      refine bodyPost_ret (v := .slice (some ⟨bn, 0, none⟩) n n) (by simp [results, Try.results44, go_sem]) rfl ?_
      have hbn := HBN.out
      subst hbn
      exact ⟨V, rfl, HV1.out, HF1.out, HBX.out⟩
    | succ g =>
      have hjl : j < n := by omega
      have hjl2 : (j : Int) < (n : Int) := by omega
      have HWX := Lib.hid (show Below w.heap.size w wr by rw [HBN.out]; exact HBX.out)
      obtain ⟨bx, ox, rfl, hbx, hcx⟩ := H0.out.x.2 (by omega)
      obtain ⟨bl, cl, kl0, il⟩ := hcx j hjl
      have kl := (HWX.out.cell (p := ⟨bx, ox + j, none⟩) hbx).trans kl0
      have HLS := Lib.hid (fun i hi => HSU.out j hjl i hi)
      have hll := HLEN.out j
      have HIL := Lib.hid il
      have HPN := Lib.hid (fun t s y h1 h2 => preT_next G (j := j) (t := t) s y h1 h2)
      have HPR := Lib.hid (fun t s h => preT_row G (j := j) (t := t) s h)
      have HPB := Lib.hid (fun t s => preT_len G HLEN.out j t s)
      clear hcx il kl0
      generalize hl : G.X.getD j [] = l at *
      clear hl
      obtain ⟨ll, hlen⟩ : ∃ ll, l.length = ll := ⟨_, rfl⟩
      have HLN := Lib.hid hlen
      rw [hlen] at kl HIL HLS hll HPR
      clear hlen
      have hll0 : (0 : Int) ≤ (ll : Int) := by omega
      go_wp2_with fail
      clear kl
      go_loopg [20] ll (fun g i wx => ∃ t : Nat, t + g = ll ∧ i = .int .i64 t ∧ Hid (∃ V, wx.rowIs bn 22 n V ∧ Fam (bn + 1) n wx V (fun _ => 3) (fun s => (preT G j t s).map (Value.int .i64))) ∧ Hid (Below bn w wx) ∧ Hid (bn + 1 ≤ wx.heap.size))
      case atStart => exact ⟨0, by omega, rfl, HV.out, HBX.out, HZX.out⟩
      case round =>
        obtain ⟨t, htg, rfl, HV, HBY, HZY⟩ := hrel
        have ht0 : (0 : Int) ≤ (t : Int) := by omega
        obtain ⟨V, hV, hF⟩ := HV.out
        have HV1 := Lib.hid hV
        have HF1 := Lib.hid hF
        clear hV hF HV
        cases gk with
        | zero =>
          obtain rfl : ll = t := by omega
          go_wp2_with fail
          go_roundg g
          case measure => omega
          case rel => exact ⟨j + 1, by omega, by go_num, ⟨V, HV1.out, HF1.out.congr (fun _ _ => rfl) (fun s _ => by rw [HPR.out ll s rfl])⟩, HBY.out, HZY.out⟩
        | succ g4 =>
          have htl : t < ll := by omega
          have htl2 : (t : Int) < (ll : Int) := by omega
          have HWY := Lib.hid (show Below w.heap.size w wr by rw [HBN.out]; exact HBY.out)
          obtain ⟨bL, oL, rfl, hbL, hcL⟩ := HIL.out.2 (by omega)
          have kc := (HWY.out.cell (p := ⟨bL, oL + t, none⟩) hbL).trans (hcL t htl)
          obtain ⟨hy0, hy1⟩ := HLS.out t htl
          obtain ⟨y, hy⟩ : ∃ y : Nat, l.getD t 0 = (y : Int) := ⟨(l.getD t 0).toNat, by omega⟩
          have HPY := Lib.hid (fun s => HPN.out t s y (by have := HLN.out; omega) hy)
          rw [hy] at kc hy0 hy1
          have hyn : y < n := by omega
          have hown0 := HF1.out.own y hyn
          obtain ⟨A7, c7, hv7, _⟩ := own_slice hown0
          have kv := HV1.out.cell hyn
          have fv := HV1.out.frozen y
          rw [hv7] at kv hown0
          have hpb := HPB.out t y
          have hbl : bn < wr.heap.size := HV1.out.lt
          obtain ⟨pl, hpl⟩ : ∃ pl, preT G j t y = pl := ⟨_, rfl⟩
          have HPE := Lib.hid hpl
          rw [hpl] at hown0 hpb kv hv7
          rw [List.length_map] at hown0 kv hv7
          have HOW := Lib.hid hown0
          have HV7 := Lib.hid hv7
          obtain ⟨m, hm⟩ : ∃ m, pl.length = m := ⟨_, rfl⟩
          have HM := Lib.hid hm
          rw [hm] at hpb kv HOW HV7
          clear hcL hy hown0 hv7 hpl hm
          go_wp2_with (refine wpList_append_ints _ (by rfl) _ _ _ (by rfl) (bn + 1) 3 i0 _ Try.underlying22 hi hi0 hi1 hi2 rfl (.slice A7 m c7) m (pl.map (Value.int .i64)) (by rfl) (by exact HOW.out.alloc _) (some ⟨wr.heap.size, 0, none⟩) 1 1 [(j : Int)] (by rfl) (int_new' _ rfl _ _) (by omega) (by rw [World.size_alloc]; omega) ?_; intro v' w4 hown hgrow hat; obtain ⟨A8, c8, rfl, _⟩ := own_slice hown; have HBEL := Lib.hid (below_own (HOW.out.alloc _) hgrow (by rw [World.size_alloc]; omega)); have HR4 := Lib.hid ((HV1.out.alloc _).of_block (HBEL.out.block bn (by omega))); have kv4 := HR4.out.cell hyn; rw [HV7.out] at kv4; have fv4 := HR4.out.frozen y; have HB4 := Lib.hid ((HBY.out.alloc (by omega) _).trans (HBEL.out.mono (by omega))); have HF4 := Lib.hid ((HF1.out.below ((Below.refl wr.heap.size wr).alloc (Nat.le_refl _) _)).grow (f := y) (l := (pl ++ [(j : Int)]).map (Value.int .i64)) hyn (by rw [show ((pl ++ [(j : Int)]).map (Value.int .i64)).length = m + 1 by rw [List.length_map, List.length_append, HM.out]; rfl, List.map_append]; exact hown) (by rw [HV7.out]; exact hgrow) (by rw [HV7.out]; exact hat)); clear hown hgrow hat)
          go_roundg g4
          case measure => omega
          case rel =>
            refine ⟨t + 1, by omega, by go_num, ⟨_, HR4.out.set y _, (HF4.out.put (a := ⟨bn, y, none⟩) (by show bn < bn + 1; omega) _).congr (fun _ _ => rfl) (fun s _ => ?_)⟩, HB4.out.setCell (by show bn ≤ bn; omega) _, ?_⟩
            · show atV _ _ _ s = _
              rw [HPY.out s]
              unfold atV
              by_cases e : s = y
              · subst e
                rw [if_pos rfl, if_pos rfl, HPE.out]
              · rw [if_neg e, if_neg e]
            · have := HR4.out.lt
              show bn + 1 ≤ _
              rw [size_set]
              omega

end Go.Proofs.Ytffdbncjndnnaaa.Wd
