/-
  parts: the strongly connected parts of a graph, walked.
-/
import Derived.Test.YtalgbcndifaaiaaF29
import Derived.BigQuiet
import Derived.Deep.DeepCutAuto
import Derived.Deep.CutRange
import Derived.Outline
import Derived.Test.YtalgbcndifaaiaaF21
import Derived.Deep.QuietTactic
namespace Go.Proofs.Ytalgbcndifaaiaa.Wd
open Go.RowKit Go.Deep
set_option linter.unusedVariables false
set_option linter.unusedSimpArgs false

theorem arcs_row_info : (Try.prog.info? 60).map (fun i => (i.zero, i.size, i.bytes)) = some (some (.slice none 0 0), 1, 24) := by kernel_rfl

theorem from_one {n t i : Nat} {s : List Ac} (ht : t < n) : FromP (updB (fun _ => false) t) n s i ↔ Rc s t i := by
  constructor
  · rintro ⟨j, _, h1, h2⟩
    rcases updB_true h1 with rfl | h
    · exact h2
    · cases h
  · exact fun h => ⟨t, ht, updB_same _ _, h⟩
theorem partO_no {F1 F2 : Nat → Bool} {m : Nat} {O : Nat → Int} {u j : Nat} (h : ¬ (F1 u = true ∧ F2 u = true)) : partO F1 F2 m O (u + 1) j = partO F1 F2 m O u j := by
  unfold partO
  by_cases e : j = u
  · subst e
    rw [if_neg (fun x => h x.2), if_neg (fun x => h x.2)]
  · by_cases h1 : j < u ∧ F1 j = true ∧ F2 j = true
    · rw [if_pos h1, if_pos ⟨by omega, h1.2⟩]
    · rw [if_neg h1, if_neg (fun x => h1 ⟨by have := x.1; omega, x.2⟩)]
theorem partO_yes {F1 F2 : Nat → Bool} {m : Nat} {O : Nat → Int} {u j : Nat} (h : F1 u = true ∧ F2 u = true) : partO F1 F2 m O (u + 1) j = if j = u then (m : Int) else partO F1 F2 m O u j := by
  unfold partO
  by_cases e : j = u
  · subst e
    rw [if_pos ⟨by omega, h⟩, if_pos rfl]
  · rw [if_neg e]
    by_cases h1 : j < u ∧ F1 j = true ∧ F2 j = true
    · rw [if_pos h1, if_pos ⟨by omega, h1.2⟩]
    · rw [if_neg h1, if_neg (fun x => h1 ⟨by have := x.1; omega, x.2⟩)]

/-- What parts comes to. -/
def ResP (w w' : World) (n : Nat) (c : Cd) (l : List Ac) (e : Ending) : Prop :=
  ∃ bo av m mc O, e = .returned (.tuple #[.slice (some ⟨bo, 0, none⟩) n n, .slice av m mc]) ∧ OfAt w' w.heap.size w'.heap.size bo n O ∧ WithAt w' w.heap.size w'.heap.size av m (fun p => innL c O l p l.length) ∧ Hid (PSpec (sub c l) n O m) ∧ Below w.heap.size w w'

set_option maxRecDepth 100000 in
set_option maxHeartbeats 8000000 in
theorem parts_walk (n na ca : Nat) (A : Option Addr) (l : List Ac) (c : Cd) (w : World) (ha : ArcsAt w A na l) (hn : n ≤ 100000) (hna : na ≤ 900000) (hl : SmallA n l) (hc : SmallC c) :
    Calls Try.prog 71 #[.int .i64 n, .slice A na ca, cdV c] w fun e w' => ResP w w' n c l e := by
  obtain ⟨i0, hi, hi0, hi1, hi2⟩ := info_parts arc_info
  obtain ⟨j0, hj, hj0, hj1, hj2⟩ := info_parts arcs_row_info
  have hmk := run_make_row' (P := Try.prog) 22 3 (.int .i64 0) 8 Try.underlying22 int_row rfl .i64 .i64 n (by omega) (by omega)
  have hmkb := run_make_row' (P := Try.prog) 64 4 (.bool false) 1 Try.underlying64 bool_info rfl .i64 .i64 n (by omega) (by omega)
  have HA := Lib.hid ha
  have HAL := Lib.hid ha.1
  have HL := Lib.hid hl
  have HC := Lib.hid hc
  have HT := Lib.hid (fun W (hW : Below w.heap.size w W) => turned_any A na ca l W (ha.below hW) hna)
  clear ha hl hc
  unfold cdV
  go_enter Try.func71, Try.ntmps71
  go_wp2_with fail
  obtain ⟨W0, hW0⟩ : ∃ W0, w.alloc (.cells #[.int .i64 c.n, .int .i64 c.a, .int .i64 c.n', .int .i64 c.a'] 97) = W0 := ⟨_, rfl⟩
  have hz : W0.heap.size = w.heap.size + 1 := by rw [← hW0]; simp
  have HP := Lib.hid (show ∀ i, W0.cell? ⟨w.heap.size, i, none⟩ = #[Value.int .i64 c.n, .int .i64 c.a, .int .i64 c.n', .int .i64 c.a'][i]? from fun i => by rw [← hW0]; exact box_last w _ _ i)
  have HB0 := Lib.hid (show Below w.heap.size w W0 by rw [← hW0]; exact (Below.refl _ _).alloc (Nat.le_refl _) _)
  rw [hW0]
  clear hW0
  obtain ⟨W1, hW1⟩ : ∃ W1, W0.alloc (.cells (madeCells #[.int .i64 0] n) 3) = W1 := ⟨_, rfl⟩
  have HR0 := Lib.hid (show W1.rowIs (w.heap.size + 1) 3 n (fun _ => .int .i64 0) by rw [← hW1, ← hz]; exact World.rowIs_made W0 _ n _)
  have HB1 := Lib.hid (show Below (w.heap.size + 1) W0 W1 by rw [← hW1, ← hz]; exact (Below.refl _ _).alloc (Nat.le_refl _) _)
  have hz1 : W1.heap.size = w.heap.size + 2 := by rw [← hW1]; simp [hz]
  rw [hW1]
  clear hW1
  go_loopg [21] n (fun g i wx => ∃ t : Nat, t + g = n ∧ i = .int .i64 t ∧ Hid (wx.rowIs (w.heap.size + 1) 3 n (fun j => .int .i64 (if j < t then -1 else 0))) ∧ Hid (Below (w.heap.size + 1) W0 wx) ∧ Hid (wx.heap.size = w.heap.size + 2))
  case atStart => exact ⟨0, by omega, rfl, HR0.out.congr (fun j _ => by rw [if_neg (Nat.not_lt_zero j)]), HB1.out, hz1⟩
  case round =>
    obtain ⟨t, htg, rfl, HR, HBx, HZ⟩ := hrel
    have hti : (0 : Int) ≤ (t : Int) := by omega
    cases gk with
    | zero =>
      obtain rfl : n = t := by omega
      have HBw := Lib.hid (HB0.out.trans (HBx.out.mono (by omega)))
      have HP1 := Lib.hid (fun i => (HBx.out.cell (p := ⟨w.heap.size, i, none⟩) (by show w.heap.size < w.heap.size + 1; omega)).trans (HP.out i))
      have HRR := Lib.hid (HR.out.congr (g := fun _ => .int .i64 (-1)) (fun j hj => by rw [if_pos hj]))
      clear HR0 HB1 hz1 HR HP HBx htg hti
      go_wp2_with fail
      refine (HT.out _ HBw.out).mono ?_
      rintro e w2 ⟨vb, rfl, hob, hb2⟩
      obtain ⟨Ab, cb, hvb, _⟩ := own_any hob
      subst hvb
      obtain ⟨z2, hz2, HZ2⟩ : ∃ z2, w2.heap.size = z2 ∧ Hid (w2.heap.size = z2) := ⟨_, rfl, rfl⟩
      have hAB := ArcsIn.of_own hob (by unfold turnAL; rw [List.length_map]; exact HAL.out)
      rw [HZ.out, hz2] at hAB
      have HAB := Lib.hid hAB
      have hzz : w.heap.size + 2 ≤ z2 := by rw [← hz2, ← HZ.out]; exact hb2.size
      have HB2 := Lib.hid (HBw.out.trans (hb2.mono (by have := HZ.out; omega)))
      have HP2 := Lib.hid (fun i => (hb2.cell (p := ⟨w.heap.size, i, none⟩) (by show w.heap.size < _; have := HZ.out; omega)).trans (HP1.out i))
      have HR2 := Lib.hid (HRR.out.of_block (hb2.block _ (by have := HZ.out; omega)))
      have HLT := Lib.hid (show SmallA n (turnAL l) from fun a ha => by
        unfold turnAL at ha
        obtain ⟨x, hx, rfl⟩ := List.mem_map.1 ha
        obtain ⟨h1, h2, h3, h4⟩ := HL.out x hx
        exact ⟨h2, h1, h3, h4⟩)
      have HLA := Lib.hid (show (turnAL l).length = na by unfold turnAL; rw [List.length_map]; exact HAL.out)
      clear hob hb2 hAB hz2 HRR HP1 HBw HT HB0 HZ
      go_wp2_with fail
      go_loopg [7, 31] n (fun g v i wx => ∃ (t : Nat) (O : Nat → Int) (m : Nat), t + g = n ∧ i = .int .i64 t ∧ Hid (wx.rowIs (w.heap.size + 1) 3 n (fun j => .int .i64 (O j))) ∧ Hid (wx.ownsRow z2 60 1 v m (List.replicate m (.slice none 0 0))) ∧
        Hid (PInv (sub c l) n O m t) ∧ Hid (Below w.heap.size w wx) ∧ Hid (∀ j, j ≠ w.heap.size + 1 → j < z2 → wx.heap[j]? = w2.heap[j]?) ∧ Hid (z2 ≤ wx.heap.size))
      case atStart => exact ⟨0, fun _ => -1, 0, by omega, rfl, HR2.out, World.ownsRow_nil _ _ _ _, PInv.start _ _, HB2.out, (fun _ _ _ => rfl), Nat.le_of_eq HZ2.out.symm⟩
      case round =>
        obtain ⟨t, O, m, htg, rfl, HR, HW, HPI, HBx, HKP, HZx⟩ := hrel
        have hti : (0 : Int) ≤ (t : Int) := by omega
        cases gk with
        | zero =>
          obtain rfl : n = t := by omega
          have HPO := Lib.hid HPI.out.out
          have HROW := Lib.hid (HR.out.congr (g := fun j => .int .i64 ((O j).toNat : Nat)) (fun j hj => by rw [Int.toNat_of_nonneg (HPI.out.done j hj hj)]))
          clear HR HR2 HPI HAB HLT HLA hmk hmkb
          obtain ⟨N, hN⟩ : ∃ N : Nat → Nat, N = fun j => (O j).toNat := ⟨_, rfl⟩
          have HPN := Lib.hid (show PSpec (sub c l) n N m by rw [hN]; exact HPO.out)
          have HRN := Lib.hid (show wr.rowIs (w.heap.size + 1) 3 n (fun j => .int .i64 (N j : Nat)) by rw [hN]; exact HROW.out)
          clear HPO HROW hN O
          by_cases hm0 : m = 0
          · subst hm0
            have hn0 : n = 0 := Nat.eq_zero_of_not_pos fun h => by have := HPN.out.range 0 h; omega
            have hna0 : na = 0 := by
              refine Nat.eq_zero_of_not_pos fun h => ?_
              have h1 := (HL.out _ (acsD_mem (l := l) (t := 0) (by rw [HAL.out]; exact h))).1
              omega
            subst hn0
            subst hna0
            obtain ⟨Aw, cw, hv, _⟩ := own_any HW.out
            subst hv
            go_wp2_with fail
            go_loopg [80] 0 (fun g i wx => g = 0 ∧ i = .int .i64 0 ∧ Hid (wx = wr))
            case atStart => exact ⟨rfl, rfl, rfl⟩
            case round =>
              obtain ⟨hg0, rfl, hwx⟩ := hrel
              have hwx := hwx.out
              subst hwx
              go_wp2_with fail
              go_ret2
              exact ⟨w.heap.size + 1, Aw, 0, cw, N, rfl, ⟨by omega, HRN.out.lt, fun i hi => by omega⟩, (fun h => by omega), HPN.out, HBx.out⟩
          · obtain ⟨bw, cw, hv, hbw, hcg⟩ := CellsGe.of_own (V := fun _ => .slice none 0 0) HW.out (by omega) (fun i hi => by rw [List.getElem?_replicate, if_pos hi])
            subst hv
            have HCG := Lib.hid hcg
            obtain ⟨z4, hz4, HZ4⟩ : ∃ z4, wr.heap.size = z4 ∧ Hid (wr.heap.size = z4) := ⟨_, rfl, rfl⟩
            have hbz : bw < z4 := by rw [← hz4]; exact hcg.lt
            have HPW := Lib.hid (fun i => (World.cell?_of_block (a := ⟨w.heap.size, i, none⟩) (HKP.out w.heap.size (by omega) (by omega))).trans (HP2.out i))
            clear hz4 hcg HW HP2 HKP HZx
            have hmn := HPN.out.few
            generalize wr = W4 at *
            go_wp2_with fail
            go_loopg [80] na (fun g i wx => ∃ (t : Nat) (V : Nat → Value), t + g = na ∧ i = .int .i64 t ∧ Hid (CellsGe wx bw m V) ∧ Hid (RowsA z4 m wx V (fun p => innL c N l p t)) ∧ Hid (Below w.heap.size w wx) ∧ Hid (∀ j, j ≠ bw → j < z4 → wx.heap[j]? = W4.heap[j]?) ∧ Hid (z4 ≤ wx.heap.size))
            case atStart => exact ⟨0, fun _ => .slice none 0 0, by omega, rfl, HCG.out, RowsA.start _ _ _, HBx.out, (fun _ _ _ => rfl), Nat.le_of_eq HZ4.out.symm⟩
            case round =>
              obtain ⟨t, V, htg, rfl, HV, HRS, HBy, HKP, HZy⟩ := hrel
              have hti : (0 : Int) ≤ (t : Int) := by omega
              cases gk with
              | zero =>
                obtain rfl : na = t := by omega
                go_wp2_with fail
                go_ret2
                refine ⟨w.heap.size + 1, some ⟨bw, 0, none⟩, m, cw, N, rfl, ⟨by omega, by have := HZy.out; omega, fun i hi => ?_⟩, ?_, HPN.out, HBy.out⟩
                · exact ((HRN.out.of_block (HKP.out _ (by omega) (by omega))).cell hi)
                · have h := WithAt.of_rows (lo := w.heap.size) HV.out HRS.out (by omega) (by omega)
                  rw [HAL.out]
                  exact h
              | succ q =>
                have ht1 : t < na := by omega
                have hti2 : (t : Int) < (na : Int) := by omega
                obtain ⟨b, rfl, _, hlt, hcell⟩ := (HA.out.below HBy.out).2 (by omega)
                obtain ⟨c0, c1, c2, c3⟩ := hcell t ht1
                obtain ⟨hxf, hxt, hxm, hxo⟩ := HL.out _ (acsD_mem (l := l) (by rw [HAL.out]; exact ht1))
                have HYES := Lib.hid (fun x (hx : l.getD t ac0 = x) h => innL_yes (c := c) (O := N) (by rw [HAL.out]; exact ht1) hx h)
                have HNO := Lib.hid (fun p x (hx : l.getD t ac0 = x) h => innL_no (c := c) (O := N) (p := p) (by rw [HAL.out]; exact ht1) hx h)
                obtain ⟨x, hx, HXX⟩ : ∃ x, l.getD t ac0 = x ∧ Hid (l.getD t ac0 = x) := ⟨_, rfl, rfl⟩
                rw [hx] at c0 c1 c2 c3 hxf hxt hxm hxo
                clear hx hcell
                obtain ⟨xf, xt, xm, xo⟩ := x
                simp only at c0 c1 c2 c3 hxf hxt hxm hxo
                have HMB := Lib.hid (And.intro hxm hxo)
                have hf0 : (0 : Int) ≤ (xf : Int) := by omega
                have hf1 : (xf : Int) < (n : Int) := by omega
                have ht0 : (0 : Int) ≤ (xt : Int) := by omega
                have ht2 : (xt : Int) < (n : Int) := by omega
                have HRX := Lib.hid (HRN.out.of_block (HKP.out (w.heap.size + 1) (by omega) (by omega)))
                have kf := HRX.out.cell hxf
                have kt := HRX.out.cell hxt
                have p0 := (World.cell?_of_block (a := ⟨w.heap.size, 0, none⟩) (HKP.out w.heap.size (by omega) (by omega))).trans (HPW.out 0)
                have p2 := (World.cell?_of_block (a := ⟨w.heap.size, 2, none⟩) (HKP.out w.heap.size (by omega) (by omega))).trans (HPW.out 2)
                have hzq : w.heap.size + 1 < wr.heap.size := by have := HZy.out; omega
                have hzq0 : w.heap.size < wr.heap.size := by omega
                have hrf := HPN.out.range xf hxf
                clear hxm hxo
                obtain ⟨a, ha, HAF⟩ : ∃ a, N xf = a ∧ Hid (N xf = a) := ⟨_, rfl, rfl⟩
                obtain ⟨b', hb', HBT⟩ : ∃ b', N xt = b' ∧ Hid (N xt = b') := ⟨_, rfl, rfl⟩
                rw [ha] at kf hrf
                rw [hb'] at kt
                clear ha hb'
                by_cases hab : a = b'
                · subst hab
                  have e1 : ((a : Int) == (a : Int)) = true := by simp
                  by_cases h1 : xm &&& c.n = 0
                  · have e2 : bits .and .i64 (xm : Int) (c.n : Int) = 0 := by rw [and_i64 _ _ HMB.out.1 HC.out.1, h1]; rfl
                    have H1 := Lib.hid h1
                    clear h1
                    by_cases h2 : xo &&& c.n' = 0
                    · have e3 : bits .and .i64 (xo : Int) (c.n' : Int) = 0 := by rw [and_i64 _ _ HMB.out.2 HC.out.2.2.1, h2]; rfl
                      have HX := Lib.hid (HYES.out _ HXX.out (by unfold okA; rw [H1.out, h2]; rfl) (by rw [HAF.out, HBT.out]))
                      have HY := Lib.hid (fun p (hp : a ≠ p) => HNO.out p _ HXX.out (.inr (.inr (by rw [HAF.out]; exact hp))))
                      clear h2 HYES HNO HXX H1 HMB
                      obtain ⟨v, hvf, HVF⟩ : ∃ v, V a = v ∧ Hid (V a = v) := ⟨_, rfl, rfl⟩
                      have hv : wr.cell? ⟨bw, a, none⟩ = some v := by rw [← hvf]; exact HV.out.cell hrf
                      have hfz := HV.out.free a
                      have HO := Lib.hid (show wr.ownsRow z4 63 4 v (innL c N l a t).length (acsV (innL c N l a t)) by rw [← hvf]; exact HRS.out.own a hrf)
                      have HLN := Lib.hid (innL_len c N l a t)
                      have ha0 : (0 : Int) ≤ (a : Int) := by omega
                      have ha1 : (a : Int) < (m : Int) := by omega
                      have hbq : bw < wr.heap.size := by have := HZy.out; omega
                      have HRF := Lib.hid hrf
                      clear hvf
                      go_wp2_with fail
                      go_quiet (fail)
                      go_wp2_with fail
                      obtain ⟨W6, hW6⟩ : ∃ W6, World.drewN (wr.alloc (.cells #[.int .i64 xf, .int .i64 xt, .int .i64 xm, .int .i64 xo] 63)) nq = W6 := ⟨_, rfl⟩
                      have hz6 : W6.heap.size = wr.heap.size + 1 := by rw [← hW6]; show (wr.alloc _).heap.size = _; simp
                      have HB6 := Lib.hid (show Below wr.heap.size wr W6 by rw [← hW6]; exact below_drewN ((Below.refl _ _).alloc (Nat.le_refl _) _) _)
                      have b0 : ∀ i, W6.cell? ⟨wr.heap.size, i, none⟩ = (#[.int .i64 xf, .int .i64 xt, .int .i64 xm, .int .i64 xo] : Array Value)[i]? := fun i => by rw [← hW6]; exact box_last wr _ _ i
                      have HBX := Lib.hid b0
                      have HZ6 := Lib.hid hz6
                      rw [hW6]
                      clear hW6 hz6 b0 nq
                      have hbox : ∀ W, Below W6.heap.size W6 W → W.cell? ⟨wr.heap.size, 0, none⟩ = some (.int .i64 xf) ∧ W.cell? ⟨wr.heap.size, 1, none⟩ = some (.int .i64 xt) ∧ W.cell? ⟨wr.heap.size, 2, none⟩ = some (.int .i64 xm) ∧ W.cell? ⟨wr.heap.size, 3, none⟩ = some (.int .i64 xo) ∧
                          W.cell? ⟨w.heap.size + 1, xf, none⟩ = some (.int .i64 (a : Nat)) ∧ W.cell? ⟨bw, a, none⟩ = some v := fun W hW => by
                        have hz6 := HZ6.out
                        refine ⟨(hW.cell (p := ⟨wr.heap.size, 0, none⟩) (by show wr.heap.size < _; omega)).trans (HBX.out 0), (hW.cell (p := ⟨wr.heap.size, 1, none⟩) (by show wr.heap.size < _; omega)).trans (HBX.out 1), (hW.cell (p := ⟨wr.heap.size, 2, none⟩) (by show wr.heap.size < _; omega)).trans (HBX.out 2), (hW.cell (p := ⟨wr.heap.size, 3, none⟩) (by show wr.heap.size < _; omega)).trans (HBX.out 3), ?_, ?_⟩
                        · exact (hW.cell (p := ⟨w.heap.size + 1, xf, none⟩) (by show w.heap.size + 1 < _; omega)).trans ((HB6.out.cell (p := ⟨w.heap.size + 1, xf, none⟩) hzq).trans kf)
                        · exact (hW.cell (p := ⟨bw, a, none⟩) (by show bw < _; omega)).trans ((HB6.out.cell (p := ⟨bw, a, none⟩) hbq).trans hv)
                      have HBOX := Lib.hid hbox
                      have hf6 : W6.frozen? ⟨bw, a, none⟩ = false := (HB6.out.frozen (p := ⟨bw, a, none⟩) hbq).trans hfz
                      have HF6 := Lib.hid hf6
                      clear hbox c0 c1 c2 c3 kf kt p0 p2 hfz hf6 e1 e2 e3
                      refine wp_region_until_drew (st := [18]) (S := fun V => V.cell? ⟨wr.heap.size, 0, none⟩ = some (.int .i64 xf) ∧ V.cell? ⟨wr.heap.size, 1, none⟩ = some (.int .i64 xt) ∧ V.cell? ⟨wr.heap.size, 2, none⟩ = some (.int .i64 xm) ∧ V.cell? ⟨wr.heap.size, 3, none⟩ = some (.int .i64 xo) ∧
                          V.cell? ⟨w.heap.size + 1, xf, none⟩ = some (.int .i64 (a : Nat)) ∧ V.cell? ⟨bw, a, none⟩ = some v) (by kernel_rfl) (HBOX.out _ (Below.refl _ _).drew) (fun hHeld => ?_)
                      refine wpAnyU_pure (i := 0) (v := ?vr0) rfl (by kernel_rfl) (by kernel_rfl) (by kernel_rfl) (by kernel_rfl) (fun _ _ _ h => h) (Or.inl ⟨by rfl, fun V _ => ?hyr0⟩) (fun _ => hHeld) ?restr0
                      case hyr0 => go_simp; try with_reducible rfl
                      try simp only [Act.put, List.getElem_toArray, List.getElem_cons_zero, List.getElem_cons_succ, List.setIfInBounds_toArray, List.set_cons_zero, List.set_cons_succ]
                      refine wpAnyU_pure (i := 1) (v := ?vr1) rfl (by kernel_rfl) (by kernel_rfl) (by kernel_rfl) (by kernel_rfl) (fun _ _ _ h => h) (Or.inl ⟨by rfl, fun V _ => ?hyr1⟩) (fun _ => hHeld) ?restr1
                      case hyr1 => go_simp; try with_reducible rfl
                      try simp only [Act.put, List.getElem_toArray, List.getElem_cons_zero, List.getElem_cons_succ, List.setIfInBounds_toArray, List.set_cons_zero, List.set_cons_succ]
                      refine wpAnyU_pure (i := 2) (v := ?vr2) rfl (by kernel_rfl) (by kernel_rfl) (by kernel_rfl) (by kernel_rfl) (fun _ _ _ h => h) (Or.inl ⟨by rfl, fun V _ => ?hyr2⟩) (fun _ => hHeld) ?restr2
                      case hyr2 => go_simp; try with_reducible rfl
                      try simp only [Act.put, List.getElem_toArray, List.getElem_cons_zero, List.getElem_cons_succ, List.setIfInBounds_toArray, List.set_cons_zero, List.set_cons_succ]
                      refine wpAnyU_load (i := 3) (v := ?vr3) rfl (by kernel_rfl) (by kernel_rfl) (by kernel_rfl) (by kernel_rfl) (fun _ _ _ h => h) (Or.inl ⟨by rfl, fun V hSw => ?hyr3⟩) hHeld ?restr3
                      case hyr3 => (obtain ⟨hs0, hs1, hs2, hs3, hs4, hs5⟩ := hSw); go_simp; try with_reducible rfl
                      try simp only [Act.put, List.getElem_toArray, List.getElem_cons_zero, List.getElem_cons_succ, List.setIfInBounds_toArray, List.set_cons_zero, List.set_cons_succ]
                      refine wpAnyU_pure (i := 4) (v := ?vr4) rfl (by kernel_rfl) (by kernel_rfl) (by kernel_rfl) (by kernel_rfl) (fun _ _ _ h => h) (Or.inl ⟨by rfl, fun V _ => ?hyr4⟩) (fun _ => hHeld) ?restr4
                      case hyr4 => go_simp; try with_reducible rfl
                      try simp only [Act.put, List.getElem_toArray, List.getElem_cons_zero, List.getElem_cons_succ, List.setIfInBounds_toArray, List.set_cons_zero, List.set_cons_succ]
                      refine wpAnyU_load (i := 5) (v := ?vr5) rfl (by kernel_rfl) (by kernel_rfl) (by kernel_rfl) (by kernel_rfl) (fun _ _ _ h => h) (Or.inl ⟨by rfl, fun V hSw => ?hyr5⟩) hHeld ?restr5
                      case hyr5 => (obtain ⟨hs0, hs1, hs2, hs3, hs4, hs5⟩ := hSw); go_simp; try with_reducible rfl
                      try simp only [Act.put, List.getElem_toArray, List.getElem_cons_zero, List.getElem_cons_succ, List.setIfInBounds_toArray, List.set_cons_zero, List.set_cons_succ]
                      refine wpAnyU_pure (i := 6) (v := ?vr6) rfl (by kernel_rfl) (by kernel_rfl) (by kernel_rfl) (by kernel_rfl) (fun _ _ _ h => h) (Or.inl ⟨by rfl, fun V _ => ?hyr6⟩) (fun _ => hHeld) ?restr6
                      case hyr6 => go_simp; try with_reducible rfl
                      try simp only [Act.put, List.getElem_toArray, List.getElem_cons_zero, List.getElem_cons_succ, List.setIfInBounds_toArray, List.set_cons_zero, List.set_cons_succ]
                      refine wpAnyU_pure (i := 7) (v := ?vr7) rfl (by kernel_rfl) (by kernel_rfl) (by kernel_rfl) (by kernel_rfl) (fun _ _ _ h => h) (Or.inl ⟨by rfl, fun V _ => ?hyr7⟩) (fun _ => hHeld) ?restr7
                      case hyr7 => go_simp; try with_reducible rfl
                      try simp only [Act.put, List.getElem_toArray, List.getElem_cons_zero, List.getElem_cons_succ, List.setIfInBounds_toArray, List.set_cons_zero, List.set_cons_succ]
                      refine wpAnyU_pure (i := 8) (v := ?vr8) rfl (by kernel_rfl) (by kernel_rfl) (by kernel_rfl) (by kernel_rfl) (fun _ _ _ h => h) (Or.inl ⟨by rfl, fun V _ => ?hyr8⟩) (fun _ => hHeld) ?restr8
                      case hyr8 => go_simp; try with_reducible rfl
                      try simp only [Act.put, List.getElem_toArray, List.getElem_cons_zero, List.getElem_cons_succ, List.setIfInBounds_toArray, List.set_cons_zero, List.set_cons_succ]
                      refine wpAnyU_load (i := 9) (v := ?vr9) rfl (by kernel_rfl) (by kernel_rfl) (by kernel_rfl) (by kernel_rfl) (fun _ _ _ h => h) (Or.inl ⟨by rfl, fun V hSw => ?hyr9⟩) hHeld ?restr9
                      case hyr9 => (obtain ⟨hs0, hs1, hs2, hs3, hs4, hs5⟩ := hSw); go_simp; try with_reducible rfl
                      try simp only [Act.put, List.getElem_toArray, List.getElem_cons_zero, List.getElem_cons_succ, List.setIfInBounds_toArray, List.set_cons_zero, List.set_cons_succ]
                      refine wpAnyU_pure (i := 10) (v := ?vr10) rfl (by kernel_rfl) (by kernel_rfl) (by kernel_rfl) (by kernel_rfl) (fun _ _ _ h => h) (Or.inl ⟨by rfl, fun V _ => ?hyr10⟩) (fun _ => hHeld) ?restr10
                      case hyr10 => go_simp; try with_reducible rfl
                      try simp only [Act.put, List.getElem_toArray, List.getElem_cons_zero, List.getElem_cons_succ, List.setIfInBounds_toArray, List.set_cons_zero, List.set_cons_succ]
                      refine wpAnyU_load (i := 11) (v := ?vr11) rfl (by kernel_rfl) (by kernel_rfl) (by kernel_rfl) (by kernel_rfl) (fun _ _ _ h => h) (Or.inl ⟨by rfl, fun V hSw => ?hyr11⟩) hHeld ?restr11
                      case hyr11 => (obtain ⟨hs0, hs1, hs2, hs3, hs4, hs5⟩ := hSw); go_simp; try with_reducible rfl
                      try simp only [Act.put, List.getElem_toArray, List.getElem_cons_zero, List.getElem_cons_succ, List.setIfInBounds_toArray, List.set_cons_zero, List.set_cons_succ]
                      refine wpAnyU_pure (i := 12) (v := ?vr12) rfl (by kernel_rfl) (by kernel_rfl) (by kernel_rfl) (by kernel_rfl) (fun _ _ _ h => h) (Or.inl ⟨by rfl, fun V _ => ?hyr12⟩) (fun _ => hHeld) ?restr12
                      case hyr12 => go_simp; try with_reducible rfl
                      try simp only [Act.put, List.getElem_toArray, List.getElem_cons_zero, List.getElem_cons_succ, List.setIfInBounds_toArray, List.set_cons_zero, List.set_cons_succ]
                      refine wpAnyU_load (i := 13) (v := ?vr13) rfl (by kernel_rfl) (by kernel_rfl) (by kernel_rfl) (by kernel_rfl) (fun _ _ _ h => h) (Or.inl ⟨by rfl, fun V hSw => ?hyr13⟩) hHeld ?restr13
                      case hyr13 => (obtain ⟨hs0, hs1, hs2, hs3, hs4, hs5⟩ := hSw); go_simp; try with_reducible rfl
                      try simp only [Act.put, List.getElem_toArray, List.getElem_cons_zero, List.getElem_cons_succ, List.setIfInBounds_toArray, List.set_cons_zero, List.set_cons_succ]
                      refine wpAnyU_load (i := 14) (v := ?vr14) rfl (by kernel_rfl) (by kernel_rfl) (by kernel_rfl) (by kernel_rfl) (fun _ _ _ h => h) (Or.inl ⟨by rfl, fun V hSw => ?hyr14⟩) hHeld ?restr14
                      case hyr14 => (obtain ⟨hs0, hs1, hs2, hs3, hs4, hs5⟩ := hSw); go_simp; try with_reducible rfl
                      try simp only [Act.put, List.getElem_toArray, List.getElem_cons_zero, List.getElem_cons_succ, List.setIfInBounds_toArray, List.set_cons_zero, List.set_cons_succ]
                      refine wpAnyU_ready (rs := [15]) (by kernel_rfl) (by simp) (AllU.cons (i := 15) rfl (fun K hK => ?_) AllU.nil)
                      simp only [List.getElem_toArray, List.getElem_cons_zero, List.getElem_cons_succ]
                      go_simp
                      have HBA := Lib.hid (show Below W6.heap.size W6 (W6.alloc (.cells #[.int .i64 xf, .int .i64 xt, .int .i64 xm, .int .i64 xo] 63)).drew from ((Below.refl _ _).alloc (Nat.le_refl _) _).drew)
                      clear hHeld
                      have hHeld := HBOX.out _ HBA.out
                      refine hK.out _ _ (fun _ => hHeld) ?_
                      clear hK K
                      refine wpAnyU_ready (rs := [16]) (by kernel_rfl) (by simp) (AllU.cons (i := 16) rfl (fun K hK => ?_) AllU.nil)
                      have hown0 := own_keep (own_keep HO.out HB6.out) HBA.out
                      have hbase : z4 ≤ (W6.alloc (.cells #[.int .i64 xf, .int .i64 xt, .int .i64 xm, .int .i64 xo] 63)).drew.heap.size := Nat.le_trans (Nat.le_trans HZy.out HB6.out.size) HBA.out.size
                      refine step_append_cells _ (by rfl) _ _ _ (by rfl) z4 63 4 32 i0 _ Try.underlying60 hi hi0 hi1 hi2 rfl (by decide) v (innL c N l a t).length (acsV (innL c N l a t)) (by rfl) (by exact hown0) ⟨W6.heap.size, 0, none⟩ 1 1 (acV ⟨xf, xt, xm, xo⟩) (by rfl) (by rfl) (by exact one_arc W6 ⟨xf, xt, xm, xo⟩ _) (by exact acV_one _) (by have := HLN.out; omega) (by decide) (by exact hbase) ?_
                      intro v' w2' hown hgrow hat
                      obtain ⟨A', c', hve, hcc⟩ := own_any hown
                      have HRW := Lib.hid (((HRS.out.below HB6.out).below HBA.out).grow HRF.out (l := innL c N l a t) ⟨HVF.out, rfl⟩ hown hgrow hat)
                      rw [hve] at HRW
                      rw [hve] at hown hat ⊢
                      have hb2' := below_own hown0 hgrow hbase
                      have HB2' := Lib.hid hb2'
                      have hz6 := HZ6.out
                      have hc2 : w2'.cell? ⟨bw, a, none⟩ = some v := (hb2'.cell (p := ⟨bw, a, none⟩) hbz).trans ((HBA.out.cell (p := ⟨bw, a, none⟩) (by show bw < _; omega)).trans ((HB6.out.cell (p := ⟨bw, a, none⟩) hbq).trans hv))
                      have hc3 : w2'.cell? ⟨w.heap.size + 1, xf, none⟩ = some (.int .i64 (a : Nat)) := (hb2'.cell (p := ⟨w.heap.size + 1, xf, none⟩) (by show w.heap.size + 1 < z4; omega)).trans hHeld.2.2.2.2.1
                      have hf2 : w2'.frozen? ⟨bw, a, none⟩ = false := (hb2'.frozen (p := ⟨bw, a, none⟩) hbz).trans ((HBA.out.frozen (p := ⟨bw, a, none⟩) (by show bw < _; omega)).trans HF6.out)
                      have hbx : ∀ i, w2'.cell? ⟨wr.heap.size, i, none⟩ = (W6.alloc (.cells #[.int .i64 xf, .int .i64 xt, .int .i64 xm, .int .i64 xo] 63)).drew.cell? ⟨wr.heap.size, i, none⟩ := fun i => hgrow.cell_far ⟨wr.heap.size, i, none⟩ (by show wr.heap.size < (W6.alloc _).heap.size; simp; omega) (own_apartN HO.out (Nat.le_refl _))
                      have d0 := (hbx 0).trans hHeld.1
                      have d1 := (hbx 1).trans hHeld.2.1
                      have d2 := (hbx 2).trans hHeld.2.2.1
                      have d3 := (hbx 3).trans hHeld.2.2.2.1
                      clear hve hown0 hown hgrow hat hb2' hHeld hbx
                      have hHeld := And.intro d0 (And.intro d1 (And.intro d2 (And.intro d3 (And.intro hc3 hc2))))
                      clear d0 d1 d2 d3 hc3 hz6
                      refine hK.out _ _ (fun _ => hHeld) ?_
                      clear hK K
                      refine wpAnyU_pure (i := 17) (v := ?vs17) rfl (by kernel_rfl) (by kernel_rfl) (by kernel_rfl) (by kernel_rfl) (fun _ _ _ h => h) (Or.inl ⟨by rfl, fun V _ => ?hys17⟩) (fun _ => hHeld) ?rests17
                      case hys17 => go_simp; try with_reducible rfl
                      try simp only [Act.put, List.getElem_toArray, List.getElem_cons_zero, List.getElem_cons_succ, List.setIfInBounds_toArray, List.set_cons_zero, List.set_cons_succ]
                      refine wpAnyU_ready (rs := [18]) (by kernel_rfl) (by simp) (AllU.cons (i := 18) rfl (fun K hK => ?_) AllU.nil)
                      simp only [List.getElem_toArray, List.getElem_cons_zero, List.getElem_cons_succ]
                      go_simp
                      refine hK.out _ _ (fun h => by have h2 : false = true := h; cases h2) ?_
                      clear hK K
                      refine wpAnyU_done (by kernel_rfl) ?_ _
                      clear hHeld
                      go_wp2_with fail
                      go_roundg q
                      case measure => omega
                      case rel =>
                        have hz6 := HZ6.out
                        have hA6 : bw < W6.heap.size := by omega
                        refine ⟨t + 1, putV V a (.slice A' ((innL c N l a t).length + 1) c'), by omega, by go_num, (((HV.out.of_block (HB6.out.block _ hbq)).of_block (HBA.out.block _ hA6)).of_block (HB2'.out.block _ hbz)).set a _, ?_, ?_, ?_, ?_⟩
                        · have h1 := (HRW.out.put (a := ⟨bw, a, none⟩) hbz (.slice A' ((innL c N l a t).length + 1) c')).lists (L' := fun p => innL c N l p (t + 1)) (fun p hp => by
                            show putA _ a _ p = innL c N l p (t + 1)
                            unfold putA
                            by_cases e : p = a
                            · subst e
                              rw [if_pos rfl]
                              have h := HX.out
                              simp only [HAF.out] at h
                              exact h.symm
                            · rw [if_neg e, HY.out p (fun h => e h.symm)])
                          exact h1
                        · exact (((HBy.out.trans (HB6.out.mono HBy.out.size)).trans (HBA.out.mono (Nat.le_trans HBy.out.size HB6.out.size))).trans (HB2'.out.mono (by omega))).setCell (p := ⟨bw, a, none⟩) (by show w.heap.size ≤ bw; omega) _
                        · intro j h1 h2
                          exact (blk_setCell_other _ _ _ _ h1).trans ((HB2'.out.block j h2).trans ((HBA.out.block j (by have := HZy.out; omega)).trans ((HB6.out.block j (by have := HZy.out; omega)).trans (HKP.out j h1 h2))))
                        · have := Nat.le_trans hbase HB2'.out.size
                          show _ ≤ _
                          simpa using this
                    · have e3 : bits .and .i64 (xo : Int) (c.n' : Int) = ((xo &&& c.n' : Nat) : Int) := and_i64 _ _ HMB.out.2 HC.out.2.2.1
                      have HY := Lib.hid (fun p => HNO.out p _ HXX.out (.inl (by unfold okA; rw [H1.out, beq_false_of_ne h2, Bool.and_false])))
                      generalize xo &&& c.n' = r2 at *
                      have e4 : ((r2 : Int) == 0) = false := by simpa using h2
                      clear HYES HNO HXX H1 HMB h2
                      go_wp2_with fail
                      go_quiet (fail)
                      go_wp2_with fail
                      have HBA := Lib.hid (show Below wr.heap.size wr (World.drewN (wr.alloc (.cells #[.int .i64 xf, .int .i64 xt, .int .i64 xm, .int .i64 xo] 63)) nq) from below_drewN ((Below.refl _ _).alloc (Nat.le_refl _) _) _)
                      go_roundg q
                      case measure => omega
                      case rel =>
                        refine ⟨t + 1, V, by omega, by go_num, HV.out.of_block (HBA.out.block _ (by have := HZy.out; omega)), (HRS.out.below HBA.out).lists (fun p _ => (HY.out p).symm), HBy.out.trans (HBA.out.mono HBy.out.size), ?_, Nat.le_trans HZy.out HBA.out.size⟩
                        intro j h1 h2
                        exact (HBA.out.block j (by have := HZy.out; omega)).trans (HKP.out j h1 h2)
                  · have e2 : bits .and .i64 (xm : Int) (c.n : Int) = ((xm &&& c.n : Nat) : Int) := and_i64 _ _ HMB.out.1 HC.out.1
                    have HY := Lib.hid (fun p => HNO.out p _ HXX.out (.inl (by unfold okA; rw [beq_false_of_ne h1, Bool.false_and])))
                    generalize xm &&& c.n = r2 at *
                    have e4 : ((r2 : Int) == 0) = false := by simpa using h1
                    clear HYES HNO HXX HMB h1
                    go_wp2_with fail
                    go_quiet (fail)
                    go_wp2_with fail
                    have HBA := Lib.hid (show Below wr.heap.size wr (World.drewN (wr.alloc (.cells #[.int .i64 xf, .int .i64 xt, .int .i64 xm, .int .i64 xo] 63)) nq) from below_drewN ((Below.refl _ _).alloc (Nat.le_refl _) _) _)
                    go_roundg q
                    case measure => omega
                    case rel =>
                      refine ⟨t + 1, V, by omega, by go_num, HV.out.of_block (HBA.out.block _ (by have := HZy.out; omega)), (HRS.out.below HBA.out).lists (fun p _ => (HY.out p).symm), HBy.out.trans (HBA.out.mono HBy.out.size), ?_, Nat.le_trans HZy.out HBA.out.size⟩
                      intro j h1 h2
                      exact (HBA.out.block j (by have := HZy.out; omega)).trans (HKP.out j h1 h2)
                · have e1 : ((a : Int) == (b' : Int)) = false := by rw [beq_eq_false_iff_ne]; omega
                  have HY := Lib.hid (fun p => HNO.out p _ HXX.out (.inr (.inl (by rw [HAF.out, HBT.out]; exact hab))))
                  clear HYES HNO HXX HMB hab
                  go_wp2_with fail
                  go_quiet (fail)
                  go_wp2_with fail
                  have HBA := Lib.hid (show Below wr.heap.size wr (World.drewN (wr.alloc (.cells #[.int .i64 xf, .int .i64 xt, .int .i64 xm, .int .i64 xo] 63)) nq) from below_drewN ((Below.refl _ _).alloc (Nat.le_refl _) _) _)
                  go_roundg q
                  case measure => omega
                  case rel =>
                    refine ⟨t + 1, V, by omega, by go_num, HV.out.of_block (HBA.out.block _ (by have := HZy.out; omega)), (HRS.out.below HBA.out).lists (fun p _ => (HY.out p).symm), HBy.out.trans (HBA.out.mono HBy.out.size), ?_, Nat.le_trans HZy.out HBA.out.size⟩
                    intro j h1 h2
                    exact (HBA.out.block j (by have := HZy.out; omega)).trans (HKP.out j h1 h2)
        | succ q =>
          have ht1 : t < n := by omega
          have hti2 : (t : Int) < (n : Int) := by omega
          have hcl := HR.out.cell ht1
          have hran := HPI.out.range t ht1
          obtain ⟨o, ho, HO⟩ : ∃ o, O t = o ∧ Hid (O t = o) := ⟨_, rfl, rfl⟩
          rw [ho] at hcl hran
          clear ho
          by_cases h0 : 0 ≤ o
          · have HPS := Lib.hid (HPI.out.skip (by rw [HO.out]; exact h0))
            go_wp2_with fail
            go_roundg q
            case measure => omega
            case rel => exact ⟨t + 1, O, m, by omega, by go_num, HR, HW, HPS, HBx, HKP, HZx⟩
          · have hom : o = -1 := by omega
            subst hom
            clear hran
            have hz0 : w.heap.size + 1 < wr.heap.size := by have := HZx.out; omega
            have q0 := (World.cell?_of_block (a := ⟨w.heap.size, 0, none⟩) (HKP.out w.heap.size (by omega) (by omega))).trans (HP2.out 0)
            have q1 := (World.cell?_of_block (a := ⟨w.heap.size, 1, none⟩) (HKP.out w.heap.size (by omega) (by omega))).trans (HP2.out 1)
            have q2 := (World.cell?_of_block (a := ⟨w.heap.size, 2, none⟩) (HKP.out w.heap.size (by omega) (by omega))).trans (HP2.out 2)
            have q3 := (World.cell?_of_block (a := ⟨w.heap.size, 3, none⟩) (HKP.out w.heap.size (by omega) (by omega))).trans (HP2.out 3)
            go_upto_region 13 with fail
            obtain ⟨z4, hz4, HZ4⟩ : ∃ z4, wr.heap.size = z4 ∧ Hid (wr.heap.size = z4) := ⟨_, rfl, rfl⟩
            obtain ⟨W4, hW4⟩ : ∃ W4, wr.alloc (.cells (madeCells #[.bool false] n) 4) = W4 := ⟨_, rfl⟩
            have HF4 := Lib.hid (show FlagsIn W4 z4 n (fun _ => false) by rw [← hW4, ← hz4]; exact FlagsIn.made wr n)
            have HB4 := Lib.hid (show Below z4 wr W4 by rw [← hW4, ← hz4]; exact (Below.refl _ _).alloc (Nat.le_refl _) _)
            rw [hW4]
            rw [hz4] at hz0 ⊢
            clear hW4 hz4
            have hf4 := HF4.out.cell ht1
            have hf5 := HF4.out.free t
            go_upto_region 14 with fail
            obtain ⟨W5, hW5⟩ : ∃ W5, W4.setCell ⟨z4, t, none⟩ (.bool true) = W5 := ⟨_, rfl⟩
            have HF5 := Lib.hid (show FlagsIn W5 z4 n (updB (fun _ => false) t) by rw [← hW5]; exact HF4.out.upd t)
            have HB5 := Lib.hid (show Below z4 wr W5 by rw [← hW5]; exact HB4.out.setCell (Nat.le_refl _) _)
            rw [hW5]
            clear hW5 hf4 hf5
            have HZ5 := Lib.hid (show z4 < W5.heap.size from HF5.out.lt)
            have HBw5 := Lib.hid (HBx.out.trans (HB5.out.mono (by omega)))
            have p0 := (HB5.out.cell (p := ⟨w.heap.size, 0, none⟩) (by show w.heap.size < z4; omega)).trans q0
            have p1 := (HB5.out.cell (p := ⟨w.heap.size, 1, none⟩) (by show w.heap.size < z4; omega)).trans q1
            have p2 := (HB5.out.cell (p := ⟨w.heap.size, 2, none⟩) (by show w.heap.size < z4; omega)).trans q2
            have p3 := (HB5.out.cell (p := ⟨w.heap.size, 3, none⟩) (by show w.heap.size < z4; omega)).trans q3
            clear q0 q1 q2 q3
            have HK5 := Lib.hid (show KeptIn (w.heap.size + 2) z2 w2 W5 from fun j h1 h2 => (HB5.out.block j (by have := HZx.out; have := HZ4.out; omega)).trans (HKP.out j (by omega) h2))
            have HC1 := Lib.hid (fun W (hW : Below W5.heap.size W5 W) => reach_walk n na ca n z4 A l (updB (fun _ => false) t) c W (HA.out.below (HBw5.out.trans (hW.mono HBw5.out.size))) (HF5.out.below hW) hn hna HL.out HC.out)
            have HC2 := Lib.hid (fun W (hW : Below W5.heap.size W5 W) => reach_walk n na cb n z4 Ab (turnAL l) (updB (fun _ => false) t) c W (((HAB.out.kept HK5.out).kept (KeptIn.below (hW.mono (by have := HZ5.out; have := HZ4.out; have := HZx.out; omega)))).wide (Nat.zero_le _) (by have := hW.size; have := HZ5.out; have := HZ4.out; have := HZx.out; omega)) (HF5.out.below hW) hn hna HLT.out HC.out)
            refine wp_region_until_drew (st := []) (S := fun V => V.cell? ⟨w.heap.size, 0, none⟩ = some (.int .i64 c.n) ∧ V.cell? ⟨w.heap.size, 1, none⟩ = some (.int .i64 c.a) ∧ V.cell? ⟨w.heap.size, 2, none⟩ = some (.int .i64 c.n') ∧ V.cell? ⟨w.heap.size, 3, none⟩ = some (.int .i64 c.a')) (by kernel_rfl) ⟨p0, p1, p2, p3⟩ (fun hHeld => ?_)
            refine wpAnyU_pure (i := 0) (v := ?vo0) rfl (by kernel_rfl) (by kernel_rfl) (by kernel_rfl) (by kernel_rfl) (fun _ _ _ h => h) (Or.inl ⟨by rfl, fun V _ => ?hyo0⟩) (fun _ => hHeld) ?resto0
            case hyo0 => go_simp; try with_reducible rfl
            try simp only [Act.put, List.getElem_toArray, List.getElem_cons_zero, List.getElem_cons_succ, List.setIfInBounds_toArray, List.set_cons_zero, List.set_cons_succ]
            refine wpAnyU_pure (i := 1) (v := ?vo1) rfl (by kernel_rfl) (by kernel_rfl) (by kernel_rfl) (by kernel_rfl) (fun _ _ _ h => h) (Or.inl ⟨by rfl, fun V _ => ?hyo1⟩) (fun _ => hHeld) ?resto1
            case hyo1 => go_simp; try with_reducible rfl
            try simp only [Act.put, List.getElem_toArray, List.getElem_cons_zero, List.getElem_cons_succ, List.setIfInBounds_toArray, List.set_cons_zero, List.set_cons_succ]
            refine wpAnyU_pure (i := 2) (v := ?vo2) rfl (by kernel_rfl) (by kernel_rfl) (by kernel_rfl) (by kernel_rfl) (fun _ _ _ h => h) (Or.inl ⟨by rfl, fun V _ => ?hyo2⟩) (fun _ => hHeld) ?resto2
            case hyo2 => go_simp; try with_reducible rfl
            try simp only [Act.put, List.getElem_toArray, List.getElem_cons_zero, List.getElem_cons_succ, List.setIfInBounds_toArray, List.set_cons_zero, List.set_cons_succ]
            refine wpAnyU_load (i := 3) (v := ?vo3) rfl (by kernel_rfl) (by kernel_rfl) (by kernel_rfl) (by kernel_rfl) (fun _ _ _ h => h) (Or.inl ⟨by rfl, fun V hSw => ?hyo3⟩) hHeld ?resto3
            case hyo3 => (obtain ⟨hs0, hs1, hs2, hs3⟩ := hSw); go_simp; try with_reducible rfl
            try simp only [Act.put, List.getElem_toArray, List.getElem_cons_zero, List.getElem_cons_succ, List.setIfInBounds_toArray, List.set_cons_zero, List.set_cons_succ]
            refine wpAnyU_pure (i := 5) (v := ?vo5) rfl (by kernel_rfl) (by kernel_rfl) (by kernel_rfl) (by kernel_rfl) (fun _ _ _ h => h) (Or.inl ⟨by rfl, fun V _ => ?hyo5⟩) (fun _ => hHeld) ?resto5
            case hyo5 => go_simp; try with_reducible rfl
            try simp only [Act.put, List.getElem_toArray, List.getElem_cons_zero, List.getElem_cons_succ, List.setIfInBounds_toArray, List.set_cons_zero, List.set_cons_succ]
            refine wpAnyU_pure (i := 6) (v := ?vo6) rfl (by kernel_rfl) (by kernel_rfl) (by kernel_rfl) (by kernel_rfl) (fun _ _ _ h => h) (Or.inl ⟨by rfl, fun V _ => ?hyo6⟩) (fun _ => hHeld) ?resto6
            case hyo6 => go_simp; try with_reducible rfl
            try simp only [Act.put, List.getElem_toArray, List.getElem_cons_zero, List.getElem_cons_succ, List.setIfInBounds_toArray, List.set_cons_zero, List.set_cons_succ]
            refine wpAnyU_pure (i := 7) (v := ?vo7) rfl (by kernel_rfl) (by kernel_rfl) (by kernel_rfl) (by kernel_rfl) (fun _ _ _ h => h) (Or.inl ⟨by rfl, fun V _ => ?hyo7⟩) (fun _ => hHeld) ?resto7
            case hyo7 => go_simp; try with_reducible rfl
            try simp only [Act.put, List.getElem_toArray, List.getElem_cons_zero, List.getElem_cons_succ, List.setIfInBounds_toArray, List.set_cons_zero, List.set_cons_succ]
            refine wpAnyU_load (i := 8) (v := ?vo8) rfl (by kernel_rfl) (by kernel_rfl) (by kernel_rfl) (by kernel_rfl) (fun _ _ _ h => h) (Or.inl ⟨by rfl, fun V hSw => ?hyo8⟩) hHeld ?resto8
            case hyo8 => (obtain ⟨hs0, hs1, hs2, hs3⟩ := hSw); go_simp; try with_reducible rfl
            try simp only [Act.put, List.getElem_toArray, List.getElem_cons_zero, List.getElem_cons_succ, List.setIfInBounds_toArray, List.set_cons_zero, List.set_cons_succ]
            refine wpAnyU_ready (rs := [4]) (by kernel_rfl) (by simp) (AllU.cons (i := 4) rfl (fun K hK => ?_) AllU.nil)
            simp only [List.getElem_toArray, List.getElem_cons_zero, List.getElem_cons_succ]
            go_simp
            refine (HC1.out _ (Below.refl _ _).drew).mono ?_
            rintro e w6 ⟨g1, F1, cap1, rfl, hf1, hg1, hcap1, hr1, hb6⟩
            have hb6 : Below W5.heap.size W5 w6 := (Below.refl _ _).drew.trans hb6
            have HB6 := Lib.hid hb6
            have HF1 := Lib.hid hf1
            have HR1 := Lib.hid hr1
            have HG1 := Lib.hid (show W5.heap.size ≤ g1 from hg1)
            have e0 := (hb6.cell (p := ⟨w.heap.size, 0, none⟩) (by show w.heap.size < _; have := HZ5.out; omega)).trans p0
            have e1 := (hb6.cell (p := ⟨w.heap.size, 1, none⟩) (by show w.heap.size < _; have := HZ5.out; omega)).trans p1
            have e2 := (hb6.cell (p := ⟨w.heap.size, 2, none⟩) (by show w.heap.size < _; have := HZ5.out; omega)).trans p2
            have e3 := (hb6.cell (p := ⟨w.heap.size, 3, none⟩) (by show w.heap.size < _; have := HZ5.out; omega)).trans p3
            clear hb6 hf1 hr1 hg1 p0 p1 p2 p3 hHeld
            have hHeld := And.intro e0 (And.intro e1 (And.intro e2 e3))
            refine hK.out _ _ (fun _ => hHeld) ?_
            clear hK K
            refine wpAnyU_ready (rs := [9]) (by kernel_rfl) (by simp) (AllU.cons (i := 9) rfl (fun K hK => ?_) AllU.nil)
            simp only [List.getElem_toArray, List.getElem_cons_zero, List.getElem_cons_succ]
            go_simp
            refine (HC2.out _ HB6.out).mono ?_
            rintro e w7 ⟨g2, F2, cap2, rfl, hf2, hg2, hcap2, hr2, hb7⟩
            have HB7 := Lib.hid (HB6.out.trans (hb7.mono HB6.out.size))
            have HF2 := Lib.hid hf2
            have HF1' := Lib.hid (HF1.out.below hb7)
            have HR2 := Lib.hid hr2
            have HG2 := Lib.hid (Nat.le_trans HB6.out.size hg2)
            have k0 := (hb7.cell (p := ⟨w.heap.size, 0, none⟩) (by show w.heap.size < _; have := HZ5.out; have := HB6.out.size; omega)).trans e0
            have k1 := (hb7.cell (p := ⟨w.heap.size, 1, none⟩) (by show w.heap.size < _; have := HZ5.out; have := HB6.out.size; omega)).trans e1
            have k2 := (hb7.cell (p := ⟨w.heap.size, 2, none⟩) (by show w.heap.size < _; have := HZ5.out; have := HB6.out.size; omega)).trans e2
            have k3 := (hb7.cell (p := ⟨w.heap.size, 3, none⟩) (by show w.heap.size < _; have := HZ5.out; have := HB6.out.size; omega)).trans e3
            clear hb7 hf2 hr2 hg2 hHeld HF1
            have hHeld := And.intro k0 (And.intro k1 (And.intro k2 k3))
            refine hK.out _ _ (fun _ => hHeld) ?_
            clear hK K
            refine wpAnyU_pure (i := 10) (v := ?vq10) rfl (by kernel_rfl) (by kernel_rfl) (by kernel_rfl) (by kernel_rfl) (fun _ _ _ h => h) (Or.inl ⟨by rfl, fun V _ => ?hyq10⟩) (fun _ => hHeld) ?restq10
            case hyq10 => go_simp; try with_reducible rfl
            try simp only [Act.put, List.getElem_toArray, List.getElem_cons_zero, List.getElem_cons_succ, List.setIfInBounds_toArray, List.set_cons_zero, List.set_cons_succ]
            refine wpAnyU_pure (i := 11) (v := ?vq11) rfl (by kernel_rfl) (by kernel_rfl) (by kernel_rfl) (by kernel_rfl) (fun _ _ _ h => h) (Or.inl ⟨by rfl, fun V _ => ?hyq11⟩) (fun _ => hHeld) ?restq11
            case hyq11 => go_simp; try with_reducible rfl
            try simp only [Act.put, List.getElem_toArray, List.getElem_cons_zero, List.getElem_cons_succ, List.setIfInBounds_toArray, List.set_cons_zero, List.set_cons_succ]
            refine wpAnyU_done (by kernel_rfl) ?_ _
            clear hHeld e0 e1 e2 e3 k0 k1 k2 k3
            have HX1 := Lib.hid (show ∀ j, j < n → (F1 j = true ↔ Rc (sub c l) t j) from fun j hj => (HR1.out j hj).trans (from_one ht1))
            have HX2 := Lib.hid (show ∀ j, j < n → (F2 j = true ↔ Rc (sub c l) j t) from fun j hj => (HR2.out j hj).trans ((from_one ht1).trans (by rw [sub_turn]; exact rc_turn)))
            have HST := Lib.hid (HPI.out.step ht1 HO.out HX1.out HX2.out)
            have HR7 := Lib.hid (HR.out.of_block ((HB7.out.block _ (by have := HZ5.out; omega)).trans (HB5.out.block _ hz0)))
            have HW7 := Lib.hid (own_keep (own_keep HW.out (by have h := HB5.out; rw [← HZ4.out] at h; exact h)) HB7.out)
            have HBw7 := Lib.hid (HBw5.out.trans (HB7.out.mono HBw5.out.size))
            have HK7 := Lib.hid (show ∀ j, j ≠ w.heap.size + 1 → j < z2 → w7.heap[j]? = w2.heap[j]? from fun j h1 h2 => (HB7.out.block j (by have := HZ5.out; have := HZ4.out; have := HZx.out; omega)).trans ((HB5.out.block j (by have := HZ4.out; have := HZx.out; omega)).trans (HKP.out j h1 h2)))
            have hg1z : w.heap.size + 1 < g1 := by have := HG1.out; have := HZ5.out; omega
            have hg2z : w.heap.size + 1 < g2 := by have := HG2.out; have := HZ5.out; omega
            have hz7 : w.heap.size + 1 < w7.heap.size := by have := HF2.out.lt; omega
            have HZ7 := Lib.hid (show z2 ≤ w7.heap.size by have := HB7.out.size; have := HZ5.out; have := HZ4.out; have := HZx.out; omega)
            obtain ⟨Aw, cw, hv, _⟩ := own_any HW.out
            subst hv
            clear HC1 HC2 HX1 HX2 HR1 HR2 HG1 HG2 HB6 HB7 HF5 HB5 HK5 HF4 HB4 HBw5 HPI HR hcl hz0 HW HBx HKP
            have hmn : m ≤ n := by have := HST.out.few; omega
            go_wp2_with fail
            go_loopg [55] n (fun g i wx => ∃ u : Nat, u + g = n ∧ i = .int .i64 u ∧ Hid (wx.rowIs (w.heap.size + 1) 3 n (fun j => .int .i64 (partO F1 F2 m O u j))) ∧ Hid (∀ j, j ≠ w.heap.size + 1 → wx.heap[j]? = w7.heap[j]?) ∧ Hid (Below (w.heap.size + 1) w7 wx) ∧ Hid (wx.ownsRow z2 60 1 (.slice Aw m cw) m (List.replicate m (.slice none 0 0))))
            case atStart => exact ⟨0, by omega, rfl, HR7.out.congr (fun j _ => by unfold partO; rw [if_neg (fun h => by have := h.1; omega)]), (fun _ _ => rfl), Below.refl _ _, HW7.out⟩
            case round =>
              clear HR7 HW7
              obtain ⟨u, hug, rfl, HR, HKP, HBx, HW⟩ := hrel
              have hu0 : (0 : Int) ≤ (u : Int) := by omega
              cases gk with
              | zero =>
                obtain rfl : n = u := by omega
                have hZ := HBx.out.size
                have HZr := Lib.hid (show z2 ≤ wr.heap.size by have := HZ7.out; omega)
                have HBr := Lib.hid (HBw7.out.trans (HBx.out.mono (by omega)))
                clear hZ
                go_wp2_with (at_builtin; refine wpList_append_cells _ (by rfl) _ _ 112 (by rfl) z2 60 1 24 j0 _ Try.underlying112 hj hj0 hj1 hj2 rfl (by decide) (.slice Aw m cw) m (List.replicate m (.slice none 0 0)) (by rfl) (by exact HW.out.alloc _) ⟨wr.heap.size, 0, none⟩ 1 1 [.slice none 0 0] (by rfl) (by rfl) (by intro j u hu; rw [Addr.add_lit, Nat.zero_add, box_last]; simpa using hu) (by intro u hu; rw [List.mem_singleton.1 hu]; rfl) (by omega) (by decide) (by have := HZr.out; simp; omega) ?_)
                intro v' w8 hown hgrow _
                have hb8 := below_own (HW.out.alloc (.cells #[.slice none 0 0] 60)) hgrow (by have := HZr.out; simp; omega)
                have HB8 := Lib.hid (((Below.refl z2 _).alloc HZr.out (.cells #[.slice none 0 0] 60)).trans hb8)
                have HO8 := Lib.hid hown
                clear hown hgrow hb8
                go_wp2_with fail
                go_roundg q
                case measure => omega
                case rel =>
                  refine ⟨t + 1, partO F1 F2 m O n, m + 1, by omega, by go_num, HR.out.of_block (HB8.out.block _ (by omega)), ?_, HST, HBr.out.trans (HB8.out.mono (by omega)), ?_, Nat.le_trans HZr.out HB8.out.size⟩
                  · show World.ownsRow _ _ _ _ _ _ _
                    rw [List.replicate_succ']; exact HO8.out
                  · intro j h1 h2
                    exact (HB8.out.block j h2).trans ((HKP.out j h1).trans (HK7.out j h1 h2))
              | succ p =>
                have hu1 : u < n := by omega
                have hu2 : (u : Int) < (n : Int) := by omega
                have kf1 := (HF1'.out.of_block (HKP.out g1 (by omega))).cell hu1
                have kf2 := (HF2.out.of_block (HKP.out g2 (by omega))).cell hu1
                have hfz := HR.out.frozen u
                have hcl := HR.out.cell hu1
                have hzr : w.heap.size + 1 < wr.heap.size := by have := HBx.out.size; omega
                have HRS := Lib.hid (HR.out.set u (.int .i64 (m : Int)))
                have HZr := Lib.hid hzr
                cases hF1 : F1 u
                · rw [hF1] at kf1
                  have HX := Lib.hid (fun j => partO_no (O := O) (m := m) (F1 := F1) (F2 := F2) (u := u) (j := j) (by rw [hF1]; exact fun h => by cases h.1))
                  clear hF1 kf2 hfz hcl HRS
                  go_wp2_with fail
                  go_roundg p
                  case measure => omega
                  case rel => exact ⟨u + 1, by omega, by go_num, HR.out.congr (fun j _ => by rw [HX.out j]), HKP, HBx, HW⟩
                · rw [hF1] at kf1
                  cases hF2 : F2 u
                  · rw [hF2] at kf2
                    have HX := Lib.hid (fun j => partO_no (O := O) (m := m) (F1 := F1) (F2 := F2) (u := u) (j := j) (by rw [hF2]; exact fun h => by cases h.2))
                    clear hF1 hF2 hfz hcl HRS
                    go_wp2_with fail
                    go_roundg p
                    case measure => omega
                    case rel => exact ⟨u + 1, by omega, by go_num, HR.out.congr (fun j _ => by rw [HX.out j]), HKP, HBx, HW⟩
                  · rw [hF2] at kf2
                    have HX := Lib.hid (fun j => partO_yes (O := O) (m := m) (F1 := F1) (F2 := F2) (u := u) (j := j) ⟨hF1, hF2⟩)
                    clear hF1 hF2
                    go_wp2_with fail
                    go_roundg p
                    case measure => omega
                    case rel =>
                      refine ⟨u + 1, by omega, by go_num, HRS.out.congr (fun j _ => ?_), fun j hj => (blk_setCell_other _ _ _ _ hj).trans (HKP.out j hj), HBx.out.setCell (p := ⟨w.heap.size + 1, u, none⟩) (by simp) _, ownsRow_setCell_below HW.out (by show w.heap.size + 1 < z2; omega) _⟩
                      rw [HX.out j]
                      by_cases e : j = u
                      · rw [if_pos e, if_pos e]
                      · rw [if_neg e, if_neg e]
    | succ q =>
      have ht1 : t < n := by omega
      have hti2 : (t : Int) < (n : Int) := by omega
      have hfz := HR.out.frozen t
      have hcl := HR.out.cell ht1
      have hz0 := HZ.out
      have hz00 : w.heap.size + 1 < wr.heap.size := by omega
      rw [if_neg (Nat.lt_irrefl t)] at hcl
      go_wp2_with fail
      go_roundg q
      case measure => omega
      case rel =>
        refine ⟨t + 1, by omega, by go_num, (HR.out.set t (.int .i64 (-1))).congr (fun j hj => ?_), HBx.out.setCell (p := ⟨w.heap.size + 1, t, none⟩) (by simp) _, by show _ = _; simp [hz0]⟩
        by_cases e : j = t
        · subst e; rw [if_pos rfl, if_pos (by omega)]
        · rw [if_neg e]
          by_cases h : j < t
          · rw [if_pos h, if_pos (by omega)]
          · rw [if_neg h, if_neg (by omega)]

end Go.Proofs.Ytalgbcndifaaiaa.Wd
