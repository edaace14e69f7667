/-
  Play of the reference, where the game and the choices are valid.
-/
import Derived.Test.YtffdbncjndnnaaaGaPlayE
import Derived.Test.YtffdbncjndnnaaaGaRefSub
namespace Go.Proofs.Ytffdbncjndnnaaa.Wd
open Go.RowKit
set_option linter.unusedVariables false
set_option linter.unusedSimpArgs false

/-- The greatest priority of the positions, or 0. -/
def topQ (P : List Int) (l : List Int) : Int := l.foldl (fun m v => max m (P.getD v.toNat 0)) 0
theorem topQ_next (P l : List Int) {k : Nat} (h : k < l.length) : topQ P (l.take (k + 1)) = max (topQ P (l.take k)) (P.getD (l.getD k 0).toNat 0) := by
  have e : l.take (k + 1) = l.take k ++ [l.getD k 0] := by
    rw [List.take_succ_eq_append_getElem h]
    simp [List.getD_eq_getElem?_getD, List.getElem?_eq_getElem h]
  unfold topQ
  rw [e, List.foldl_append]
  rfl
theorem topQ_le (P l : List Int) (h : ∀ v ∈ l, P.getD v.toNat 0 ≤ 60) : -1 ≤ topQ P l ∧ topQ P l ≤ 60 := foldmax_le P l 0 h (by omega) (by omega)
theorem topQ_eq {P l : List Int} (hn : 0 < l.length) (h : ∀ v ∈ l, 0 ≤ P.getD v.toNat 0) : topQ P l = topP P l := by
  cases l with
  | nil => simp at hn
  | cons v l =>
    unfold topQ topP
    simp only [List.foldl_cons]
    have := h v (List.mem_cons_self ..)
    rw [show max 0 (P.getD v.toNat 0) = max (-1) (P.getD v.toNat 0) by omega]

set_option maxRecDepth 100000 in
set_option maxHeartbeats 16000000 in
theorem refPlay_good (a p x A : Option Addr) (n c m d k e na ca f : Nat) (G : Gm) (ch : List Int) (w : World) (h : GameIn w a n p m x k G) (hA : Ints w A na ch) (hv : gmB G = true) (hna : na = G.X.length) (hf : f < G.X.length) (hch : ∀ v, v < G.X.length → hasB (G.X.getD v []) (ch.getD v 0) = true) :
    Calls Try.prog 13 #[.agg #[.slice a n c, .slice p m d, .slice x k e], .slice A na ca, .int .i64 f] w fun r w' =>
      ∃ i t A1 c1 A2 c2, r = .returned (.tuple #[.slice A1 i c1, .slice A2 (t - i) c2, .int .i64 ((topP G.P ((pathL ch f t).drop i)).tmod 2), .int .i64 0]) ∧ Meet ch f i t ∧ t ≤ na ∧ Ints w' A1 i ((pathL ch f t).take i) ∧ Ints w' A2 (t - i) ((pathL ch f t).drop i) ∧ Below w.heap.size w w' := by
  obtain ⟨hg1, hg2, hg3, hg4⟩ := gmB_true hv
  have hxl := h.x.1
  have hol := h.o.1
  have hpl := h.p.1
  have hal := hA.1
  obtain rfl : n = k := by omega
  obtain rfl : m = n := by omega
  obtain rfl : na = m := by omega
  have hn0 : (0 : Int) ≤ (na : Int) := by omega
  obtain ⟨W0, hW0⟩ : ∃ W0, w.alloc (.cells #[.slice a na c, .slice p na d, .slice x na e] 25) = W0 := ⟨_, rfl⟩
  have HBW := Lib.hid (show Below w.heap.size w W0 by rw [← hW0]; exact (Below.refl _ _).alloc (Nat.le_refl _) _)
  have HV := Lib.hid (refValidG_any a p x na c na d na e G W0 (h.below HBW.out) (by omega) (by omega) (fun v => by have := gmB_len hv v; omega))
  rw [hv] at HV
  obtain ⟨q0, q1, q2⟩ := box_game w (.slice a na c) (.slice p na d) (.slice x na e) 25
  rw [hW0] at q0 q1 q2
  have hz0 : w.heap.size < W0.heap.size := by rw [← hW0]; simp
  have hrange : ∀ v, v < na → 0 ≤ ch.getD v 0 ∧ ch.getD v 0 < na := fun v hvn => by
    have := choice_in hv (show v < G.X.length by omega) (hch v (by omega))
    omega
  have H0 := Lib.hid (h.below HBW.out)
  have HA := Lib.hid (hA.below HBW.out)
  have HCH := Lib.hid (fun v (hvn : v < na) => hch v (by omega))
  have HLEN := Lib.hid (fun v => gmB_len hv v)
  have HRG := Lib.hid hrange
  have HPR := Lib.hid (show ∀ v : Int, 0 ≤ v → v < na → 0 ≤ G.P.getD v.toNat 0 ∧ G.P.getD v.toNat 0 ≤ 60 from fun v h0 h1 => ⟨(posB_true (hg4 v.toNat (by omega))).2.1, (posB_true (hg4 v.toNat (by omega))).2.2.1⟩)
  have hf1 : (f : Int) < (na : Int) := by omega
  have hf0 : (0 : Int) ≤ (f : Int) := by omega
  have hfn : f < na := by omega
  have hnn : ((na : Int) != (na : Int)) = false := by simp
  have hf3 : ¬ na ≤ f := by omega
  have hf4 : ¬ (f : Int) < 0 := by omega
  have hn2 : na ≤ 20000 := by omega
  have hmk := run_make_row' (P := Try.prog) 22 3 (.int .i64 0) 8 Try.underlying22 g_ints_info rfl .i64 .i64 na (by omega) (by omega)
  have HMK := Lib.hid hmk
  obtain ⟨i0, hi, hi0, hi1, hi2⟩ := g_info_parts g_ints_info
  clear h hA hv hch hrange hg4 hg1 hg2 hg3 hxl hol hpl hal hf hna hmk
  go_enter Try.func13, Try.ntmps13
  go_wp2_with fail
  clear hW0
  refine HV.out.mono ?_
  rintro r w1 ⟨rfl, hb1⟩
  have HB1 := Lib.hid hb1
  have k0 := (hb1.cell (p := ⟨w.heap.size, 0, none⟩) hz0).trans q0
  have k1 := (hb1.cell (p := ⟨w.heap.size, 1, none⟩) hz0).trans q1
  have k2 := (hb1.cell (p := ⟨w.heap.size, 2, none⟩) hz0).trans q2
  have hz1 : w.heap.size < w1.heap.size := by have := hb1.size; omega
  clear hb1 q0 q1 q2
  go_wp2_with fail
  go_loopg [41] na (fun g i wx => ∃ j : Nat, j + g = na ∧ i = .int .i64 j ∧ wx = w1)
  case atStart => exact ⟨0, by omega, rfl, rfl⟩
  case round =>
    obtain ⟨j, hjg, rfl, rfl⟩ := hrel
    have hj0 : (0 : Int) ≤ (j : Int) := by omega
    cases gk with
    | zero =>
      obtain rfl : na = j := by omega
      have hmk := HMK.out
      go_wp2_with fail
      obtain ⟨W1, hW1⟩ : ∃ W1, wr.alloc (.cells (madeCells #[.int .i64 0] na) 3) = W1 := ⟨_, rfl⟩
      have HN1 := Lib.hid (show W1.rowIs wr.heap.size 3 na (fun i => .int .i64 0) by rw [← hW1]; exact World.rowIs_made _ _ _ _)
      have HW1 := Lib.hid (show Below wr.heap.size wr W1 by rw [← hW1]; exact (Below.refl _ _).alloc (Nat.le_refl _) _)
      have HZ1 := Lib.hid (show wr.heap.size + 1 ≤ W1.heap.size by rw [← hW1]; simp)
      rw [hW1]
      clear hW1 hmk
      obtain ⟨bn, hbn, HBN⟩ : ∃ bn, wr.heap.size = bn ∧ Hid (wr.heap.size = bn) := ⟨_, rfl, rfl⟩
      rw [hbn] at HN1 HZ1 ⊢
      rw [hbn] at hz1
      have HB0 := Lib.hid (show W0.heap.size ≤ bn by have := HB1.out.size; omega)
      clear hbn
      obtain ⟨w1, rfl⟩ : ∃ w1, w1 = wr := ⟨_, rfl⟩
      have HST := Lib.hid (FoS.start ch f na)
      go_loopg [13, 14] (openN na (fun _ => -1)) (fun g s13 at_ wx => ∃ k pl, g = openN na pl ∧ at_ = .int .i64 (ptP ch f k) ∧ ptP ch f k < na ∧ k ≤ na ∧ Hid (FoS ch f na k pl) ∧ Hid (k + openN na pl = openN na (fun _ => -1)) ∧ (∃ A6 c6, s13 = .slice A6 k c6 ∧ Hid (wx.ownsRow (bn + 1) 3 1 (.slice A6 k c6) k ((pathL ch f k).map (Value.int .i64)))) ∧ Hid (wx.rowIs bn 3 na (fun i => .int .i64 (pl i + 1))) ∧ Hid (Below bn w1 wx) ∧ Hid (bn + 1 ≤ wx.heap.size))
      case atStart => exact ⟨0, fun _ => -1, rfl, rfl, hfn, by omega, HST.out, Nat.zero_add _, ⟨none, 0, rfl, World.ownsRow_nil _ _ _ _⟩, HN1.out, by have := HW1.out; rw [HBN.out] at this; exact this, HZ1.out⟩
      case round =>
        obtain ⟨k, pl, hg, rfl, hat, hkn, HFO, HCN, ⟨A6, c6, rfl, HO6⟩, HRX, HBX, HZX⟩ := hrel
        have hat0 : (0 : Int) ≤ (ptP ch f k : Int) := by omega
        have hat1 : (ptP ch f k : Int) < (na : Int) := by omega
        have kp := HRX.out.cell hat
        have hbx : bn < wr.heap.size := HRX.out.lt
        obtain ⟨bA, oA, rfl, hbA, hcA⟩ := HA.out.2 (by omega)
        have HWR := Lib.hid (HB1.out.trans (HBX.out.mono HB0.out))
        have kc := (HWR.out.cell (p := ⟨bA, oA + ptP ch f k, none⟩) hbA).trans (hcA _ hat)
        have hcv := HRG.out _ hat
        have HPN := Lib.hid (show (ptP ch f (k + 1) : Int) = ch.getD (ptP ch f k) 0 from by show (((ch.getD (ptP ch f k) 0).toNat : Nat) : Int) = _; omega)
        have HPT := Lib.hid (pathL_next ch f k)
        have HPL := Lib.hid (pathL_len ch f k)
        have HN := Lib.hid (fun h => HFO.out.next (k := k) h)
        have HM := Lib.hid (fun h => HFO.out.met hat h)
        have HO := Lib.hid (fun h => openN_put (n := na) (v := ptP ch f k) (pl := pl) hat h (x := (k : Int)) (by omega))
        clear hcA
        have hkk0 : (0 : Int) ≤ (k : Int) := by omega
        have hkk1 : (k : Int) ≤ 20000 := by omega
        by_cases hp : pl (ptP ch f k) = -1
        · rw [hp, show (-1 : Int) + 1 = 0 from rfl] at kp
          have HFN := Lib.hid (HN.out hp)
          have HON := Lib.hid (HO.out hp)
          have HCV := Lib.hid hcv
          clear hcv
          have hvn : ptP ch f k < na := hat
          generalize hv : ptP ch f k = v at *
          have HVV := Lib.hid hv
          clear hv
          generalize ch.getD v 0 = cv at *
          go_wp2_with (refine wpList_append_ints _ (by rfl) _ _ _ (by rfl) (bn + 1) 3 i0 _ Try.underlying22 hi hi0 hi1 hi2 rfl (.slice A6 k c6) k ((pathL ch f k).map (Value.int .i64)) (by rfl) (by exact HO6.out.alloc _) (some ⟨wr.heap.size, 0, none⟩) 1 1 [(v : Int)] (by rfl) (int_new' _ rfl _ _) (by omega) (by rw [World.size_alloc]; have := HZX.out; omega) ?_; intro v' w4 hown hgrow hat'; obtain ⟨A7, c7, rfl, _⟩ := own_slice hown; have HBEL := Lib.hid (below_own (HO6.out.alloc _) hgrow (by rw [World.size_alloc]; have := HZX.out; omega)); have HR4 := Lib.hid ((HRX.out.alloc _).of_block (HBEL.out.block bn (by omega))); have kp4 := HR4.out.cell hvn; have fp4 := HR4.out.frozen v; have HB4 := Lib.hid ((HBX.out.alloc (by omega) _).trans (HBEL.out.mono (by omega))); have kc4 : ∀ u, (w4.setCell ⟨bn, v, none⟩ u).cell? ⟨bA, oA + v, none⟩ = some (.int .i64 cv) := (fun u => (Below.cell (p := ⟨bA, oA + v, none⟩) ((Below.refl bn w4).setCell (by show bn ≤ bn; omega) u) (by have := HB0.out; show bA < bn; omega)).trans (((HB1.out.trans (HB4.out.mono HB0.out)).cell (p := ⟨bA, oA + v, none⟩) hbA).trans ((HWR.out.cell (p := ⟨bA, oA + v, none⟩) hbA).symm.trans kc))); have HOWN := Lib.hid hown; clear hown hgrow hat')
          have HCNT := Lib.hid (show (k + 1) + openN na (fun i => if i = v then (k : Int) else pl i) = openN na (fun _ => -1) by
            have h1 := HON.out
            have h2 := HCN.out
            omega)
          go_roundg (openN na (fun i => if i = v then (k : Int) else pl i))
          case measure => have h1 := HON.out; omega
          case rel =>
            refine ⟨k + 1, _, rfl, by rw [← HPN.out], ?_, ?_, HFN.out, HCNT.out, ⟨A7, c7, rfl, ?_⟩, (HR4.out.set v _).congr (fun i _ => ?_), ?_, ?_⟩
            · have := HCV.out
              have := HPN.out
              omega
            · have h1 := HCNT.out
              rw [openN_all] at h1
              omega
            · rw [HPT.out, List.map_append]
              exact own_put' HOWN.out (by intro e; have := (HOWN.out.lt bn e).1; omega) _
            · by_cases e : i = v
              · rw [if_pos e, if_pos e]
              · rw [if_neg e, if_neg e]
            · exact HB4.out.setCell (by show bn ≤ bn; omega) _
            · have := HR4.out.lt
              show bn + 1 ≤ _
              rw [size_set]
              omega
        · obtain ⟨i, hpi, hmeet⟩ := HM.out hp
          rw [hpi] at kp
          have hik : i < k := hmeet.1
          have HME := Lib.hid hmeet
          have hin0 : (0 : Int) ≤ (i : Int) := by omega
          have hik1 : (i : Int) < (k : Int) := by omega
          have hik2 : (i : Int) ≤ (k : Int) := by omega
          have hi1p : (0 : Int) < (i : Int) + 1 := by omega
          have hc6 : k ≤ c6 := by
            obtain ⟨A8, c8, he8, hc8⟩ := own_slice HO6.out
            simp only [Value.slice.injEq] at he8
            omega
          obtain ⟨b6, o6, rfl, _, _⟩ := (Ints.of_own HO6.out).2 (by omega)
          have HI6 := Lib.hid (Ints.of_own HO6.out)
          have HT6 := Lib.hid (HI6.out.take (k := i) (by omega))
          have HC6 := Lib.hid (HI6.out.cut (k := i) (cap := c6) (by omega) hc6)
          have hci : ¬ c6 = i := by omega
          rw [if_neg hci, show Option.map (fun x => x.add i) (some (⟨b6, o6, none⟩ : Addr)) = some ⟨b6, o6 + i, none⟩ from by simp [Addr.add]] at HC6
          have k2 := (HBX.out.cell (p := ⟨w.heap.size, 1, none⟩) hz1).trans k1
          have HLO := Lib.hid (show ∀ s, s < k - i → ∃ v : Nat, ((pathL ch f k).drop i).getD s 0 = (v : Int) ∧ v < na from fun s hs => by
            have e : ((pathL ch f k).drop i).getD s 0 = (ptP ch f (i + s) : Int) := by
              unfold pathL
              simp [List.getD_eq_getElem?_getD, List.getElem?_drop, show i + s < k by omega]
            refine ⟨_, e, ?_⟩
            have hpp : ∀ u, ptP ch f u < na := fun u => by
              induction u with
              | zero => exact hfn
              | succ u ih =>
                have := HRG.out _ ih
                show (ch.getD (ptP ch f u) 0).toNat < na
                omega
            exact hpp (i + s))
          have HLL := Lib.hid (show ((pathL ch f k).drop i).length = k - i by rw [List.length_drop, pathL_len])
          clear hmeet hpi hcv k0 k1 kc
          have hic : i ≤ c6 := by omega
          have hkn2 : (k : Int) ≤ 20000 := by omega
          generalize hv : ptP ch f k = v at *
          have HVV := Lib.hid hv
          clear hv
          go_wp2_with fail
          go_quiet (fail)
          go_wp2_with fail
          have HD5 := Lib.hid (show Below wr.heap.size wr (wr.drewN nq) from below_drewN (Below.refl _ _) _)
          obtain ⟨w5, hw5⟩ : ∃ w5, wr.drewN nq = w5 := ⟨_, rfl⟩
          rw [hw5] at HD5 ⊢
          have HWB := Lib.hid (HWR.out.trans (HD5.out.mono HWR.out.size))
          have m1 := (HD5.out.cell (p := ⟨w.heap.size, 1, none⟩) (by show w.heap.size < _; omega)).trans k2
          have HJ1 := Lib.hid (HT6.out.below HD5.out)
          have HJ2 := Lib.hid (HC6.out.below HD5.out)
          have HJP := Lib.hid (H0.out.below HWB.out).p
          clear hw5 k2 kp hp
          obtain ⟨ss, hss, HSS⟩ : ∃ ss, k - i = ss ∧ Hid (k - i = ss) := ⟨_, rfl, rfl⟩
          rw [hss] at HLO HLL HJ2 ⊢
          have hss0 : (0 : Int) ≤ (ss : Int) := by omega
          have hss1 : ss ≤ 20000 := by omega
          have hss2 : 0 < ss := by omega
          clear hss
          have HTB := Lib.hid (fun j => topQ_le G.P (((pathL ch f k).drop i).take j) (fun y hy => by
            obtain ⟨s, hs, e⟩ := List.mem_iff_getElem.1 (List.mem_of_mem_take hy)
            have hs2 := hs
            rw [HLL.out] at hs2
            obtain ⟨q, hq, hqn⟩ := HLO.out s hs2
            rw [List.getD_eq_getElem?_getD, List.getElem?_eq_getElem hs] at hq
            simp only [Option.getD_some] at hq
            rw [e] at hq
            exact (HPR.out y (by omega) (by omega)).2))
          have HTE := Lib.hid (topQ_eq (P := G.P) (l := (pathL ch f k).drop i) (by rw [HLL.out]; exact hss2) (fun y hy => by
            obtain ⟨s, hs, e⟩ := List.mem_iff_getElem.1 hy
            have hs2 := hs
            rw [HLL.out] at hs2
            obtain ⟨q, hq, hqn⟩ := HLO.out s hs2
            rw [List.getD_eq_getElem?_getD, List.getElem?_eq_getElem hs] at hq
            simp only [Option.getD_some] at hq
            rw [e] at hq
            exact (HPR.out y (by omega) (by omega)).1))
          have HQ0 := Lib.hid (show topQ G.P (((pathL ch f k).drop i).take 0) = 0 from rfl)
          generalize hL : (pathL ch f k).drop i = L at *
          have HL := Lib.hid hL
          clear hL
          go_loopg [15, 94] ss (fun g t y wx => ∃ j : Nat, j + g = ss ∧ y = .int .i64 j ∧ t = .int .i64 (topQ G.P (L.take j)) ∧ wx = w5)
          case atStart => exact ⟨0, by omega, rfl, by rw [HQ0.out], rfl⟩
          case round =>
            obtain ⟨j, hjg, rfl, rfl, rfl⟩ := hrel
            have hj0 : (0 : Int) ≤ (j : Int) := by omega
            have htb := HTB.out j
            cases gk with
            | zero =>
              obtain rfl : ss = j := by omega
              have HT := Lib.hid (show L.take ss = L from List.take_of_length_le (by have := HLL.out; omega))
              rw [HT.out] at htb ⊢
              rw [HTE.out] at htb ⊢
              generalize ht : topP G.P L = tp at *
              have HTP := Lib.hid ht
              clear ht
              go_wp2_with fail
              refine bodyPost_ret (v := .tuple #[.slice (some ⟨b6, o6, none⟩) i c6, .slice (some ⟨b6, o6 + i, none⟩) ss (c6 - i), .int .i64 (tp.tmod 2), .int .i64 0]) (by simp [results, Try.results13, go_sem]) rfl ⟨i, k, some ⟨b6, o6, none⟩, c6, some ⟨b6, o6 + i, none⟩, c6 - i, ?_, HME.out, hkn, HJ1.out, ?_, HBW.out.trans (HWB.out.mono HBW.out.size)⟩
              · rw [HL.out, HSS.out, HTP.out]
              · rw [HL.out, HSS.out]
                exact HJ2.out
            | succ g =>
              have hjl : j < ss := by omega
              have hjl2 : (j : Int) < (ss : Int) := by omega
              obtain ⟨bL, oL, hbl, _, hcL⟩ := HJ2.out.2 (by omega)
              simp only [Option.some.injEq, Addr.mk.injEq] at hbl
              obtain ⟨rfl, rfl, _⟩ := hbl
              have kc := hcL j hjl
              obtain ⟨y, hy, hyn⟩ := HLO.out j hjl
              have HN := Lib.hid (topQ_next G.P L (k := j) (by have := HLL.out; omega))
              rw [hy] at kc HN
              rw [Int.toNat_natCast] at HN
              obtain ⟨bP, oP, rfl, _, hcP⟩ := HJP.out.2 (by omega)
              have kp := hcP y hyn
              clear hcL hcP hy
              have hy0 : (0 : Int) ≤ (y : Int) := by omega
              generalize G.P.getD y 0 = q at *
              generalize topQ G.P (L.take j) = tq at *
              go_wp2_with fail
              all_goals
                go_roundg g
                case measure => omega
                case rel => exact ⟨j + 1, by omega, by go_num, by rw [HN.out]; first | rfl | (congr 1; omega) | go_num, rfl⟩
    | succ g =>
      have hjl : j < na := by omega
      have hjl2 : (j : Int) < (na : Int) := by omega
      have HAX := Lib.hid (HA.out.below HB1.out)
      obtain ⟨bA, oA, rfl, _, hcA⟩ := HAX.out.2 (by omega)
      obtain ⟨bx, ox, rfl, _, hcx⟩ := (H0.out.below HB1.out).x.2 (by omega)
      have kc := hcA j hjl
      obtain ⟨bl, cl, kl, il⟩ := hcx j hjl
      have hlen := HLEN.out j
      have HCO := Lib.hid (has_in bl (G.X.getD j []).length cl (G.X.getD j []) (ch.getD j 0) _ il (by omega))
      rw [HCH.out j hjl] at HCO
      clear hcA hcx il
      generalize ch.getD j 0 = u at *
      generalize (G.X.getD j []).length = ll at *
      go_wp2_with fail
      refine HCO.out.mono ?_
      rintro r5 w5 ⟨rfl, rfl⟩
      go_wp2_with fail
      go_roundg g
      case measure => omega
      case rel => exact ⟨j + 1, by omega, by go_num, rfl⟩

end Go.Proofs.Ytffdbncjndnnaaa.Wd
