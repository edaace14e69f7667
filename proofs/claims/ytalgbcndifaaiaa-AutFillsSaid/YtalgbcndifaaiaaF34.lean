/-
  Is of the reference, walked.
  What Is says: some run of the automaton on the word is accepted. No program is looked at here.
  What Fill makes, as data: the letters of the new edges are just those that are lacking. No program is looked at here.
-/
import Derived.Test.YtalgbcndifaaiaaF33
import Derived.Test.YtalgbcndifaaiaaF26
import Derived.Test.YtalgbcndifaaiaaF27
namespace Go.Proofs.Ytalgbcndifaaiaa.Wd
open Go.RowKit Go.Deep
set_option linter.unusedVariables false
set_option linter.unusedSimpArgs false

/-- What Is comes to: some Start state has a good node at the word's beginning. -/
def IsB (st : List Int) (l : List Ac) (N kind M : Nat) : Prop := ∃ j, j < st.length ∧ ∃ s : Nat, st.getD j 0 = (s : Int) ∧ GoodA l kind M (s * N)
def ResI (w w' : World) (P : Prop) (e : Ending) : Prop := ∃ b : Bool, e = .returned (.bool b) ∧ Hid (b = true ↔ P) ∧ Below w.heap.size w w'

set_option maxRecDepth 100000 in
set_option maxHeartbeats 16000000 in
theorem is_walk (P : Int) (S kind M : Nat) (A E : Option Addr) (ns cs ne ce : Nat) (st : List Int) (es : List Ed) (A' B' : Option Addr) (n' c' m' d' : Nat) (sl lp : List Int) (w : World)
    (ha : Ints w A ns st) (he : EdgesAt w E ne es) (hx : Ints w A' n' sl) (hy : Ints w B' m' lp) (hnc : n' ≤ c') (hmd : m' ≤ d') (hm0 : 0 < m') (hn : n' + m' ≤ 1000) (hSN : S * (n' + m') ≤ 100000) (hEN : ne * (n' + m') ≤ 900000) (hns : ns ≤ 100000)
    (hk : kind ≤ 5) (hm : marksB kind M = true) (hst : ∀ j, j < ns → ∃ s : Nat, st.getD j 0 = (s : Int) ∧ s < S) (hes : EdOK S M es) :
    Calls Try.prog 15 #[.agg #[.int .i64 P, .int .i64 S, .slice A ns cs, .int .i64 kind, .int .i64 M, .slice E ne ce], .agg #[.slice A' n' c', .slice B' m' d']] w fun e w' =>
      ResI w w' (IsB st (arcP (at_ sl lp) (n' + m') n' es es.length) (n' + m') kind M) e := by
  obtain ⟨i0, hi, hi0, hi1, hi2⟩ := info_parts arc_info
  have hM40 : M ≤ 40 := by have := marksB_few hm; omega
  have HPL := Lib.hid (fun W => places_any A' B' n' c' m' d' W (by omega))
  have HFO := Lib.hid (fun k W (hkk : k ≤ 100000) => follow_any A' B' n' c' m' d' k W (by omega) hkk)
  have HLT := Lib.hid (fun k W (hW : Below w.heap.size w W) (hkk : k ≤ 100000) => letters_big (.agg #[.slice A' n' c', .slice B' m' d']) sl lp k W ⟨A', n', c', B', m', d', rfl, hx.below hW, hy.below hW, hnc, hmd⟩ (by rw [hx.1, hy.1]; omega) (by rw [hy.1]; exact hm0) (by omega))
  have HGO := Lib.hid (fun na ca AA l W (hW : ArcsAt W AA na l) (hna : na ≤ 900000) hl hml => good_walk kind (S * (n' + m')) na ca M AA l W hk hm hW hSN hna hl hml)
  have HA := Lib.hid ha
  have HAL := Lib.hid ha.1
  have HE := Lib.hid he
  have HEL := Lib.hid he.1
  have HST := Lib.hid hst
  have HES := Lib.hid hes
  have HKM := Lib.hid (And.intro hk hm)
  obtain ⟨N, hN, HNN⟩ : ∃ N, n' + m' = N ∧ Hid (n' + m' = N) := ⟨_, rfl, rfl⟩
  have hN1 : n' < N := by omega
  rw [hN] at HPL HFO HGO hn hSN hEN ⊢
  obtain ⟨f, hf, HFF⟩ : ∃ f, at_ sl lp = f ∧ Hid (at_ sl lp = f) := ⟨_, rfl, rfl⟩
  rw [hf] at HLT ⊢
  have hS0 : S ≤ 100000 := by
    have : S * 1 ≤ S * N := Nat.mul_le_mul_left _ (by omega)
    omega
  have hne0 : ne ≤ 900000 := by
    have : ne * 1 ≤ ne * N := Nat.mul_le_mul_left _ (by omega)
    omega
  have HAP := Lib.hid (arcP_len f N n' es)
  clear hf hN ha he hx hy hst hes hk hm hnc hmd hm0
  go_enter Try.func15, Try.ntmps15
  go_wp2_with fail
  obtain ⟨W1, hW1⟩ : ∃ W1, (w.alloc (.cells #[.int .i64 P, .int .i64 S, .slice A ns cs, .int .i64 kind, .int .i64 M, .slice E ne ce] 25)).alloc (.cells #[.slice A' n' c', .slice B' m' d'] 27) = W1 := ⟨_, rfl⟩
  have HBX := Lib.hid (show ∀ i, W1.cell? ⟨w.heap.size, i, none⟩ = #[Value.int .i64 P, .int .i64 S, .slice A ns cs, .int .i64 kind, .int .i64 M, .slice E ne ce][i]? from fun i => by rw [← hW1]; exact box_first w _ _ _ i)
  have HBY := Lib.hid (show ∀ i, W1.cell? ⟨w.heap.size + 1, i, none⟩ = #[Value.slice A' n' c', .slice B' m' d'][i]? from fun i => by
    have h := box_last (w.alloc (.cells #[.int .i64 P, .int .i64 S, .slice A ns cs, .int .i64 kind, .int .i64 M, .slice E ne ce] 25)) #[.slice A' n' c', .slice B' m' d'] 27 i
    rw [World.size_alloc] at h
    rw [← hW1]; exact h)
  have HB1 := Lib.hid (show Below w.heap.size w W1 by rw [← hW1]; exact ((Below.refl _ _).alloc (Nat.le_refl _) _).alloc (by simp) _)
  have HZ1 := Lib.hid (show W1.heap.size = w.heap.size + 2 by rw [← hW1]; simp)
  rw [hW1]
  clear hW1
  refine (HPL.out _).mono ?_
  rintro e w2 ⟨rfl, hb2⟩
  have HB2 := Lib.hid (show Below (w.heap.size + 2) W1 w2 from hb2.mono (Nat.le_of_eq HZ1.out.symm))
  have HZ2 := Lib.hid (show w.heap.size + 2 ≤ w2.heap.size by rw [← HZ1.out]; exact hb2.size)
  clear hb2
  -- what the two boxes hold, in every later world
  have hbox : ∀ W, Below (w.heap.size + 2) W1 W → (W.cell? ⟨w.heap.size, 1, none⟩ = some (.int .i64 S) ∧ W.cell? ⟨w.heap.size, 2, none⟩ = some (.slice A ns cs) ∧ W.cell? ⟨w.heap.size, 3, none⟩ = some (.int .i64 kind) ∧ W.cell? ⟨w.heap.size, 4, none⟩ = some (.int .i64 M) ∧ W.cell? ⟨w.heap.size, 5, none⟩ = some (.slice E ne ce)) ∧
      W.cell? ⟨w.heap.size + 1, 0, none⟩ = some (.slice A' n' c') ∧ W.cell? ⟨w.heap.size + 1, 1, none⟩ = some (.slice B' m' d') := fun W hW =>
    ⟨⟨(hW.cell (p := ⟨w.heap.size, 1, none⟩) (by show w.heap.size < _; omega)).trans (HBX.out 1), (hW.cell (p := ⟨w.heap.size, 2, none⟩) (by show w.heap.size < _; omega)).trans (HBX.out 2), (hW.cell (p := ⟨w.heap.size, 3, none⟩) (by show w.heap.size < _; omega)).trans (HBX.out 3), (hW.cell (p := ⟨w.heap.size, 4, none⟩) (by show w.heap.size < _; omega)).trans (HBX.out 4), (hW.cell (p := ⟨w.heap.size, 5, none⟩) (by show w.heap.size < _; omega)).trans (HBX.out 5)⟩,
      (hW.cell (p := ⟨w.heap.size + 1, 0, none⟩) (by show w.heap.size + 1 < _; omega)).trans (HBY.out 0), (hW.cell (p := ⟨w.heap.size + 1, 1, none⟩) (by show w.heap.size + 1 < _; omega)).trans (HBY.out 1)⟩
  have HBOX := Lib.hid hbox
  have HBW := Lib.hid (fun W (hW : Below (w.heap.size + 2) W1 W) => HB1.out.trans (hW.mono (by omega)))
  clear hbox HBX HBY
  obtain ⟨⟨_, _, _, _, k5⟩, _, _⟩ := HBOX.out w2 HB2.out
  go_wp2_with fail
  clear k5
  go_loopg [6, 18] ne (fun g v iv wx => ∃ t : Nat, t + g = ne ∧ iv = .int .i64 t ∧ Hid (wx.ownsRow (w.heap.size + 2) 63 4 v (arcP f N n' es t).length (acsV (arcP f N n' es t))) ∧ Hid (Below (w.heap.size + 2) W1 wx) ∧ Hid (w.heap.size + 2 ≤ wx.heap.size))
  case atStart => exact ⟨0, by omega, rfl, World.ownsRow_nil _ _ _ _, HB2.out, HZ2.out⟩
  case round =>
    obtain ⟨t, htg, rfl, HO, HBx, HZx⟩ := hrel
    have hti : (0 : Int) ≤ (t : Int) := by omega
    cases gk with
    | zero =>
      obtain rfl : ne = t := by omega
      have HSM := Lib.hid (arcP_small (f := f) (N := N) (n := n') HES.out (t := ne) (by rw [HEL.out]; exact Nat.le_refl _) hN1 hM40)
      have hla : (arcP f N n' es ne).length ≤ ne * N := HAP.out ne
      obtain ⟨AA, na, ca, hv, hna, _⟩ : ∃ AA na ca, u6 = .slice AA na ca ∧ (arcP f N n' es ne).length = na ∧ na ≤ ca := by
        obtain ⟨AA, ca, hv, h⟩ := own_any HO.out
        exact ⟨AA, _, ca, hv, rfl, h⟩
      subst hv
      have hO := HO.out
      rw [hna] at hO hla
      have HG := Lib.hid (HGO.out na ca AA _ wr ((ArcsIn.of_own hO hna).wide (Nat.zero_le _) (Nat.le_refl _)) (by omega) HSM.out.1 HSM.out.2)
      obtain ⟨⟨k1, k2, k3, k4, _⟩, _, _⟩ := HBOX.out wr HBx.out
      obtain ⟨SN, hSNe, HSNE⟩ : ∃ SN, S * N = SN ∧ Hid (S * N = SN) := ⟨_, rfl, rfl⟩
      have hm1 : (S : Int) * (N : Int) = ((S * N : Nat) : Int) := by simp
      rw [hSNe] at hm1 HG hSN
      have e1 : IntKind.i64.wrap ((S : Int) * (N : Int)) = (SN : Int) := by rw [hm1, IntKind.wrap_i64]; omega
      clear hO hla hna hm1 hSNe
      go_wp2_with fail
      refine HG.out.mono ?_
      rintro e w3 ⟨g, F, cap, rfl, hf, HF, hb3⟩
      have HFL := Lib.hid hf
      have HB3 := Lib.hid (HBx.out.trans (hb3.mono HZx.out))
      have HARC := Lib.hid (show arcP f N n' es es.length = arcP f N n' es ne by rw [HEL.out])
      clear hf hb3 k1 k2 k3 k4 e1 HG HGO HO HPL HFO HLT
      obtain ⟨⟨_, k2, _, _, _⟩, _, _⟩ := HBOX.out w3 HB3.out
      go_wp2_with fail
      clear k2
      go_loopg [66] ns (fun g2 iv wx => ∃ u : Nat, u + g2 = ns ∧ iv = .int .i64 u ∧ Hid (∀ j, j < u → ∀ s : Nat, st.getD j 0 = (s : Int) → F (s * N) = false) ∧ wx = w3)
      case atStart => exact ⟨0, by omega, rfl, (fun j h => by omega), rfl⟩
      case round =>
        obtain ⟨u, hug, rfl, HNO, hwx⟩ := hrel
        subst hwx
        have hu0 : (0 : Int) ≤ (u : Int) := by omega
        cases gk with
        | zero =>
          obtain rfl : ns = u := by omega
          go_wp2_with fail
          go_ret
          refine ⟨false, rfl, ?_, HBW.out _ HB3.out⟩
          show false = true ↔ _
          refine ⟨(fun h => by cases h), ?_⟩
          rintro ⟨j, hj, s, hs, hgd⟩
          rw [HAL.out] at hj
          obtain ⟨s', hs', hsS⟩ := HST.out j hj
          obtain rfl : s = s' := by omega
          have hlt : s * N < SN := by rw [← HSNE.out]; have := pair_lt (N := N) (k := 0) hsS (by omega); omega
          rw [HARC.out] at hgd
          have := (HF.out _ hlt).2 hgd
          rw [HNO.out j hj s hs] at this
          cases this
        | succ p =>
          have hu1 : u < ns := by omega
          have hu2 : (u : Int) < (ns : Int) := by omega
          obtain ⟨bS, oS, rfl, hltS, hcellS⟩ := (HA.out.below (HBW.out _ HB3.out)).at_ hu1
          have ks := hcellS u hu1
          obtain ⟨s, hs, hsS⟩ := HST.out u hu1
          rw [hs] at ks
          have HS := Lib.hid hs
          have hlt : s * N < SN := by rw [← HSNE.out]; have := pair_lt (N := N) (k := 0) hsS (by omega); omega
          have kf := HFL.out.cell hlt
          have HFS := Lib.hid (HF.out _ hlt)
          have hm1 : (s : Int) * (N : Int) = ((s * N : Nat) : Int) := by simp
          obtain ⟨sp, hsp, HSP⟩ : ∃ sp, s * N = sp ∧ Hid (s * N = sp) := ⟨_, rfl, rfl⟩
          rw [hsp] at hm1 hlt kf HFS
          have e1 : IntKind.i64.wrap ((s : Int) * (N : Int)) = (sp : Int) := by rw [hm1, IntKind.wrap_i64]; omega
          have hsp0 : (0 : Int) ≤ (sp : Int) := by omega
          have hsp1 : (sp : Int) < (SN : Int) := by omega
          clear hcellS hs hsp
          cases hF : F sp
          · rw [hF] at kf
            have HNN2 := Lib.hid (show ∀ j, j < u + 1 → ∀ s : Nat, st.getD j 0 = (s : Int) → F (s * N) = false from fun j hj s' hs' => by
              by_cases e : j = u
              · subst e
                have h2 := HS.out
                obtain rfl : s = s' := by omega
                rw [HSP.out]; exact hF
              · exact HNO.out j (by omega) s' hs')
            clear hF
            go_wp2_with fail
            go_roundg p
            case measure => omega
            case rel => exact ⟨u + 1, by omega, by go_num, HNN2, rfl⟩
          · rw [hF] at kf HFS
            clear hF
            go_wp2_with fail
            go_ret
            refine ⟨true, rfl, ?_, HBW.out _ HB3.out⟩
            show true = true ↔ _
            refine ⟨fun _ => ⟨u, by rw [HAL.out]; exact hu1, s, HS.out, ?_⟩, fun _ => rfl⟩
            rw [HARC.out, HSP.out]
            exact HFS.out.1 trivial
    | succ q =>
      have ht1 : t < ne := by omega
      have hti2 : (t : Int) < (ne : Int) := by omega
      obtain ⟨bE, oE, rfl, hltE, hcell⟩ := (HE.out.below (HBW.out _ HBx.out)).2 (by omega)
      obtain ⟨c0, c1, c2, c3, c4⟩ := hcell t ht1
      obtain ⟨x, y, mm, ex, ey, em, hxS, hyS, hmM⟩ := HES.out t (by rw [HEL.out]; exact ht1)
      have HPS := Lib.hid (show arcP f N n' es (t + 1) = arcP f N n' es t ++ arcE f N n' (es.getD t ed0) N from rfl)
      have HAE := Lib.hid (show ∀ k, letB (f k) (es.getD t ed0) = true → arcE f N n' (es.getD t ed0) (k + 1) = arcE f N n' (es.getD t ed0) k ++ [⟨x * N + k, y * N + folN n' N k, mm, 0⟩] from fun k h => by
        rw [arcE, if_pos h]; unfold arcOf; rw [ex, ey, em, Int.toNat_natCast, Int.toNat_natCast, Int.toNat_natCast])
      have HAN := Lib.hid (show ∀ k, letB (f k) (es.getD t ed0) = false → arcE f N n' (es.getD t ed0) (k + 1) = arcE f N n' (es.getD t ed0) k from fun k h => by
        rw [arcE, if_neg (by rw [h]; decide)])
      have HAEL := Lib.hid (arcE_len f N n' (es.getD t ed0))
      obtain ⟨ee, hee, HEE⟩ : ∃ ee, es.getD t ed0 = ee ∧ Hid (es.getD t ed0 = ee) := ⟨_, rfl, rfl⟩
      rw [hee] at c0 c1 c2 c3 c4 ex ey em HPS HAE HAN HAEL
      clear hee hcell
      obtain ⟨ef, et, ec, eb, emk⟩ := ee
      simp only at c0 c1 c2 c3 c4 ex ey em
      subst ex
      subst ey
      subst em
      have hx0 : (0 : Int) ≤ (x : Int) := by omega
      have hzz : w.heap.size + 2 ≤ wr.heap.size := HZx.out
      have hlen0 : (arcP f N n' es t).length ≤ t * N := HAP.out t
      have hlen1 : (t + 1) * N ≤ ne * N := Nat.mul_le_mul_right _ (by omega)
      rw [Nat.succ_mul] at hlen1
      have HLEN := Lib.hid (show (arcP f N n' es t).length + N ≤ 900000 by omega)
      clear hlen0 hlen1
      go_wp2_with fail
      obtain ⟨z3, hz3, HZ3⟩ : ∃ z3, wr.heap.size = z3 ∧ Hid (wr.heap.size = z3) := ⟨_, rfl, rfl⟩
      obtain ⟨W3, hW3⟩ : ∃ W3, wr.alloc (.cells #[.int .i64 x, .int .i64 y, .int .i64 ec, .int .i64 eb, .int .i64 mm] 37) = W3 := ⟨_, rfl⟩
      have HE3 := Lib.hid (show ∀ i, W3.cell? ⟨z3, i, none⟩ = #[Value.int .i64 x, .int .i64 y, .int .i64 ec, .int .i64 eb, .int .i64 mm][i]? from fun i => by rw [← hW3, ← hz3]; exact box_last wr _ _ i)
      have HO3 := Lib.hid (show W3.ownsRow (w.heap.size + 2) 63 4 u6 (arcP f N n' es t).length (acsV (arcP f N n' es t)) by rw [← hW3]; exact HO.out.alloc _)
      have HNE := Lib.hid (show u6.ownBlock ≠ some z3 by rw [← hz3]; exact fun h => own_apartN HO.out (Nat.le_refl _) h.symm)
      have HB3 := Lib.hid (show Below (w.heap.size + 2) W1 W3 by rw [← hW3]; exact HBx.out.alloc HZx.out _)
      have HZ33 := Lib.hid (show z3 < W3.heap.size by rw [← hW3, ← hz3]; simp)
      rw [hW3]
      rw [hz3] at hzz ⊢
      clear hW3 hz3 HO HBx HZx c0 c1 c2 c3 c4
      go_loopg [6, 23] N (fun g v iv wx => ∃ k : Nat, k + g = N ∧ iv = .int .i64 k ∧ Hid (wx.ownsRow (w.heap.size + 2) 63 4 v ((arcP f N n' es t).length + (arcE f N n' ⟨x, y, ec, eb, mm⟩ k).length) (acsV (arcP f N n' es t ++ arcE f N n' ⟨x, y, ec, eb, mm⟩ k))) ∧
        Hid (v.ownBlock ≠ some z3) ∧ Hid (∀ i, wx.cell? ⟨z3, i, none⟩ = #[Value.int .i64 x, .int .i64 y, .int .i64 ec, .int .i64 eb, .int .i64 mm][i]?) ∧ Hid (Below (w.heap.size + 2) W1 wx) ∧ Hid (z3 < wx.heap.size))
      case atStart => exact ⟨0, by omega, rfl, (by show World.ownsRow _ _ _ _ _ _ _; rw [show arcE f N n' ⟨x, y, ec, eb, mm⟩ 0 = [] from rfl, List.append_nil]; exact HO3.out), HNE, HE3, HB3, HZ33⟩
      case round =>
        clear HO3 HNE HE3 HB3 HZ33
        obtain ⟨k, hkg, rfl, HO, HNE, HE3, HBx, HZx⟩ := hrel
        have hk0 : (0 : Int) ≤ (k : Int) := by omega
        cases gk with
        | zero =>
          obtain rfl : N = k := by omega
          go_wp2_with fail
          go_roundg q
          case measure => omega
          case rel =>
            refine ⟨t + 1, by omega, by go_num, ?_, HBx, by have := HZx.out; show _ ≤ _; omega⟩
            show World.ownsRow _ _ _ _ _ _ _
            rw [HPS.out, List.length_append]
            exact HO.out
        | succ p =>
          have hk1 : k < N := by omega
          have hk2 : (k : Int) < (N : Int) := by omega
          have HSF := Lib.hid (show ∀ V, Below wr.heap.size wr V → (V.cell? ⟨z3, 0, none⟩ = some (.int .i64 x) ∧ V.cell? ⟨z3, 1, none⟩ = some (.int .i64 y) ∧ V.cell? ⟨z3, 2, none⟩ = some (.int .i64 ec) ∧ V.cell? ⟨z3, 3, none⟩ = some (.int .i64 eb) ∧ V.cell? ⟨z3, 4, none⟩ = some (.int .i64 mm)) ∧
              V.cell? ⟨w.heap.size + 1, 0, none⟩ = some (.slice A' n' c') ∧ V.cell? ⟨w.heap.size + 1, 1, none⟩ = some (.slice B' m' d') from fun V hV =>
            ⟨⟨(hV.cell (p := ⟨z3, 0, none⟩) HZx.out).trans (HE3.out 0), (hV.cell (p := ⟨z3, 1, none⟩) HZx.out).trans (HE3.out 1), (hV.cell (p := ⟨z3, 2, none⟩) HZx.out).trans (HE3.out 2), (hV.cell (p := ⟨z3, 3, none⟩) HZx.out).trans (HE3.out 3), (hV.cell (p := ⟨z3, 4, none⟩) HZx.out).trans (HE3.out 4)⟩,
              (HBOX.out V (HBx.out.trans (hV.mono (by have := HZx.out; omega)))).2⟩)
          have HBV := Lib.hid (fun V (hV : Below wr.heap.size wr V) => HBW.out V (HBx.out.trans (hV.mono (by have := HZx.out; omega))))
          have HRD := Lib.hid (fun W => refReads_any x y ec eb mm (f k) W)
          have HYES := Lib.hid (HAE.out k)
          have HNO := Lib.hid (HAN.out k)
          obtain ⟨lb, hlb, HLB⟩ : ∃ lb, letB (f k) ⟨x, y, ec, eb, mm⟩ = lb ∧ Hid (letB (f k) ⟨x, y, ec, eb, mm⟩ = lb) := ⟨_, rfl, rfl⟩
          rw [hlb] at HRD HYES HNO
          have HLK := Lib.hid (fun W hW => HLT.out k W hW (by omega))
          generalize f k = lk at HRD HLK
          clear hlb
          go_wp2_with fail
          refine wp_region_until_drew (st := []) (S := fun V => (V.cell? ⟨z3, 0, none⟩ = some (.int .i64 x) ∧ V.cell? ⟨z3, 1, none⟩ = some (.int .i64 y) ∧ V.cell? ⟨z3, 2, none⟩ = some (.int .i64 ec) ∧ V.cell? ⟨z3, 3, none⟩ = some (.int .i64 eb) ∧ V.cell? ⟨z3, 4, none⟩ = some (.int .i64 mm)) ∧
              V.cell? ⟨w.heap.size + 1, 0, none⟩ = some (.slice A' n' c') ∧ V.cell? ⟨w.heap.size + 1, 1, none⟩ = some (.slice B' m' d')) (by kernel_rfl) (HSF.out _ (Below.refl _ _).drew) (fun hHeld => ?_)
          refine wpAnyU_pure (i := 2) (v := ?vo2) rfl (by kernel_rfl) (by kernel_rfl) (by kernel_rfl) (by kernel_rfl) (fun _ _ _ h => h) (Or.inl ⟨by rfl, fun V _ => ?hyo2⟩) (fun _ => hHeld) ?resto2
          case hyo2 => go_simp; try with_reducible rfl
          try simp only [Act.put, List.getElem_toArray, List.getElem_cons_zero, List.getElem_cons_succ, List.setIfInBounds_toArray, List.set_cons_zero, List.set_cons_succ]
          refine wpAnyU_load (i := 0) (v := ?vo0) rfl (by kernel_rfl) (by kernel_rfl) (by kernel_rfl) (by kernel_rfl) (fun _ _ _ h => h) (Or.inl ⟨by rfl, fun V hSw => ?hyo0⟩) hHeld ?resto0
          case hyo0 => (obtain ⟨⟨hs0, hs1, hs2, hs3, hs4⟩, hs5, hs6⟩ := hSw); go_simp; try with_reducible rfl
          try simp only [Act.put, List.getElem_toArray, List.getElem_cons_zero, List.getElem_cons_succ, List.setIfInBounds_toArray, List.set_cons_zero, List.set_cons_succ]
          refine wpAnyU_load (i := 1) (v := ?vo1) rfl (by kernel_rfl) (by kernel_rfl) (by kernel_rfl) (by kernel_rfl) (fun _ _ _ h => h) (Or.inl ⟨by rfl, fun V hSw => ?hyo1⟩) hHeld ?resto1
          case hyo1 => (obtain ⟨⟨hs0, hs1, hs2, hs3, hs4⟩, hs5, hs6⟩ := hSw); go_simp; try with_reducible rfl
          try simp only [Act.put, List.getElem_toArray, List.getElem_cons_zero, List.getElem_cons_succ, List.setIfInBounds_toArray, List.set_cons_zero, List.set_cons_succ]
          refine wpAnyU_ready (rs := [3]) (by kernel_rfl) (by simp) (AllU.cons (i := 3) rfl (fun K hK => ?_) AllU.nil)
          simp only [List.getElem_toArray, List.getElem_cons_zero, List.getElem_cons_succ]
          go_simp
          refine (HLK.out _ (HBV.out _ (Below.refl _ _).drew)).mono ?_
          rintro e w5 ⟨rfl, hb5⟩
          have HB5 := Lib.hid (show Below wr.heap.size wr w5 from (Below.refl _ _).drew.trans hb5)
          clear hb5 hHeld
          have hHeld := HSF.out _ HB5.out
          refine hK.out _ _ (fun _ => hHeld) ?_
          clear hK K
          refine wpAnyU_ready (rs := [4]) (by kernel_rfl) (by simp) (AllU.cons (i := 4) rfl (fun K hK => ?_) AllU.nil)
          simp only [List.getElem_toArray, List.getElem_cons_zero, List.getElem_cons_succ]
          go_simp
          refine (HRD.out _).mono ?_
          rintro e w6 ⟨rfl, hb6⟩
          have HB6 := Lib.hid (HB5.out.trans (hb6.mono HB5.out.size))
          clear hb6 hHeld
          have hHeld := HSF.out _ HB6.out
          refine hK.out _ _ (fun _ => hHeld) ?_
          clear hK K
          refine wpAnyU_done (by kernel_rfl) ?_ _
          clear hHeld
          have HO6 := Lib.hid (own_keep HO.out HB6.out)
          have HE6 := Lib.hid (fun i => (HB6.out.cell (p := ⟨z3, i, none⟩) HZx.out).trans (HE3.out i))
          have HBx6 := Lib.hid (HBx.out.trans (HB6.out.mono (by have := HZx.out; omega)))
          have HZ6 := Lib.hid (Nat.lt_of_lt_of_le HZx.out HB6.out.size)
          have HSF6 := Lib.hid (fun V (hV : Below w6.heap.size w6 V) => HSF.out V (HB6.out.trans (hV.mono HB6.out.size)))
          clear HO HE3 HBx HZx HSF HB5 HBV HLK HRD
          cases lb
          · have HX := Lib.hid (HNO.out rfl)
            go_wp2_with fail
            go_roundg p
            case measure => omega
            case rel => exact ⟨k + 1, by omega, by go_num, by rw [HX.out]; exact HO6.out, HNE, HE6, HBx6, HZ6⟩
          · have HX := Lib.hid (HYES.out rfl)
            have hxN : x * N + k < S * N := pair_lt hxS hk1
            have hyN : y * N + folN n' N k < S * N := pair_lt hyS (folN_lt hN1 hk1)
            have HFK := Lib.hid (fun W => HFO.out k W (by omega))
            obtain ⟨fo, hfo, HFE⟩ : ∃ fo, folN n' N k = fo ∧ Hid (folN n' N k = fo) := ⟨_, rfl, rfl⟩
            rw [hfo] at hyN HFK HX
            have hm1 : (x : Int) * (N : Int) = ((x * N : Nat) : Int) := by simp
            have hm2 : (y : Int) * (N : Int) = ((y * N : Nat) : Int) := by simp
            obtain ⟨xp, hxp⟩ : ∃ xp, x * N = xp := ⟨_, rfl⟩
            obtain ⟨yp, hyp⟩ : ∃ yp, y * N = yp := ⟨_, rfl⟩
            rw [hxp] at hm1 hxN HX
            rw [hyp] at hm2 hyN HX
            have e1 : IntKind.i64.wrap ((x : Int) * (N : Int)) = (xp : Int) := by rw [hm1, IntKind.wrap_i64]; omega
            have e2 : IntKind.i64.wrap ((y : Int) * (N : Int)) = (yp : Int) := by rw [hm2, IntKind.wrap_i64]; omega
            have e3 : IntKind.i64.wrap ((xp : Int) + (k : Int)) = ((xp + k : Nat) : Int) := by rw [IntKind.wrap_i64]; omega
            have e4 : IntKind.i64.wrap ((yp : Int) + (fo : Int)) = ((yp + fo : Nat) : Int) := by rw [IntKind.wrap_i64]; omega
            obtain ⟨xq, hxq⟩ : ∃ xq, xp + k = xq := ⟨_, rfl⟩
            obtain ⟨yq, hyq⟩ : ∃ yq, yp + fo = yq := ⟨_, rfl⟩
            rw [hxq] at e3 HX
            rw [hyq] at e4 HX
            have HLE := Lib.hid (HAEL.out k)
            clear hxp hyp hxq hyq hm1 hm2 hfo hxN hyN HYES HNO
            go_wp2_with fail
            refine wp_region_until_drew (st := [19]) (S := fun V => (V.cell? ⟨z3, 0, none⟩ = some (.int .i64 x) ∧ V.cell? ⟨z3, 1, none⟩ = some (.int .i64 y) ∧ V.cell? ⟨z3, 2, none⟩ = some (.int .i64 ec) ∧ V.cell? ⟨z3, 3, none⟩ = some (.int .i64 eb) ∧ V.cell? ⟨z3, 4, none⟩ = some (.int .i64 mm)) ∧
                V.cell? ⟨w.heap.size + 1, 0, none⟩ = some (.slice A' n' c') ∧ V.cell? ⟨w.heap.size + 1, 1, none⟩ = some (.slice B' m' d')) (by kernel_rfl) (HSF6.out _ (Below.refl _ _).drew) (fun hHeld => ?_)
            refine wpAnyU_pure (i := 0) (v := ?vr0) rfl (by kernel_rfl) (by kernel_rfl) (by kernel_rfl) (by kernel_rfl) (fun _ _ _ h => h) (Or.inl ⟨by rfl, fun V _ => ?hyr0⟩) (fun _ => hHeld) ?restr0
            case hyr0 => go_simp; try with_reducible rfl
            try simp only [Act.put, List.getElem_toArray, List.getElem_cons_zero, List.getElem_cons_succ, List.setIfInBounds_toArray, List.set_cons_zero, List.set_cons_succ]
            refine wpAnyU_pure (i := 1) (v := ?vr1) rfl (by kernel_rfl) (by kernel_rfl) (by kernel_rfl) (by kernel_rfl) (fun _ _ _ h => h) (Or.inl ⟨by rfl, fun V _ => ?hyr1⟩) (fun _ => hHeld) ?restr1
            case hyr1 => go_simp; try with_reducible rfl
            try simp only [Act.put, List.getElem_toArray, List.getElem_cons_zero, List.getElem_cons_succ, List.setIfInBounds_toArray, List.set_cons_zero, List.set_cons_succ]
            refine wpAnyU_load (i := 2) (v := ?vr2) rfl (by kernel_rfl) (by kernel_rfl) (by kernel_rfl) (by kernel_rfl) (fun _ _ _ h => h) (Or.inl ⟨by rfl, fun V hSw => ?hyr2⟩) hHeld ?restr2
            case hyr2 => (obtain ⟨⟨hs0, hs1, hs2, hs3, hs4⟩, hs5, hs6⟩ := hSw); go_simp; try with_reducible rfl
            try simp only [Act.put, List.getElem_toArray, List.getElem_cons_zero, List.getElem_cons_succ, List.setIfInBounds_toArray, List.set_cons_zero, List.set_cons_succ]
            refine wpAnyU_pure (i := 3) (v := ?vr3) rfl (by kernel_rfl) (by kernel_rfl) (by kernel_rfl) (by kernel_rfl) (fun _ _ _ h => h) (Or.inl ⟨by rfl, fun V _ => ?hyr3⟩) (fun _ => hHeld) ?restr3
            case hyr3 => go_simp; try with_reducible rfl
            try simp only [Act.put, List.getElem_toArray, List.getElem_cons_zero, List.getElem_cons_succ, List.setIfInBounds_toArray, List.set_cons_zero, List.set_cons_succ]
            refine wpAnyU_pure (i := 4) (v := ?vr4) rfl (by kernel_rfl) (by kernel_rfl) (by kernel_rfl) (by kernel_rfl) (fun _ _ _ h => h) (Or.inl ⟨by rfl, fun V _ => ?hyr4⟩) (fun _ => hHeld) ?restr4
            case hyr4 => go_simp; try with_reducible rfl
            try simp only [Act.put, List.getElem_toArray, List.getElem_cons_zero, List.getElem_cons_succ, List.setIfInBounds_toArray, List.set_cons_zero, List.set_cons_succ]
            refine wpAnyU_pure (i := 5) (v := ?vr5) rfl (by kernel_rfl) (by kernel_rfl) (by kernel_rfl) (by kernel_rfl) (fun _ _ _ h => h) (Or.inl ⟨by rfl, fun V _ => ?hyr5⟩) (fun _ => hHeld) ?restr5
            case hyr5 => go_simp; try with_reducible rfl
            try simp only [Act.put, List.getElem_toArray, List.getElem_cons_zero, List.getElem_cons_succ, List.setIfInBounds_toArray, List.set_cons_zero, List.set_cons_succ]
            refine wpAnyU_pure (i := 6) (v := ?vr6) rfl (by kernel_rfl) (by kernel_rfl) (by kernel_rfl) (by kernel_rfl) (fun _ _ _ h => h) (Or.inl ⟨by rfl, fun V _ => ?hyr6⟩) (fun _ => hHeld) ?restr6
            case hyr6 => go_simp; try with_reducible rfl
            try simp only [Act.put, List.getElem_toArray, List.getElem_cons_zero, List.getElem_cons_succ, List.setIfInBounds_toArray, List.set_cons_zero, List.set_cons_succ]
            refine wpAnyU_pure (i := 7) (v := ?vr7) rfl (by kernel_rfl) (by kernel_rfl) (by kernel_rfl) (by kernel_rfl) (fun _ _ _ h => h) (Or.inl ⟨by rfl, fun V _ => ?hyr7⟩) (fun _ => hHeld) ?restr7
            case hyr7 => go_simp; try with_reducible rfl
            try simp only [Act.put, List.getElem_toArray, List.getElem_cons_zero, List.getElem_cons_succ, List.setIfInBounds_toArray, List.set_cons_zero, List.set_cons_succ]
            refine wpAnyU_load (i := 8) (v := ?vr8) rfl (by kernel_rfl) (by kernel_rfl) (by kernel_rfl) (by kernel_rfl) (fun _ _ _ h => h) (Or.inl ⟨by rfl, fun V hSw => ?hyr8⟩) hHeld ?restr8
            case hyr8 => (obtain ⟨⟨hs0, hs1, hs2, hs3, hs4⟩, hs5, hs6⟩ := hSw); go_simp; try with_reducible rfl
            try simp only [Act.put, List.getElem_toArray, List.getElem_cons_zero, List.getElem_cons_succ, List.setIfInBounds_toArray, List.set_cons_zero, List.set_cons_succ]
            refine wpAnyU_pure (i := 9) (v := ?vr9) rfl (by kernel_rfl) (by kernel_rfl) (by kernel_rfl) (by kernel_rfl) (fun _ _ _ h => h) (Or.inl ⟨by rfl, fun V _ => ?hyr9⟩) (fun _ => hHeld) ?restr9
            case hyr9 => go_simp; try with_reducible rfl
            try simp only [Act.put, List.getElem_toArray, List.getElem_cons_zero, List.getElem_cons_succ, List.setIfInBounds_toArray, List.set_cons_zero, List.set_cons_succ]
            refine wpAnyU_pure (i := 10) (v := ?vr10) rfl (by kernel_rfl) (by kernel_rfl) (by kernel_rfl) (by kernel_rfl) (fun _ _ _ h => h) (Or.inl ⟨by rfl, fun V _ => ?hyr10⟩) (fun _ => hHeld) ?restr10
            case hyr10 => go_simp; try with_reducible rfl
            try simp only [Act.put, List.getElem_toArray, List.getElem_cons_zero, List.getElem_cons_succ, List.setIfInBounds_toArray, List.set_cons_zero, List.set_cons_succ]
            refine wpAnyU_load (i := 11) (v := ?vr11) rfl (by kernel_rfl) (by kernel_rfl) (by kernel_rfl) (by kernel_rfl) (fun _ _ _ h => h) (Or.inl ⟨by rfl, fun V hSw => ?hyr11⟩) hHeld ?restr11
            case hyr11 => (obtain ⟨⟨hs0, hs1, hs2, hs3, hs4⟩, hs5, hs6⟩ := hSw); go_simp; try with_reducible rfl
            try simp only [Act.put, List.getElem_toArray, List.getElem_cons_zero, List.getElem_cons_succ, List.setIfInBounds_toArray, List.set_cons_zero, List.set_cons_succ]
            refine wpAnyU_pure (i := 12) (v := ?vr12) rfl (by kernel_rfl) (by kernel_rfl) (by kernel_rfl) (by kernel_rfl) (fun _ _ _ h => h) (Or.inl ⟨by rfl, fun V _ => ?hyr12⟩) (fun _ => hHeld) ?restr12
            case hyr12 => go_simp; try with_reducible rfl
            try simp only [Act.put, List.getElem_toArray, List.getElem_cons_zero, List.getElem_cons_succ, List.setIfInBounds_toArray, List.set_cons_zero, List.set_cons_succ]
            refine wpAnyU_pure (i := 15) (v := ?vr15) rfl (by kernel_rfl) (by kernel_rfl) (by kernel_rfl) (by kernel_rfl) (fun _ _ _ h => h) (Or.inl ⟨by rfl, fun V _ => ?hyr15⟩) (fun _ => hHeld) ?restr15
            case hyr15 => go_simp; try with_reducible rfl
            try simp only [Act.put, List.getElem_toArray, List.getElem_cons_zero, List.getElem_cons_succ, List.setIfInBounds_toArray, List.set_cons_zero, List.set_cons_succ]
            refine wpAnyU_load (i := 16) (v := ?vr16) rfl (by kernel_rfl) (by kernel_rfl) (by kernel_rfl) (by kernel_rfl) (fun _ _ _ h => h) (Or.inl ⟨by rfl, fun V hSw => ?hyr16⟩) hHeld ?restr16
            case hyr16 => (obtain ⟨⟨hs0, hs1, hs2, hs3, hs4⟩, hs5, hs6⟩ := hSw); go_simp; try with_reducible rfl
            try simp only [Act.put, List.getElem_toArray, List.getElem_cons_zero, List.getElem_cons_succ, List.setIfInBounds_toArray, List.set_cons_zero, List.set_cons_succ]
            refine wpAnyU_ready (rs := [13]) (by kernel_rfl) (by simp) (AllU.cons (i := 13) rfl (fun K hK => ?_) AllU.nil)
            simp only [List.getElem_toArray, List.getElem_cons_zero, List.getElem_cons_succ]
            go_simp
            refine (HFK.out _).mono ?_
            rintro e w7 ⟨rfl, hb7⟩
            have HB7 := Lib.hid (show Below w6.heap.size w6 w7 from (Below.refl _ _).drew.trans hb7)
            clear hb7 hHeld
            have hHeld := HSF6.out _ HB7.out
            refine hK.out _ _ (fun _ => hHeld) ?_
            clear hK K
            refine wpAnyU_pure (i := 14) (v := ?vs14) rfl (by kernel_rfl) (by kernel_rfl) (by kernel_rfl) (by kernel_rfl) (fun _ _ _ h => h) (Or.inl ⟨by rfl, fun V _ => ?hys14⟩) (fun _ => hHeld) ?rests14
            case hys14 => go_simp; try with_reducible rfl
            try simp only [Act.put, List.getElem_toArray, List.getElem_cons_zero, List.getElem_cons_succ, List.setIfInBounds_toArray, List.set_cons_zero, List.set_cons_succ]
            refine wpAnyU_pure (i := 17) (v := ?vs17) rfl (by kernel_rfl) (by kernel_rfl) (by kernel_rfl) (by kernel_rfl) (fun _ _ _ h => h) (Or.inl ⟨by rfl, fun V _ => ?hys17⟩) (fun _ => hHeld) ?rests17
            case hys17 => go_simp; try with_reducible rfl
            try simp only [Act.put, List.getElem_toArray, List.getElem_cons_zero, List.getElem_cons_succ, List.setIfInBounds_toArray, List.set_cons_zero, List.set_cons_succ]
            refine wpAnyU_ready (rs := [18]) (by kernel_rfl) (by simp) (AllU.cons (i := 18) rfl (fun K hK => ?_) AllU.nil)
            simp only [List.getElem_toArray, List.getElem_cons_zero, List.getElem_cons_succ]
            go_simp
            have HB8 := Lib.hid (HB7.out.alloc HB7.out.size (.cells #[.int .i64 xq, .int .i64 yq, .int .i64 mm, .int .i64 0] 63))
            clear hHeld
            have hHeld := HSF6.out _ HB8.out
            refine hK.out _ _ (fun _ => hHeld) ?_
            clear hK K
            refine wpAnyU_ready (rs := [19]) (by kernel_rfl) (by simp) (AllU.cons (i := 19) rfl (fun K hK => ?_) AllU.nil)
            have hown0 := own_keep HO6.out HB8.out
            have hbase : w.heap.size + 2 ≤ (w7.alloc (.cells #[.int .i64 xq, .int .i64 yq, .int .i64 mm, .int .i64 0] 63)).heap.size := by have := HZ6.out; have := HB8.out.size; omega
            have hnews : ∀ j u, (acV ⟨xq, yq, mm, 0⟩)[j]? = some u → (w7.alloc (.cells #[.int .i64 xq, .int .i64 yq, .int .i64 mm, .int .i64 0] 63)).cell? ((⟨w7.heap.size, 0, none⟩ : Addr).add j) = some u := by
              have h := one_arc w7 ⟨xq, yq, mm, 0⟩ 63
              simpa using h
            refine step_append_cells _ (by rfl) _ _ _ (by rfl) (w.heap.size + 2) 63 4 32 i0 _ Try.underlying60 hi hi0 hi1 hi2 rfl (by decide) u6 _ _ (by rfl) (by exact hown0) ⟨w7.heap.size, 0, none⟩ 1 1 (acV ⟨xq, yq, mm, 0⟩) (by rfl) (by rfl) (by exact hnews) (by exact acV_one _) (by have := HLEN.out; have := HLE.out; omega) (by decide) (by exact hbase) ?_
            intro v' w9 hown hgrow hat
            have HB9 := Lib.hid (show Below (w.heap.size + 2) W1 w9 from (HBx6.out.trans (HB8.out.mono (by have := HZ6.out; omega))).trans (below_own hown0 hgrow hbase))
            have HE9 := Lib.hid (show ∀ i, w9.cell? ⟨z3, i, none⟩ = #[Value.int .i64 x, .int .i64 y, .int .i64 ec, .int .i64 eb, .int .i64 mm][i]? from fun i =>
              (hgrow.cell_far ⟨z3, i, none⟩ (by show z3 < _; have := HZ6.out; have := HB8.out.size; omega) (fun h => HNE.out h.symm)).trans ((HB8.out.cell (p := ⟨z3, i, none⟩) HZ6.out).trans (HE6.out i)))
            have HN9 := Lib.hid (show v'.ownBlock ≠ some z3 by
              rcases hat with h | h
              · rw [h]; exact HNE.out
              · rw [h]
                intro h2
                injection h2 with h2
                have := HZ6.out; have := HB8.out.size; omega)
            have HZ9 := Lib.hid (show z3 < w9.heap.size by have := HZ6.out; have := HB8.out.size; have := hgrow.size; omega)
            have HO9 := Lib.hid hown
            clear hown0 hown hgrow hat hHeld hnews
            refine hK.out _ _ (fun h => by have h2 : false = true := h; cases h2) ?_
            clear hK K
            refine wpAnyU_pure (i := 20) (v := ?vw20) rfl (by kernel_rfl) (by kernel_rfl) (by kernel_rfl) (by kernel_rfl) (fun _ _ _ h => h) (Or.inl ⟨by rfl, fun V _ => ?hyw20⟩) (fun h => by have h2 : false = true := h; cases h2) ?restw20
            case hyw20 => go_simp; try with_reducible rfl
            refine wpAnyU_done (by kernel_rfl) ?_ _
            go_wp2_with fail
            go_roundg p
            case measure => omega
            case rel =>
              refine ⟨k + 1, by omega, by go_num, ?_, HN9, HE9, HB9, HZ9⟩
              show World.ownsRow _ _ _ _ _ _ _
              rw [HX.out, ← List.append_assoc, acsV_snoc, List.length_append]
              exact HO9.out

end Go.Proofs.Ytalgbcndifaaiaa.Wd

namespace Go.Proofs.Ytalgbcndifaaiaa.Wd
set_option linter.unusedVariables false

/-- A run on the letters f, by its edges. -/
structure RunE (st : List Int) (es : List Ed) (f : Nat → Int) (ε : Nat → Ed) : Prop where
  start : (ε 0).f ∈ st
  mem : ∀ k, ε k ∈ es
  reads : ∀ k, letB (f k) (ε k) = true
  next : ∀ k, (ε k).t = (ε (k + 1)).f
/-- This mark is met again and again. -/
def InfE (ε : Nat → Ed) (b : Nat) : Prop := ∀ n, ∃ k, n ≤ k ∧ (ε k).m.toNat.testBit b = true
/-- The letters f are a word of the automaton. -/
def AccW (st : List Int) (es : List Ed) (kind M : Nat) (f : Nat → Int) : Prop := ∃ ε, RunE st es f ε ∧ ∃ x : Nat, (∀ b, x.testBit b = true ↔ InfE ε b) ∧ accB kind M (x : Int) = true

/-- The place of the position k. -/
def posN (n m k : Nat) : Nat := if k < n then k else n + (k - n) % m
theorem posN_lt {n m k : Nat} (hm : 0 < m) : posN n m k < n + m := by
  unfold posN
  split
  · omega
  · have := Nat.mod_lt (k - n) hm; omega
theorem posN_zero {n m : Nat} : posN n m 0 = 0 := by
  unfold posN
  split
  · rfl
  · have : n = 0 := by omega
    subst this
    simp
theorem posN_next {n m k : Nat} (hm : 0 < m) : folN n (n + m) (posN n m k) = posN n m (k + 1) := by
  unfold folN posN
  by_cases h : k < n
  · rw [if_pos h]
    by_cases h2 : k + 1 < n
    · rw [if_pos h2, if_neg (by omega)]
    · rw [if_neg h2, if_neg (by omega), show k + 1 - n = 0 from by omega, Nat.zero_mod]; omega
  · rw [if_neg h, if_neg (by omega : ¬ k + 1 < n), show k + 1 - n = (k - n) + 1 from by omega]
    have hlt := Nat.mod_lt (k - n) hm
    by_cases h2 : (k - n) % m + 1 = m
    · rw [if_pos (by omega)]
      have : (k - n + 1) % m = 0 := by rw [← Nat.mod_add_mod, h2, Nat.mod_self]
      omega
    · rw [if_neg (by omega)]
      have : (k - n + 1) % m = (k - n) % m + 1 := by rw [← Nat.mod_add_mod, Nat.mod_eq_of_lt (by omega)]
      omega
theorem at_pos (s l : List Int) (k : Nat) (hl : 0 < l.length) : at_ s l (posN s.length l.length k) = at_ s l k := by
  unfold posN
  split
  · rfl
  · rename_i h
    rw [at_ge (s := s) (l := l) (k := k) (by omega), at_ge (by omega), Nat.add_sub_cancel_left, Nat.mod_mod]
theorem div_eq {a a' b b' N : Nat} (h : a * N + b = a' * N + b') (hb : b < N) (hb' : b' < N) : a = a' ∧ b = b' := by
  have hN : 0 < N := by omega
  have h1 : (a * N + b) / N = a := by rw [Nat.mul_comm, Nat.mul_add_div hN, Nat.div_eq_of_lt hb]; rfl
  have h2 : (a' * N + b') / N = a' := by rw [Nat.mul_comm, Nat.mul_add_div hN, Nat.div_eq_of_lt hb']; rfl
  have h3 : a = a' := by rw [← h1, h, h2]
  subst h3
  exact ⟨rfl, by omega⟩

section
variable {S M kind : Nat} {st : List Int} {es : List Ed} {sl lp : List Int}
theorem getD_of_mem {e : Ed} (h : e ∈ es) : ∃ i, i < es.length ∧ es.getD i ed0 = e := by
  obtain ⟨i, hi, rfl⟩ := List.mem_iff_getElem.1 h
  exact ⟨i, hi, by rw [List.getD_eq_getElem?_getD, List.getElem?_eq_getElem hi]; rfl⟩
theorem mem_of_getD {i : Nat} (h : i < es.length) : es.getD i ed0 ∈ es := by
  rw [List.getD_eq_getElem?_getD, List.getElem?_eq_getElem h]; exact List.getElem_mem h
theorem st_mem {j : Nat} (h : j < st.length) : st.getD j 0 ∈ st := by
  rw [List.getD_eq_getElem?_getD, List.getElem?_eq_getElem h]; exact List.getElem_mem h
theorem st_of_mem {x : Int} (h : x ∈ st) : ∃ j, j < st.length ∧ st.getD j 0 = x := by
  obtain ⟨i, hi, rfl⟩ := List.mem_iff_getElem.1 h
  exact ⟨i, hi, by rw [List.getD_eq_getElem?_getD, List.getElem?_eq_getElem hi]; rfl⟩

theorem isB_acc (hes : EdOK S M es) (hl : 0 < lp.length) (hst : ∀ j, j < st.length → ∃ s : Nat, st.getD j 0 = (s : Int)) :
    IsB st (arcP (at_ sl lp) (sl.length + lp.length) sl.length es es.length) (sl.length + lp.length) kind M ↔ AccW st es kind M (at_ sl lp) := by
  have hN : sl.length < sl.length + lp.length := by omega
  have hnat : ∀ e ∈ es, ∃ a b : Nat, e.f = (a : Int) ∧ e.t = (b : Int) := fun e he => by
    obtain ⟨i, hi, rfl⟩ := getD_of_mem he
    obtain ⟨a, b, _, e1, e2, _⟩ := hes i hi
    exact ⟨a, b, e1, e2⟩
  constructor
  · rintro ⟨j, hj, s, hs, j2, hr, x, y, hL, hac⟩
    obtain ⟨q, hrun, hinf⟩ := loop_run hr hL
    -- each arc is an edge at a place
    have hch : ∀ k, ∃ e ∈ es, letB (at_ sl lp (posN sl.length lp.length k)) e = true ∧ q k = arcOf (sl.length + lp.length) sl.length e (posN sl.length lp.length k) := by
      intro k
      induction k with
      | zero =>
        obtain ⟨i, p, h1, h2, h3, h4⟩ := arcP_mem.1 (hrun.2 0).1
        have h5 := hrun.1
        rw [h4] at h5
        have h6 := div_eq (b' := 0) (show (es.getD i ed0).f.toNat * (sl.length + lp.length) + p = s * (sl.length + lp.length) + 0 from h5) h2 (by omega)
        obtain rfl : p = 0 := h6.2
        refine ⟨_, mem_of_getD h1, ?_, ?_⟩
        · rw [posN_zero]; exact h3
        · rw [posN_zero]; exact h4
      | succ k ih =>
        obtain ⟨e, he, _, hq⟩ := ih
        obtain ⟨i, p, h1, h2, h3, h4⟩ := arcP_mem.1 (hrun.2 (k + 1)).1
        have h5 := (hrun.2 k).2
        rw [h4, hq] at h5
        have h6 := div_eq (show e.t.toNat * (sl.length + lp.length) + folN sl.length (sl.length + lp.length) (posN sl.length lp.length k) = (es.getD i ed0).f.toNat * (sl.length + lp.length) + p from h5) (folN_lt hN (posN_lt hl)) h2
        refine ⟨_, mem_of_getD h1, ?_, ?_⟩
        · rw [← posN_next hl, h6.2]; exact h3
        · rw [← posN_next hl, h6.2]; exact h4
    let ε : Nat → Ed := fun k => Classical.choose (hch k)
    have hε : ∀ k, ε k ∈ es ∧ letB (at_ sl lp (posN sl.length lp.length k)) (ε k) = true ∧ q k = arcOf (sl.length + lp.length) sl.length (ε k) (posN sl.length lp.length k) := fun k => Classical.choose_spec (hch k)
    refine ⟨ε, ⟨?_, fun k => (hε k).1, fun k => ?_, fun k => ?_⟩, x, fun b => ?_, hac⟩
    · have h5 := hrun.1
      rw [(hε 0).2.2, posN_zero] at h5
      have h6 := div_eq (b' := 0) (show (ε 0).f.toNat * (sl.length + lp.length) + 0 = s * (sl.length + lp.length) + 0 from h5) (by omega) (by omega)
      obtain ⟨a, b, e1, e2⟩ := hnat _ (hε 0).1
      rw [e1, Int.toNat_natCast] at h6
      rw [e1, h6.1, ← hs]
      exact st_mem hj
    · rw [← at_pos sl lp k hl]; exact (hε k).2.1
    · have h5 := (hrun.2 k).2
      rw [(hε k).2.2, (hε (k + 1)).2.2] at h5
      have h6 := div_eq (show (ε k).t.toNat * (sl.length + lp.length) + folN sl.length (sl.length + lp.length) (posN sl.length lp.length k) = (ε (k + 1)).f.toNat * (sl.length + lp.length) + posN sl.length lp.length (k + 1) from h5) (folN_lt hN (posN_lt hl)) (posN_lt hl)
      obtain ⟨a, b, e1, e2⟩ := hnat _ (hε k).1
      obtain ⟨a', b', e1', e2'⟩ := hnat _ (hε (k + 1)).1
      rw [e2, e1', Int.toNat_natCast, Int.toNat_natCast] at h6
      rw [e2, e1', h6.1]
    · rw [hinf b]
      refine forall_congr' fun n => exists_congr fun k => and_congr Iff.rfl ?_
      rw [(hε k).2.2]
      exact Iff.rfl
  · rintro ⟨ε, hr, x, hx, hac⟩
    let q : Nat → Ac := fun k => arcOf (sl.length + lp.length) sl.length (ε k) (posN sl.length lp.length k)
    obtain ⟨j, hj, hjs⟩ := st_of_mem hr.start
    obtain ⟨s, hs⟩ := hst j hj
    have hrun : Run (arcP (at_ sl lp) (sl.length + lp.length) sl.length es es.length) (s * (sl.length + lp.length)) q := by
      refine ⟨?_, fun k => ⟨?_, ?_⟩⟩
      · show (ε 0).f.toNat * (sl.length + lp.length) + posN sl.length lp.length 0 = _
        rw [← hjs, hs, Int.toNat_natCast, posN_zero]; rfl
      · obtain ⟨i, hi, he⟩ := getD_of_mem (hr.mem k)
        refine arcP_mem.2 ⟨i, posN sl.length lp.length k, hi, posN_lt hl, ?_, ?_⟩
        · rw [he, at_pos sl lp k hl]; exact hr.reads k
        · rw [he]
      · show (ε k).t.toNat * (sl.length + lp.length) + folN sl.length (sl.length + lp.length) (posN sl.length lp.length k) = (ε (k + 1)).f.toNat * (sl.length + lp.length) + posN sl.length lp.length (k + 1)
        rw [posN_next hl, hr.next k]
    have hinf : InfM q x := fun b => by
      rw [hx b]
      exact Iff.rfl
    obtain ⟨j2, y, hrc, hL⟩ := run_loop hrun hinf
    exact ⟨j, hj, s, hs, j2, hrc, x, y, hL, hac⟩
end

end Go.Proofs.Ytalgbcndifaaiaa.Wd

namespace Go.Proofs.Ytalgbcndifaaiaa.Wd
open Go Go.RowKit
set_option linter.unusedVariables false

theorem diffN_zero {a b : Nat} : diffN a b = 0 ↔ ∀ i, a.testBit i = true → b.testBit i = true := by
  constructor
  · intro h i hi
    have h1 := diffN_bit a b i
    rw [h, Nat.zero_testBit, hi, Bool.true_and] at h1
    simpa using h1.symm
  · intro h
    apply Nat.eq_of_testBit_eq
    intro i
    rw [diffN_bit, Nat.zero_testBit]
    cases hi : a.testBit i
    · rfl
    · rw [h i hi]; rfl
/-- Two cubes without a common letter. -/
def Dj (x y : Cu) : Prop := ∀ b, x.l.testBit b = true → y.l.testBit b = false
/-- What coverL takes: disjoint cubes within the set; what is left holds no cube of the list. -/
theorem cover_spec (r : List Cu) : ∀ s, ∃ rem : Nat, (∀ b, s.testBit b = true ↔ (∃ x ∈ coverL s r, x.l.testBit b = true) ∨ rem.testBit b = true) ∧ (∀ x ∈ coverL s r, x ∈ r) ∧ (coverL s r).Pairwise Dj ∧ (∀ x ∈ r, (∃ b, x.l.testBit b = true ∧ rem.testBit b = false) ∨ x.l = 0) := by
  induction r with
  | nil => intro s; exact ⟨s, fun b => by simp [coverL], fun x hx => by simp [coverL] at hx, by simp [coverL], fun x hx => by cases hx⟩
  | cons x r ih =>
    intro s
    by_cases h0 : s = 0
    · subst h0
      rw [coverL_none]
      refine ⟨0, fun b => by simp, (fun y hy => by cases hy), List.Pairwise.nil, fun y hy => ?_⟩
      by_cases hy0 : y.l = 0
      · exact .inr hy0
      · obtain ⟨b, hb⟩ := Nat.exists_testBit_of_ne_zero hy0
        exact .inl ⟨b, hb, Nat.zero_testBit b⟩
    · by_cases h1 : diffN x.l s = 0
      · rw [coverL_take h0 h1]
        obtain ⟨rem, a1, a2, a3, a4⟩ := ih (diffN s x.l)
        have hin := diffN_zero.1 h1
        refine ⟨rem, fun b => ?_, fun y hy => ?_, List.pairwise_cons.2 ⟨fun y hy b hb => ?_, a3⟩, fun y hy => ?_⟩
        · have h2 := a1 b
          rw [diffN_bit] at h2
          constructor
          · intro hb
            cases hx : x.l.testBit b
            · rw [hb, hx] at h2
              rcases h2.1 rfl with ⟨y, hy, hyb⟩ | h3
              · exact .inl ⟨y, by simp [hy], hyb⟩
              · exact .inr h3
            · exact .inl ⟨x, by simp, hx⟩
          · rintro (⟨y, hy, hyb⟩ | h3)
            · rcases List.mem_cons.1 hy with rfl | hy
              · exact hin b hyb
              · have := h2.2 (.inl ⟨y, hy, hyb⟩)
                rw [Bool.and_eq_true] at this
                exact this.1
            · have := h2.2 (.inr h3)
              rw [Bool.and_eq_true] at this
              exact this.1
        · rcases List.mem_cons.1 hy with rfl | hy
          · simp
          · simp [a2 y hy]
        · rw [Bool.eq_false_iff]
          intro hyb
          have := (a1 b).2 (.inl ⟨y, hy, hyb⟩)
          rw [diffN_bit, hb] at this
          simp at this
        · rcases List.mem_cons.1 hy with rfl | hy
          · by_cases hy0 : y.l = 0
            · exact .inr hy0
            · obtain ⟨b, hb⟩ := Nat.exists_testBit_of_ne_zero hy0
              refine .inl ⟨b, hb, ?_⟩
              rw [Bool.eq_false_iff]
              intro hrb
              have := (a1 b).2 (.inr hrb)
              rw [diffN_bit, hb] at this
              simp at this
          · exact a4 y hy
      · rw [coverL_skip h0 h1]
        obtain ⟨rem, a1, a2, a3, a4⟩ := ih s
        refine ⟨rem, a1, fun y hy => by simp [a2 y hy], a3, fun y hy => ?_⟩
        rcases List.mem_cons.1 hy with rfl | hy
        · left
          apply Classical.byContradiction
          intro hn
          apply h1
          rw [diffN_zero]
          intro i hi
          cases hr : rem.testBit i
          · exact absurd ⟨i, hi, hr⟩ hn
          · exact (a1 i).2 (.inr hr)
        · exact a4 y hy

/-- The letters of a cube. -/
theorem cube_bit {p c b l : Nat} (hp : p ≤ 6) (hl : l < 2 ^ p) (i : Int) (s S : Int) : (cubeN p c b).testBit l = letB (l : Int) ⟨s, S, c, b, i⟩ := by
  unfold cubeN
  rw [fitN_bit, decide_eq_true hl, Bool.true_and]
  rfl
theorem one_full {p l j : Nat} (hp : p ≤ 6) (hj : j < 2 ^ p) : (cubeN p (2 ^ p - 1) l).testBit j = decide (j = l) := by
  rw [cube_bit hp hj 0 0 0]
  have h := letB_one (k := l) (s := 0) (t := 0) (m := 0) hp hj
  rw [mask_int] at h
  exact h
/-- The cubes for what a state lacks: each of its letters in just one. -/
theorem lack_spec {p : Nat} (hp : p ≤ 6) (X : Nat → Nat) (s : Nat) : (∀ l, l < 2 ^ p → ((∃ x ∈ lackN p X s, x.l.testBit l = true) ↔ (X s).testBit l = false)) ∧ (lackN p X s).Pairwise Dj ∧ ∀ x ∈ lackN p X s, ∃ c b, c < 2 ^ p ∧ b < 2 ^ p ∧ b &&& c = b ∧ x = ⟨c, b, cubeN p c b⟩ := by
  obtain ⟨rem, a1, a2, a3, a4⟩ := cover_spec (allCubes p) (diffN (fitN p ed0) (X s))
  refine ⟨fun l hl => ?_, a3, fun x hx => (allCubes_mem hp).1 (a2 x hx)⟩
  have hrem : rem.testBit l = false := by
    rw [Bool.eq_false_iff]
    intro hr
    have hmask : l &&& (2 ^ p - 1) = l := by rw [Nat.and_two_pow_sub_one_eq_mod, Nat.mod_eq_of_lt hl]
    have hp0 := Nat.two_pow_pos p
    rcases a4 ⟨2 ^ p - 1, l, cubeN p (2 ^ p - 1) l⟩ ((allCubes_mem hp).2 ⟨2 ^ p - 1, l, by omega, hl, hmask, rfl⟩) with ⟨b, hb, hbr⟩ | h0
    · have hlt : b < 2 ^ p := by
        refine Nat.lt_of_not_le fun h => ?_
        have hb' : (cubeN p (2 ^ p - 1) l).testBit b = true := hb
        unfold cubeN at hb'
        rw [fitN_bit, decide_eq_false (by omega)] at hb'
        cases hb'
      have hb' : (cubeN p (2 ^ p - 1) l).testBit b = true := hb
      rw [one_full hp hlt, decide_eq_true_iff] at hb'
      subst hb'
      rw [hr] at hbr
      cases hbr
    · have h1 : (cubeN p (2 ^ p - 1) l).testBit l = true := by rw [one_full hp hl, decide_eq_true rfl]
      have h0' : cubeN p (2 ^ p - 1) l = 0 := h0
      rw [h0', Nat.zero_testBit] at h1
      cases h1
  have h1 := a1 l
  rw [diffN_bit, fit_all hp, decide_eq_true hl, Bool.true_and, hrem] at h1
  show (∃ x ∈ coverL _ _, _) ↔ _
  constructor
  · intro h
    have := h1.2 (.inl h)
    simpa using this
  · intro h
    rcases h1.1 (by rw [h]; rfl) with h2 | h2
    · exact h2
    · cases h2

theorem sinkL_mem {p S : Nat} {i : Int} {X : Nat → Nat} {k : Nat} {e : Ed} : e ∈ sinkL p S i X k ↔ ∃ s, s < k ∧ ∃ x ∈ lackN p X s, e = toE s S i x := by
  induction k with
  | zero => simp [sinkL]
  | succ k ih =>
    rw [sinkL, List.mem_append, ih, List.mem_map]
    constructor
    · rintro (⟨s, h1, h2⟩ | ⟨x, hx, rfl⟩)
      · exact ⟨s, by omega, h2⟩
      · exact ⟨k, by omega, x, hx, rfl⟩
    · rintro ⟨s, h1, x, hx, rfl⟩
      by_cases e : s = k
      · subst e; exact .inr ⟨x, hx, rfl⟩
      · exact .inl ⟨s, by omega, x, hx, rfl⟩
/-- Two edges from one state without a common letter. -/
def Pt (p : Nat) (e e' : Ed) : Prop := e.f = e'.f → ¬ Meet p e e'
theorem sinkL_apart {p S : Nat} (hp : p ≤ 6) {i : Int} {X : Nat → Nat} {k : Nat} : (sinkL p S i X k).Pairwise (Pt p) := by
  induction k with
  | zero => simp [sinkL]
  | succ k ih =>
    rw [sinkL, List.pairwise_append]
    obtain ⟨_, h2, h3⟩ := lack_spec hp X k
    refine ⟨ih, ?_, fun e he e' he' hf => ?_⟩
    · rw [List.pairwise_map]
      refine List.Pairwise.imp_of_mem ?_ h2
      intro x y hx hy hd _ ⟨l, hl, h4, h5⟩
      obtain ⟨c, b, _, _, _, rfl⟩ := h3 x hx
      obtain ⟨c', b', _, _, _, rfl⟩ := h3 y hy
      have h6 := hd l (by show (cubeN p c b).testBit l = true; rw [cube_bit hp hl]; exact h4)
      have h7 : (cubeN p c' b').testBit l = false := h6
      rw [cube_bit hp hl i k S] at h7
      have h8 : letB (l : Int) ⟨(k : Int), (S : Int), c', b', i⟩ = true := h5
      rw [h7] at h8
      cases h8
    · obtain ⟨s, h4, x, _, rfl⟩ := sinkL_mem.1 he
      obtain ⟨y, _, rfl⟩ := List.mem_map.1 he'
      have : (s : Int) = (k : Int) := hf
      omega
theorem letB_orE (o l : Int) (e : Ed) : letB l (orE o e) = letB l e := rfl
/-- clashB by pairs. -/
theorem clash_pairs {p : Nat} {es : List Ed} (hf : ∀ i, i < es.length → ∃ f : Nat, (es.getD i ed0).f = (f : Int)) : clashB p es es.length = false ↔ es.Pairwise (Pt p) := by
  rw [Bool.eq_false_iff, Ne, clashB_iff p es es.length hf, List.pairwise_iff_getElem]
  have hg : ∀ i (h : i < es.length), es.getD i ed0 = es[i] := fun i h => by rw [List.getD_eq_getElem?_getD, List.getElem?_eq_getElem h]; rfl
  constructor
  · intro h i j hi hj hij he hm
    exact h ⟨i, j, hij, hj, by rw [hg i hi, hg j hj]; exact he, by rw [hg i hi, hg j hj]; exact hm⟩
  · rintro h ⟨i, j, hij, hj, he, hm⟩
    rw [hg i (by omega), hg j hj] at he hm
    exact h i j (by omega) hj hij he hm

end Go.Proofs.Ytalgbcndifaaiaa.Wd
