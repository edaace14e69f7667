/-
  Walk of the reference, for all automata and words.
-/
import Derived.Test.YtfblnadmbfhjiaaW04
import Derived.Test.YtfblnadmbfhjiaaW11
import Derived.BigQuiet
import Derived.Deep.QuietTactic
namespace Go.Proofs.Ytfblnadmbfhjiaa.Wd
open Go.RowKit Go.Maps
set_option linter.unusedVariables false
set_option linter.unusedSimpArgs false

theorem out_none {es : List Ed} {s : Nat} {l : Int} (h : nextS es s l = none) : outL es s l es.length = [] := by
  have h1 := nextS_out es s l
  rw [h] at h1
  exact List.head?_eq_none_iff.1 h1
theorem out_some {es : List Ed} {s j : Nat} {l : Int} (h : nextS es s l = some j) : ∃ r, outL es s l es.length = (j : Int) :: r := by
  have h1 := nextS_out es s l
  rw [h] at h1
  exact List.head?_eq_some_iff.1 h1

set_option maxRecDepth 100000 in
set_option maxHeartbeats 8000000 in
theorem refWalk_bad (P S K M : Int) (A E : Option Addr) (n c ne ce : Nat) (st : List Int) (es : List Ed) (A' B' : Option Addr) (n' c' m' d' : Nat) (sl lp : List Int) (Wk : Nat → Bool → Prop) (w : World) (ha : Ints w A n st) (hn : n ≤ 17592186044416) (he : EdgesAt w E ne es) (hne : ne ≤ 17592186044416) (hbo : BitsOK es) (hx : Ints w A' n' sl) (hy : Ints w B' m' lp) (hn' : n' ≤ 100000) (hm' : m' ≤ 100000)
    (hb : autB P S K M st es = false ∨ (autB P S K M st es = true ∧ detB P st es = false) ∨ (autB P S K M st es = true ∧ detB P st es = true ∧ validB P sl lp = false)) :
    Calls Try.prog 26 #[.agg #[.int .i64 P, .int .i64 S, .slice A n c, .int .i64 K, .int .i64 M, .slice E ne ce], .agg #[.slice A' n' c', .slice B' m' d']] w fun e w' => ResW (WalR P S K M st es sl lp Wk) w w' e := by
  have HV := Lib.hid (fun W (hW : Below w.heap.size w W) => refValid_ok P S K M A E n c ne ce st es W (ha.below hW) hn (he.below hW) hne)
  have HWV := Lib.hid (fun W (hW : Below w.heap.size w W) => refValid_any A' B' n' c' m' d' P sl lp W (hx.below hW) (hy.below hW) hn' hm')
  have HON := Lib.hid (show autB P S K M st es = true → ∀ W (hW : Below w.heap.size w W), Calls Try.prog 29 #[.agg #[.int .i64 P, .int .i64 S, .slice A n c, .int .i64 K, .int .i64 M, .slice E ne ce]] W fun e w' => e = .returned (.bool (detB P st es)) ∧ Below W.heap.size W w' from fun hv W hW => by
    obtain ⟨⟨h1, h2, h5, h6, _⟩, _, _, h4, h7⟩ := autB_true hv
    obtain ⟨p, rfl⟩ := Int.eq_ofNat_of_zero_le h1
    obtain ⟨s, rfl⟩ := Int.eq_ofNat_of_zero_le h5
    have hL := he.1
    exact refOne_any p s K M A E n c ne ce st es W ha.1 (he.below hW) (by omega) (by omega) (by omega) h7 hbo)
  obtain ⟨hB0, hx6, hx2⟩ := boxes62 w P S A n c K M E ne ce A' n' c' B' m' d'
  have HB0 := Lib.hid hB0
  have HX6 := Lib.hid hx6
  have HX2 := Lib.hid hx2
  clear ha he hx hy hB0 hx6 hx2 hbo
  rcases hb with hv | ⟨hv, hd⟩ | ⟨hv, hd, hvb⟩
  · have HF := Lib.hid (show WalR P S K M st es sl lp Wk 0 false 1 from .inl ⟨hv, rfl, rfl, rfl⟩)
    rw [hv] at HV
    clear hv
    go_enter Try.func26, Try.ntmps26
    go_wp2_with fail
    refine (HV.out _ HB0.out).mono ?_
    rintro x w1 ⟨rfl, hb1⟩
    have HB1 := Lib.hid (HB0.out.trans (hb1.mono HB0.out.size))
    clear hb1
    go_wp2_with fail
    go_ret3
    exact ⟨0, false, 1, rfl, HF, HB1.out⟩
  · have HF := Lib.hid (show WalR P S K M st es sl lp Wk 0 false 7 from .inr (.inl ⟨hv, hd, rfl, rfl, rfl⟩))
    have HO := Lib.hid (HON.out hv)
    rw [hv] at HV
    rw [hd] at HO
    clear hv hd
    go_enter Try.func26, Try.ntmps26
    go_wp2_with fail
    refine (HV.out _ HB0.out).mono ?_
    rintro x w1 ⟨rfl, hb1⟩
    have HB1 := Lib.hid (HB0.out.trans (hb1.mono HB0.out.size))
    obtain ⟨hz, p0, p1, p2, p3, p4, p5⟩ := HX6.out.below hb1
    clear hb1
    go_wp2_with fail
    refine (HO.out _ HB1.out).mono ?_
    rintro x w2 ⟨rfl, hb2⟩
    have HB2 := Lib.hid (HB1.out.trans (hb2.mono HB1.out.size))
    clear hb2
    go_wp2_with fail
    go_ret3
    exact ⟨0, false, 7, rfl, HF, HB2.out⟩
  · have HF := Lib.hid (show WalR P S K M st es sl lp Wk 0 false 2 from .inr (.inr (.inl ⟨hv, hd, hvb, rfl, rfl, rfl⟩)))
    have HO := Lib.hid (HON.out hv)
    rw [hv] at HV
    rw [hd] at HO
    rw [hvb] at HWV
    clear hv hd hvb
    go_enter Try.func26, Try.ntmps26
    go_wp2_with fail
    refine (HV.out _ HB0.out).mono ?_
    rintro x w1 ⟨rfl, hb1⟩
    have HB1 := Lib.hid (HB0.out.trans (hb1.mono HB0.out.size))
    obtain ⟨hz, p0, p1, p2, p3, p4, p5⟩ := HX6.out.below hb1
    have HX61 := Lib.hid (HX6.out.below hb1)
    have HX21 := Lib.hid (HX2.out.below hb1)
    clear hb1
    go_wp2_with fail
    refine (HO.out _ HB1.out).mono ?_
    rintro x w2 ⟨rfl, hb2⟩
    have HB2 := Lib.hid (HB1.out.trans (hb2.mono HB1.out.size))
    have HX62 := Lib.hid (HX61.out.below hb2)
    have HX22 := Lib.hid (HX21.out.below hb2)
    clear hb2 hz p0 p1 p2 p3 p4 p5
    obtain ⟨hz, p0, p1, p2, p3, p4, p5⟩ := HX62.out
    obtain ⟨hz2, r0, r1⟩ := HX22.out
    go_wp2_with fail
    refine (HWV.out _ HB2.out).mono ?_
    rintro x w3 ⟨rfl, hb3⟩
    have HB3 := Lib.hid (HB2.out.trans (hb3.mono HB2.out.size))
    clear hb3
    go_wp2_with fail
    go_ret3
    exact ⟨0, false, 2, rfl, HF, HB3.out⟩

theorem refOut_none (P S K M : Int) (s : Nat) (l : Int) (A E : Option Addr) (n c ne ce : Nat) (es : List Ed) (w : World) (hE : EdgesAt w E ne es) (hne : ne ≤ 40000) (h : nextS es s l = none) :
    Calls Try.prog 32 #[.agg #[.int .i64 P, .int .i64 S, .slice A n c, .int .i64 K, .int .i64 M, .slice E ne ce], .int .i64 s, .int .i64 l] w fun e w' => ∃ A4 c4, e = .returned (.slice A4 0 c4) ∧ Below w.heap.size w w' := by
  refine (refOut_any P S K M s l A E n c ne ce es w hE hne).mono fun e w' ⟨v, he, ho, hb⟩ => ?_
  rw [← hE.1, out_none h] at ho
  obtain ⟨A4, c4, rfl, _⟩ := own_slice ho
  exact ⟨A4, c4, he, hb⟩
theorem refOut_some (P S K M : Int) (s j : Nat) (l : Int) (A E : Option Addr) (n c ne ce : Nat) (es : List Ed) (w : World) (hE : EdgesAt w E ne es) (hne : ne ≤ 40000) (h : nextS es s l = some j) :
    Calls Try.prog 32 #[.agg #[.int .i64 P, .int .i64 S, .slice A n c, .int .i64 K, .int .i64 M, .slice E ne ce], .int .i64 s, .int .i64 l] w fun e w' => ∃ b k4 c4 : Nat, e = .returned (.slice (some ⟨b, 0, none⟩) (k4 + 1) c4) ∧ w'.cell? ⟨b, 0, none⟩ = some (.int .i64 (j : Int)) ∧ b < w'.heap.size ∧ k4 ≤ 40000 ∧ Below w.heap.size w w' := by
  refine (refOut_any P S K M s l A E n c ne ce es w hE hne).mono fun e w' ⟨v, he, ho, hb⟩ => ?_
  have hlen := outL_len es s l ne
  obtain ⟨r, hr⟩ := out_some h
  rw [hE.1] at hr
  rw [hr] at ho hlen
  obtain ⟨g, cap, rfl, _, hlt⟩ := ho.form (by simp)
  obtain ⟨b, off, hb2, _, hc⟩ := (Ints.of_own ho).2 (by simp)
  injection hb2 with hb2
  injection hb2 with e1 e2
  subst e1 e2
  have h0 := hc 0 (by simp)
  simp at hlen
  exact ⟨g, r.length, cap, he, by simpa using h0, hlt, by omega, hb⟩

theorem mul_small {S m : Nat} (hS : S ≤ 3000) (hm : m ≤ 100000) : S * m ≤ 300000000 := Nat.le_trans (Nat.mul_le_mul hS hm) (by decide)

set_option maxRecDepth 100000 in
set_option maxHeartbeats 16000000 in
theorem refWalk_good (p S : Nat) (K M : Int) (A E : Option Addr) (n c ne ce : Nat) (st : List Int) (es : List Ed) (A' B' : Option Addr) (n' c' m' d' : Nat) (sl lp : List Int) (w : World) (ha : Ints w A n st) (hn : n ≤ 17592186044416) (he : EdgesAt w E ne es) (hne : ne ≤ 17592186044416) (hbo : BitsOK es) (hx : Ints w A' n' sl) (hy : Ints w B' m' lp) (hnc : n' ≤ c') (hmd : m' ≤ d') (hnm : n' + m' ≤ 100000)
    (hv : autB p S K M st es = true) (hd : detB p st es = true) (hvb : validB p sl lp = true) :
    Calls Try.prog 26 #[.agg #[.int .i64 p, .int .i64 S, .slice A n c, .int .i64 K, .int .i64 M, .slice E ne ce], .agg #[.slice A' n' c', .slice B' m' d']] w fun e w' => ResW (WalR p S K M st es sl lp (WalkB es (at_ sl lp) (st.getD 0 0).toNat n' m' S)) w w' e := by
  have HVV := Lib.hid hv
  have HDD := Lib.hid hd
  have HVB := Lib.hid hvb
  obtain ⟨⟨_, hp6, _, hS3, _⟩, hmk, hst, hes4, h7⟩ := autB_true hv
  have hne4 : ne ≤ 40000 := by rw [← he.1]; exact hes4
  have hd1 : st.length = 1 := by unfold detB at hd; rw [Bool.and_eq_true] at hd; exact of_decide_eq_true hd.1
  obtain rfl : n = 1 := by rw [← ha.1]; exact hd1
  obtain ⟨s0, hs0, hs0S⟩ := start_state hst 0 (by omega)
  have hends := fun j (hj : j < ne) => ends_state h7 j (by rw [he.1]; exact hj)
  have hmarks := fun j (hj : j < ne) => marks_small hmk h7 (by rw [he.1]; exact hj)
  have e0 : (st.getD 0 0).toNat = s0 := by omega
  rw [e0]
  have hlp0 : 0 < lp.length := by
    unfold validB at hvb
    simp only [Bool.and_eq_true] at hvb
    exact of_decide_eq_true hvb.1.1.1.2
  have HV := Lib.hid (fun W (hW : Below w.heap.size w W) => refValid_ok p S K M A E 1 c ne ce st es W (ha.below hW) hn (he.below hW) hne)
  have HWV := Lib.hid (fun W (hW : Below w.heap.size w W) => refValid_any A' B' n' c' m' d' p sl lp W (hx.below hW) (hy.below hW) (by omega) (by omega))
  have HO := Lib.hid (fun W (hW : Below w.heap.size w W) => refOne_any p S K M A E 1 c ne ce st es W ha.1 (he.below hW) hne4 (by omega) (by omega) h7 hbo)
  have HON := Lib.hid (show ∀ W (hW : Below w.heap.size w W), Calls Try.prog 29 #[.agg #[.int .i64 p, .int .i64 S, .slice A 1 c, .int .i64 K, .int .i64 M, .slice E ne ce]] W fun e w' => e = .returned (.bool true) ∧ Below W.heap.size W w' from fun W hW => by
    have h := HO.out W hW
    rw [show (decide (st.length = 1) && !clashB p es es.length) = true from hd] at h
    exact h)
  have HLT := Lib.hid (fun W (hW : Below w.heap.size w W) (t : Nat) (ht : t ≤ 1000000000) => letters_big (.agg #[.slice A' n' c', .slice B' m' d']) sl lp t W ⟨A', n', c', B', m', d', rfl, hx.below hW, hy.below hW, hnc, hmd⟩ (by rw [hx.1, hy.1]; exact hnm) hlp0 (by omega))
  have HOU := Lib.hid (fun W (hW : Below w.heap.size w W) (s : Nat) (l : Int) h => refOut_none p S K M s l A E 1 c ne ce es W (he.below hW) hne4 h)
  have HOV := Lib.hid (fun W (hW : Below w.heap.size w W) (s j : Nat) (l : Int) h => refOut_some p S K M s j l A E 1 c ne ce es W (he.below hW) hne4 h)
  have HEE := Lib.hid (fun W (hW : Below w.heap.size w W) => he.below hW)
  have HAA := Lib.hid (fun W (hW : Below w.heap.size w W) => ha.below hW)
  have HES := Lib.hid hends
  have HMS := Lib.hid hmarks
  have HEL := Lib.hid he.1
  have HOL := Lib.hid (fun a cc => orU_lt (es := es) (f := at_ sl lp) (s0 := s0) (a := a) (by rw [he.1]; exact hmarks) cc)
  have HML := Lib.hid (fun t => markU_lt (es := es) (f := at_ sl lp) (s0 := s0) (t := t) (by rw [he.1]; exact hmarks))
  have HRL := Lib.hid (fun (t s : Nat) (hq : runU es (at_ sl lp) s0 t = some s) => runU_lt (P := 0) (M := 0) (S := S) (es := es) (f := at_ sl lp) (s0 := s0) (by rw [he.1]; exact hends) hs0S hq)
  have HST := Lib.hid hs0
  obtain ⟨hB0, hx6, hx2⟩ := boxes62 w p S A 1 c K M E ne ce A' n' c' B' m' d'
  have HB0 := Lib.hid hB0
  have HX6 := Lib.hid hx6
  have HX2 := Lib.hid hx2
  rw [hv] at HV
  rw [hvb] at HWV
  have hSn : S ≤ 3000 := by omega
  have hQ := mul_small hSn (show m' ≤ 100000 by omega)
  obtain ⟨Q, hQm, hQ2, HQ⟩ : ∃ Q : Nat, IntKind.i64.wrap ((S : Int) * (m' : Int)) = (Q : Int) ∧ Q ≤ 300000000 ∧ Hid (Q = S * m') := ⟨S * m', by
    rw [show (S : Int) * (m' : Int) = ((S * m' : Nat) : Int) by simp]
    exact IntWalk.i64_in _ (by omega), hQ, rfl⟩
  have hQ0 : (0 : Int) ≤ (Q : Int) := by omega
  have hn'0 : (0 : Int) ≤ (n' : Int) := by omega
  clear ha he hx hy hB0 hx6 hx2 hbo hv hd hvb hmk hst hes4 h7 hends hmarks hs0 e0 hd1 hlp0 hQ HO
  go_enter Try.func26, Try.ntmps26
  go_wp2_with fail
  refine (HV.out _ HB0.out).mono ?_
  rintro x w1 ⟨rfl, hb1⟩
  have HB1 := Lib.hid (HB0.out.trans (hb1.mono HB0.out.size))
  have HX61 := Lib.hid (HX6.out.below hb1)
  have HX21 := Lib.hid (HX2.out.below hb1)
  obtain ⟨hz, p0, p1, p2, p3, p4, p5⟩ := HX61.out
  clear hb1 HX6 HX2 HB0
  go_wp2_with fail
  refine (HON.out _ HB1.out).mono ?_
  rintro x w2 ⟨rfl, hb2⟩
  have HB2 := Lib.hid (HB1.out.trans (hb2.mono HB1.out.size))
  have HX62 := Lib.hid (HX61.out.below hb2)
  have HX22 := Lib.hid (HX21.out.below hb2)
  clear hb2 hz p0 p1 p2 p3 p4 p5 HX61 HX21 HB1
  obtain ⟨hz, p0, p1, p2, p3, p4, p5⟩ := HX62.out
  obtain ⟨hz2, r0, r1⟩ := HX22.out
  go_wp2_with fail
  refine (HWV.out _ HB2.out).mono ?_
  rintro x w3 ⟨rfl, hb3⟩
  have HB3 := Lib.hid (HB2.out.trans (hb3.mono HB2.out.size))
  have HX63 := Lib.hid (HX62.out.below hb3)
  have HX23 := Lib.hid (HX22.out.below hb3)
  clear hb3 hz p0 p1 p2 p3 p4 p5 hz2 r0 r1 HX62 HX22 HB2
  obtain ⟨hz, p0, p1, p2, p3, p4, p5⟩ := HX63.out
  obtain ⟨hz2, r0, r1⟩ := HX23.out
  obtain ⟨ba, oa, rfl, hba, hca⟩ := (HAA.out w3 HB3.out).at_ (show 0 < 1 by omega)
  have ka := hca 0 (by omega)
  rw [HST.out, Nat.add_zero] at ka
  clear hca
  go_wp2_with fail
  have HS := Lib.hid (show ∀ V, Below w3.heap.size w3 V → (V.cell? ⟨w.heap.size, 0, none⟩ = some (.int .i64 p) ∧ V.cell? ⟨w.heap.size, 1, none⟩ = some (.int .i64 S) ∧ V.cell? ⟨w.heap.size, 2, none⟩ = some (.slice (some ⟨ba, oa, none⟩) 1 c) ∧ V.cell? ⟨w.heap.size, 3, none⟩ = some (.int .i64 K) ∧ V.cell? ⟨w.heap.size, 4, none⟩ = some (.int .i64 M) ∧ V.cell? ⟨w.heap.size, 5, none⟩ = some (.slice E ne ce)) ∧ (V.cell? ⟨w.heap.size + 1, 0, none⟩ = some (.slice A' n' c') ∧ V.cell? ⟨w.heap.size + 1, 1, none⟩ = some (.slice B' m' d')) from fun V hV => ⟨(HX63.out.below hV).2, (HX23.out.below hV).2⟩)
  clear hz p0 p1 p2 p3 p4 p5 hz2 r0 r1 ka HX63 HX23 HV HWV HON HAA hba
  go_loopg [4, 7, 10] (n' + Q + Q) (fun g inf s k wx => ∃ t sx : Nat, t + g = n' + Q + Q ∧ k = .int .i64 t ∧ s = .int .i64 sx ∧ inf = .int .i64 (orU es (at_ sl lp) s0 (n' + Q) (t - (n' + Q)) : Nat) ∧ Hid (runU es (at_ sl lp) s0 t = some sx) ∧ Hid (Below w3.heap.size w3 wx))
  case atStart => exact ⟨0, s0, by omega, rfl, rfl, (by rw [show 0 - (n' + Q) = 0 by omega]; rfl), rfl, Below.refl _ _⟩
  case round =>
    obtain ⟨t, sx, htg, rfl, rfl, rfl, HRU, HBx⟩ := hrel
    have hti : (0 : Int) ≤ (t : Int) := by omega
    obtain ⟨⟨p0, p1, p2, p3, p4, p5⟩, r0, r1⟩ := HS.out wr HBx.out
    have HBw := Lib.hid (HB3.out.trans (HBx.out.mono HB3.out.size))
    cases gk with
    | zero =>
      obtain rfl : t = n' + Q + Q := by omega
      have HF := Lib.hid (show WalR p S K M st es sl lp (WalkB es (at_ sl lp) s0 n' m' S) (orU es (at_ sl lp) s0 (n' + Q) (n' + Q + Q - (n' + Q)) : Nat) false 0 from .inr (.inr (.inr ⟨HVV.out, HDD.out, HVB.out, ⟨_, rfl, .inr ⟨by rw [← HQ.out, HRU.out]; exact (fun e => by cases e), by rw [show n' + Q + Q - (n' + Q) = Q by omega, HQ.out], rfl⟩⟩, rfl⟩)))
      generalize orU es (at_ sl lp) s0 (n' + Q) (n' + Q + Q - (n' + Q)) = O at *
      go_wp2_with fail
      go_ret3
      exact ⟨_, _, _, rfl, HF.out, HBw.out⟩
    | succ q =>
      have ht1 : t < n' + Q + Q := by omega
      have hti2 : (t : Int) < (n' : Int) + (Q : Int) + (Q : Int) := by omega
      have HLT1 := Lib.hid (HLT.out wr.drew HBw.out.drew t (by omega))
      have HRUN := Lib.hid (fun j hj => runU_next (j := j) HRU.out hj)
      have HSTOP := Lib.hid (fun hj => runU_stop HRU.out hj)
      have HNX := Lib.hid (fun (j : Nat) hj => (nextS_some (es := es) (s := sx) (l := at_ sl lp t) (j := j) hj).1)
      cases hnx : nextS es sx (at_ sl lp t) with
      | none =>
        have HOX := Lib.hid (fun W (hW : Below w.heap.size w W) => HOU.out W hW sx _ hnx)
        have HF := Lib.hid (show WalR p S K M st es sl lp (WalkB es (at_ sl lp) s0 n' m' S) 0 true 0 from .inr (.inr (.inr ⟨HVV.out, HDD.out, HVB.out, ⟨0, rfl, .inl ⟨t + 1, by rw [← HQ.out]; omega, (HSTOP.out hnx).1, rfl, rfl⟩⟩, rfl⟩)))
        generalize hl : at_ sl lp t = l at *
        clear hl hnx
        go_wp2_with fail
        go_region_held3 (fun V => (V.cell? ⟨w.heap.size, 0, none⟩ = some (.int .i64 p) ∧ V.cell? ⟨w.heap.size, 1, none⟩ = some (.int .i64 S) ∧ V.cell? ⟨w.heap.size, 2, none⟩ = some (.slice (some ⟨ba, oa, none⟩) 1 c) ∧ V.cell? ⟨w.heap.size, 3, none⟩ = some (.int .i64 K) ∧ V.cell? ⟨w.heap.size, 4, none⟩ = some (.int .i64 M) ∧ V.cell? ⟨w.heap.size, 5, none⟩ = some (.slice E ne ce)) ∧ (V.cell? ⟨w.heap.size + 1, 0, none⟩ = some (.slice A' n' c') ∧ V.cell? ⟨w.heap.size + 1, 1, none⟩ = some (.slice B' m' d')))
          (first
            | exact HS.out _ k2
            | exact HS.out _ k1
            | exact HS.out _ (HBx.out.drew))
          (first
            | (go_at_call 32; refine (HOX.out _ (HB3.out.trans (k1.mono HB3.out.size))).mono ?_; rintro x z2 ⟨A4, c4, rfl, b2⟩; have k2 : Below w3.heap.size w3 z2 := k1.trans (b2.mono k1.size))
            | (go_at_call 51; refine HLT1.out.mono ?_; rintro x z1 ⟨rfl, b1⟩; have k1 : Below w3.heap.size w3 z1 := HBx.out.trans (((Below.refl _ _).drew.trans b1).mono HBx.out.size))
            | fail)
        go_wp2_with fail
        go_ret3
        exact ⟨_, _, _, rfl, HF.out, HB3.out.trans (k2.mono HB3.out.size)⟩
      | some j =>
        have HOX := Lib.hid (fun W (hW : Below w.heap.size w W) => HOV.out W hW sx j _ hnx)
        have HRN := Lib.hid (HRUN.out j hnx)
        have hj : j < ne := by rw [← HEL.out]; exact HNX.out j hnx
        generalize hl : at_ sl lp t = l at *
        clear hl hnx
        go_wp2_with fail
        go_region_held3 (fun V => (V.cell? ⟨w.heap.size, 0, none⟩ = some (.int .i64 p) ∧ V.cell? ⟨w.heap.size, 1, none⟩ = some (.int .i64 S) ∧ V.cell? ⟨w.heap.size, 2, none⟩ = some (.slice (some ⟨ba, oa, none⟩) 1 c) ∧ V.cell? ⟨w.heap.size, 3, none⟩ = some (.int .i64 K) ∧ V.cell? ⟨w.heap.size, 4, none⟩ = some (.int .i64 M) ∧ V.cell? ⟨w.heap.size, 5, none⟩ = some (.slice E ne ce)) ∧ (V.cell? ⟨w.heap.size + 1, 0, none⟩ = some (.slice A' n' c') ∧ V.cell? ⟨w.heap.size + 1, 1, none⟩ = some (.slice B' m' d')))
          (first
            | exact HS.out _ k2
            | exact HS.out _ k1
            | exact HS.out _ (HBx.out.drew))
          (first
            | (go_at_call 32; refine (HOX.out _ (HB3.out.trans (k1.mono HB3.out.size))).mono ?_; rintro x z2 ⟨b4, k4, c4, rfl, y0, y1, y2, b2⟩; have k2 : Below w3.heap.size w3 z2 := k1.trans (b2.mono k1.size))
            | (go_at_call 51; refine HLT1.out.mono ?_; rintro x z1 ⟨rfl, b1⟩; have k1 : Below w3.heap.size w3 z1 := HBx.out.trans (((Below.refl _ _).drew.trans b1).mono HBx.out.size))
            | fail)
        have HB2z := Lib.hid k2
        obtain ⟨b7, off7, rfl, hb7, hc7⟩ := (HEE.out z2 (HB3.out.trans (k2.mono HB3.out.size))).2 (by omega)
        obtain ⟨_, u1, _, _, u4⟩ := hc7 j hj
        obtain ⟨fx, tx, _, htx, _, _⟩ := HES.out j hj
        obtain ⟨hm0, hm1⟩ := HMS.out j hj
        obtain ⟨mm, hmm⟩ := Int.eq_ofNat_of_zero_le hm0
        rw [htx] at u1
        rw [hmm] at u4
        have HR1 := Lib.hid (show runU es (at_ sl lp) s0 (t + 1) = some tx ∧ markU es (at_ sl lp) s0 t = mm by
          have h := HRN.out
          rw [htx, hmm, Int.toNat_natCast, Int.toNat_natCast] at h
          exact h)
        obtain ⟨⟨v0, v1, v2, v3, v4, v5⟩, g0, g1⟩ := HS.out z2 k2
        have hj0 : (0 : Int) ≤ (j : Int) := by omega
        have hj1 : (j : Int) < (ne : Int) := by omega
        clear hc7 htx hm0 hm1 hmm k1 k2 b1 b2
        by_cases hge : n' + Q ≤ t
        · have hgi : (n' : Int) + (Q : Int) ≤ (t : Int) := by omega
          have hor := or_i64 (orU es (at_ sl lp) s0 (n' + Q) (t - (n' + Q))) (markU es (at_ sl lp) s0 t) (Nat.lt_of_lt_of_le (HOL.out (n' + Q) (t - (n' + Q))) (by decide)) (Nat.lt_of_lt_of_le (HML.out t) (by decide))
          rw [HR1.out.2] at hor
          have HOO := Lib.hid (show orU es (at_ sl lp) s0 (n' + Q) (t - (n' + Q)) ||| mm = orU es (at_ sl lp) s0 (n' + Q) (t + 1 - (n' + Q)) by
            rw [show t + 1 - (n' + Q) = (t - (n' + Q)) + 1 by omega]
            show _ = orU es (at_ sl lp) s0 (n' + Q) (t - (n' + Q)) ||| markU es (at_ sl lp) s0 (n' + Q + (t - (n' + Q)))
            rw [show n' + Q + (t - (n' + Q)) = t by omega, HR1.out.2])
          obtain ⟨X, hX, HX⟩ : ∃ X, orU es (at_ sl lp) s0 (n' + Q) (t - (n' + Q)) ||| mm = X ∧ Hid (X = orU es (at_ sl lp) s0 (n' + Q) (t + 1 - (n' + Q))) := ⟨_, rfl, HOO.out⟩
          rw [hX] at hor
          generalize orU es (at_ sl lp) s0 (n' + Q) (t - (n' + Q)) = O at *
          clear hX HOO
          go_wp2_with fail
          go_quiet (fail)
          go_wp2_with fail
          go_quiet (fail)
          go_wp2_with fail
          go_roundg q
          case measure => omega
          case rel => exact ⟨t + 1, tx, by omega, by go_num, rfl, (by rw [HX.out]), HR1.out.1, (by first | exact below_drewN HB2z.out _ | exact below_drewN (below_drewN HB2z.out _) _)⟩
        · have hgi : (t : Int) < (n' : Int) + (Q : Int) := by omega
          have hgj : ¬ (n' : Int) + (Q : Int) ≤ (t : Int) := by omega
          go_wp2_with fail
          go_quiet (fail)
          go_wp2_with fail
          go_roundg q
          case measure => omega
          case rel => exact ⟨t + 1, tx, by omega, by go_num, rfl, (by rw [show t - (n' + Q) = 0 by omega, show t + 1 - (n' + Q) = 0 by omega]), HR1.out.1, below_drewN HB2z.out _⟩

end Go.Proofs.Ytfblnadmbfhjiaa.Wd
