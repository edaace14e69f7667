/-
  Play of package game for all games, all choices and all positions.
-/
import Derived.Test.YtffdbncjndnnaaaGaPlay3
namespace Go.Proofs.Ytffdbncjndnnaaa.Wd
open Go.RowKit
set_option linter.unusedVariables false
set_option linter.unusedSimpArgs false

/-- Is every choice a successor of its position? -/
def chsB (G : Gm) (ch : List Int) : Bool := allB G.X.length fun v => hasB (G.X.getD v []) (ch.getD v 0)
/-- The code that Play returns. -/
def playC (G : Gm) (ch : List Int) (f : Int) : Int := if gmB G then (if ch.length = G.X.length then (if 0 ≤ f ∧ f < G.X.length then (if chsB G ch then 0 else 6) else 6) else 2) else 1
/-- What Play returns beside the code. -/
def PlayO (G : Gm) (ch : List Int) (f : Int) (S L : List Int) (wn : Int) : Prop :=
  (playC G ch f = 0 → ∃ i t, Meet ch f.toNat i t ∧ S = (pathL ch f.toNat t).take i ∧ L = (pathL ch f.toNat t).drop i ∧ wn = (topP G.P ((pathL ch f.toNat t).drop i)).tmod 2) ∧ (playC G ch f ≠ 0 → S = [] ∧ L = [] ∧ wn = 0)
theorem PlayO.unique {G : Gm} {ch : List Int} {f : Int} {S L S' L' : List Int} {wn wn' : Int} (h : PlayO G ch f S L wn) (h' : PlayO G ch f S' L' wn') : S = S' ∧ L = L' ∧ wn = wn' := by
  by_cases hc : playC G ch f = 0
  · obtain ⟨i, t, h1, rfl, rfl, rfl⟩ := h.1 hc
    obtain ⟨i', t', h1', rfl, rfl, rfl⟩ := h'.1 hc
    obtain ⟨rfl, rfl⟩ := h1.unique h1'
    exact ⟨rfl, rfl, rfl⟩
  · obtain ⟨rfl, rfl, rfl⟩ := h.2 hc
    obtain ⟨rfl, rfl, rfl⟩ := h'.2 hc
    exact ⟨rfl, rfl, rfl⟩
theorem playC_bad {G : Gm} {ch : List Int} {f : Int} (h : gmB G = false) : playC G ch f = 1 := by unfold playC; rw [h]; rfl
theorem playC_dim {G : Gm} {ch : List Int} {f : Int} (h : gmB G = true) (h2 : ¬ ch.length = G.X.length) : playC G ch f = 2 := by unfold playC; rw [h, if_pos rfl, if_neg h2]
theorem playC_from {G : Gm} {ch : List Int} {f : Int} (h : gmB G = true) (h2 : ch.length = G.X.length) (h3 : ¬ (0 ≤ f ∧ f < G.X.length)) : playC G ch f = 6 := by unfold playC; rw [h, if_pos rfl, if_pos h2, if_neg h3]
theorem playC_no {G : Gm} {ch : List Int} {f : Int} (h : gmB G = true) (h2 : ch.length = G.X.length) (h3 : 0 ≤ f ∧ f < G.X.length) (h4 : chsB G ch = false) : playC G ch f = 6 := by unfold playC; rw [h, if_pos rfl, if_pos h2, if_pos h3, h4]; rfl
theorem playC_ok {G : Gm} {ch : List Int} {f : Int} (h : gmB G = true) (h2 : ch.length = G.X.length) (h3 : 0 ≤ f ∧ f < G.X.length) (h4 : chsB G ch = true) : playC G ch f = 0 := by unfold playC; rw [h, if_pos rfl, if_pos h2, if_pos h3, h4]; rfl

/-- What a call of Play returns. -/
def OutPl (w w' : World) (G : Gm) (ch : List Int) (f : Int) (r : Ending) : Prop :=
  ∃ A1 i c1 A2 j c2 S L wn, r = .returned (.tuple #[.slice A1 i c1, .slice A2 j c2, .int .i64 wn, .int .i64 (playC G ch f)]) ∧ Ints w' A1 i S ∧ Ints w' A2 j L ∧ i ≤ G.X.length ∧ j ≤ G.X.length ∧ PlayO G ch f S L wn ∧ Below w.heap.size w w'
theorem OutPl.error {w w' : World} {G : Gm} {ch : List Int} {f : Int} {c : Int} (h : playC G ch f = c) (hc : c ≠ 0) (hb : Below w.heap.size w w') : OutPl w w' G ch f (.returned (.tuple #[.slice none 0 0, .slice none 0 0, .int .i64 0, .int .i64 c])) :=
  ⟨none, 0, 0, none, 0, 0, [], [], 0, by rw [h], Ints.none_, Ints.none_, Nat.zero_le _, Nat.zero_le _, ⟨fun h0 => absurd (h.symm.trans h0) hc, fun _ => ⟨rfl, rfl, rfl⟩⟩, hb⟩

set_option maxRecDepth 100000 in
set_option maxHeartbeats 8000000 in
theorem play_any (a p x A : Option Addr) (n c m d k e na ca : Nat) (G : Gm) (ch : List Int) (f : Int) (w : World) (h : GameIn w a n p m x k G) (hA : Ints w A na ch) (hk : k ≤ 17592186044416) (hna : na ≤ 17592186044416) (hl : ∀ v, (G.X.getD v []).length ≤ 17592186044416) :
    Calls Try.prog 12 #[.agg #[.slice a n c, .slice p m d, .slice x k e], .slice A na ca, .int .i64 f] w fun r w' => OutPl w w' G ch f r := by
  have hxl := h.x.1
  have hal := hA.1
  obtain ⟨W0, hW0⟩ : ∃ W0, w.alloc (.cells #[.slice a n c, .slice p m d, .slice x k e] 25) = W0 := ⟨_, rfl⟩
  have HBW := Lib.hid (show Below w.heap.size w W0 by rw [← hW0]; exact (Below.refl _ _).alloc (Nat.le_refl _) _)
  have HV := Lib.hid (valid_any a p x n c m d k e G W0 (h.below HBW.out) hk hl)
  obtain ⟨q0, q1, q2⟩ := box_game w (.slice a n c) (.slice p m d) (.slice x k e) 25
  rw [hW0] at q0 q1 q2
  have hz0 : w.heap.size < W0.heap.size := by rw [← hW0]; simp
  have hna0 : (0 : Int) ≤ (na : Int) := by omega
  have hk0 : (0 : Int) ≤ (k : Int) := by omega
  cases hv : gmB G
  · rw [hv] at HV
    have HD := Lib.hid (playC_bad (ch := ch) (f := f) hv)
    clear h hA hl hv
    go_enter Try.func12, Try.ntmps12
    go_wp2_with fail
    clear hW0
    refine HV.out.mono ?_
    rintro r w1 ⟨rfl, hb1⟩
    have HB1 := Lib.hid (HBW.out.trans (hb1.mono HBW.out.size))
    clear hb1
    go_wp2_with fail
    exact bodyPost_ret (v := .tuple #[.slice none 0 0, .slice none 0 0, .int .i64 0, .int .i64 1]) (by simp [results, Try.results12, go_sem]) rfl (OutPl.error HD.out (by decide) HB1.out)
  by_cases hd : ¬ na = k
  · rw [hv] at HV
    have HD := Lib.hid (playC_dim (ch := ch) (f := f) hv (by omega))
    have hd' : ((na : Int) != (k : Int)) = true := by simp; omega
    clear h hA hl hv
    go_enter Try.func12, Try.ntmps12
    go_wp2_with fail
    clear hW0
    refine HV.out.mono ?_
    rintro r w1 ⟨rfl, hb1⟩
    have HB1 := Lib.hid (HBW.out.trans (hb1.mono HBW.out.size))
    have k0 := (hb1.cell (p := ⟨w.heap.size, 0, none⟩) hz0).trans q0
    have k1 := (hb1.cell (p := ⟨w.heap.size, 1, none⟩) hz0).trans q1
    have k2 := (hb1.cell (p := ⟨w.heap.size, 2, none⟩) hz0).trans q2
    clear hb1 q0 q1 q2
    go_wp2_with fail
    exact bodyPost_ret (v := .tuple #[.slice none 0 0, .slice none 0 0, .int .i64 0, .int .i64 2]) (by simp [results, Try.results12, go_sem]) rfl (OutPl.error HD.out (by decide) HB1.out)
  obtain rfl : na = k := by omega
  have hnn : ((na : Int) != (na : Int)) = false := by simp
  by_cases hf : ¬ (0 ≤ f ∧ f < (na : Int))
  · rw [hv] at HV
    have HD := Lib.hid (playC_from (ch := ch) (f := f) hv (by omega) (by omega))
    clear h hA hl hv
    by_cases hf0 : f < 0
    · go_enter Try.func12, Try.ntmps12
      go_wp2_with fail
      clear hW0
      refine HV.out.mono ?_
      rintro r w1 ⟨rfl, hb1⟩
      have HB1 := Lib.hid (HBW.out.trans (hb1.mono HBW.out.size))
      have k0 := (hb1.cell (p := ⟨w.heap.size, 0, none⟩) hz0).trans q0
      have k1 := (hb1.cell (p := ⟨w.heap.size, 1, none⟩) hz0).trans q1
      have k2 := (hb1.cell (p := ⟨w.heap.size, 2, none⟩) hz0).trans q2
      clear hb1 q0 q1 q2
      go_wp2_with fail
      exact bodyPost_ret (v := .tuple #[.slice none 0 0, .slice none 0 0, .int .i64 0, .int .i64 6]) (by simp [results, Try.results12, go_sem]) rfl (OutPl.error HD.out (by decide) HB1.out)
    · have hf1 : ¬ f < (na : Int) := by omega
      have hf2 : (na : Int) ≤ f := by omega
      go_enter Try.func12, Try.ntmps12
      go_wp2_with fail
      clear hW0
      refine HV.out.mono ?_
      rintro r w1 ⟨rfl, hb1⟩
      have HB1 := Lib.hid (HBW.out.trans (hb1.mono HBW.out.size))
      have k0 := (hb1.cell (p := ⟨w.heap.size, 0, none⟩) hz0).trans q0
      have k1 := (hb1.cell (p := ⟨w.heap.size, 1, none⟩) hz0).trans q1
      have k2 := (hb1.cell (p := ⟨w.heap.size, 2, none⟩) hz0).trans q2
      clear hb1 q0 q1 q2
      go_wp2_with fail
      exact bodyPost_ret (v := .tuple #[.slice none 0 0, .slice none 0 0, .int .i64 0, .int .i64 6]) (by simp [results, Try.results12, go_sem]) rfl (OutPl.error HD.out (by decide) HB1.out)
  obtain ⟨f, rfl⟩ : ∃ g : Nat, f = g := ⟨f.toNat, by omega⟩
  have hfn : f < na := by omega
  cases hcs : chsB G ch
  · rw [hv] at HV
    have HD := Lib.hid (playC_no (ch := ch) (f := (f : Int)) hv (by omega) (by omega) hcs)
    have hex : ∃ v, v < na ∧ hasB (G.X.getD v []) (ch.getD v 0) = false := by
      apply Classical.byContradiction
      intro hno
      have : chsB G ch = true := allB_good fun v hv => by
        cases hb : hasB (G.X.getD v []) (ch.getD v 0)
        · exact absurd ⟨v, by omega, hb⟩ hno
        · rfl
      rw [hcs] at this
      cases this
    obtain ⟨u, hu, HU⟩ := hex
    have HU := Lib.hid HU
    have hz2 := gmB_len hv
    have H0 := Lib.hid (h.below HBW.out)
    have HA := Lib.hid (hA.below HBW.out)
    have HLEN := Lib.hid hz2
    have hf1 : (f : Int) < (na : Int) := by omega
    have hf0 : (0 : Int) ≤ (f : Int) := by omega
    have hf3 : ¬ na ≤ f := by omega
    have hf4 : ¬ (f : Int) < 0 := by omega
    clear h hA hl hv hcs hf hz2
    go_enter Try.func12, Try.ntmps12
    go_wp2_with fail
    clear hW0
    refine HV.out.mono ?_
    rintro r w1 ⟨rfl, hb1⟩
    have HB1 := Lib.hid hb1
    have k0 := (hb1.cell (p := ⟨w.heap.size, 0, none⟩) hz0).trans q0
    have k1 := (hb1.cell (p := ⟨w.heap.size, 1, none⟩) hz0).trans q1
    have k2 := (hb1.cell (p := ⟨w.heap.size, 2, none⟩) hz0).trans q2
    clear hb1 q0 q1 q2
    go_wp2_with fail
    go_loopg [32] na (fun g i wx => ∃ j : Nat, j + g = na ∧ j ≤ u ∧ i = .int .i64 j ∧ wx = w1)
    case atStart => exact ⟨0, by omega, by omega, rfl, rfl⟩
    case round =>
      obtain ⟨j, hjg, hju, rfl, rfl⟩ := hrel
      have hj0 : (0 : Int) ≤ (j : Int) := by omega
      cases gk with
      | zero => omega
      | succ g =>
        have hjl : j < na := by omega
        have hjl2 : (j : Int) < (na : Int) := by omega
        have HAX := Lib.hid (HA.out.below HB1.out)
        obtain ⟨bA, oA, rfl, _, hcA⟩ := HAX.out.2 (by omega)
        obtain ⟨bx, ox, rfl, _, hcx⟩ := (H0.out.below HB1.out).x.2 (by omega)
        have kc := hcA j hjl
        obtain ⟨bl, cl, kl, il⟩ := hcx j hjl
        have hlen := HLEN.out j
        have HCO := Lib.hid (contains_any bl (G.X.getD j []).length cl (G.X.getD j []) (ch.getD j 0) _ il (by omega))
        cases hhb : hasB (G.X.getD j []) (ch.getD j 0)
        · rw [hhb] at HCO
          clear hcA hcx il hhb
          generalize ch.getD j 0 = u at *
          generalize (G.X.getD j []).length = ll at *
          go_wp2_with fail
          refine HCO.out.mono ?_
          rintro r5 w5 ⟨rfl, rfl⟩
          go_wp2_with fail
          exact bodyPost_ret (v := .tuple #[.slice none 0 0, .slice none 0 0, .int .i64 0, .int .i64 6]) (by simp [results, Try.results12, go_sem]) rfl (OutPl.error HD.out (by decide) (HBW.out.trans (HB1.out.mono HBW.out.size)))
        · have hne : j ≠ u := fun e => by
            subst e
            exact Bool.noConfusion (hhb.symm.trans HU.out)
          rw [hhb] at HCO
          clear hcA hcx il hhb
          generalize ch.getD j 0 = y at *
          generalize (G.X.getD j []).length = ll at *
          go_wp2_with fail
          refine HCO.out.mono ?_
          rintro r5 w5 ⟨rfl, rfl⟩
          go_wp2_with fail
          go_roundg g
          case measure => omega
          case rel => exact ⟨j + 1, by omega, by omega, by go_num, rfl⟩
  · refine (play_good a p x A n c m d na e na ca f G ch w h hA hv (by omega) (by omega) fun v hv => allB_at hcs hv).mono ?_
    rintro r w' ⟨i, t, A1, c1, A2, c2, rfl, hm, ht, h1, h2, hb⟩
    have hi := hm.1
    refine ⟨A1, i, c1, A2, t - i, c2, _, _, _, ?_, h1, h2, by omega, by omega, ⟨fun _ => ⟨i, t, hm, rfl, rfl, rfl⟩, fun hc => absurd (playC_ok hv (by omega) (by omega) hcs) hc⟩, hb⟩
    rw [playC_ok hv (by omega) (by omega) hcs, Int.toNat_natCast]

end Go.Proofs.Ytffdbncjndnnaaa.Wd
