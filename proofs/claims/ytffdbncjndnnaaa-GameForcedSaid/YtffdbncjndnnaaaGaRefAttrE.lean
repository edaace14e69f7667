/-
  Attract of the reference for all games, players and sets; what it returns is determined.
-/
import Derived.Test.YtffdbncjndnnaaaGaRefAttr
namespace Go.Proofs.Ytffdbncjndnnaaa.Wd
open Go.RowKit
set_option linter.unusedVariables false
set_option linter.unusedSimpArgs false

/-- The code that Attract returns, for a set of nt marks. -/
def attrC (G : Gm) (q : Int) (nt : Nat) : Int := if gmB G then (if plB q then (if nt = G.X.length then 0 else 2) else 6) else 1
/-- What Attract returns beside the code. -/
def AttO (G : Gm) (q : Int) (T : Nat → Bool) (nt : Nat) (S C : List Int) : Prop :=
  (attrC G q nt = 0 → ∃ k, Stab G q T nt k ∧ S = (List.range nt).map (stepsF G q T k) ∧ C = (List.range nt).map (chF G q (stepsF G q T k))) ∧ (attrC G q nt ≠ 0 → S = [] ∧ C = [])
theorem attrC_bad {G : Gm} {q : Int} {nt : Nat} (h : gmB G = false) : attrC G q nt = 1 := by unfold attrC; rw [h]; rfl
theorem attrC_pl {G : Gm} {q : Int} {nt : Nat} (h : gmB G = true) (h2 : plB q = false) : attrC G q nt = 6 := by unfold attrC; rw [h, h2]; rfl
theorem attrC_dim {G : Gm} {q : Int} {nt : Nat} (h : gmB G = true) (h2 : plB q = true) (h3 : ¬ nt = G.X.length) : attrC G q nt = 2 := by unfold attrC; rw [h, h2, if_pos rfl, if_pos rfl, if_neg h3]
theorem attrC_ok {G : Gm} {q : Int} {nt : Nat} (h : gmB G = true) (h2 : plB q = true) (h3 : nt = G.X.length) : attrC G q nt = 0 := by unfold attrC; rw [h, h2, if_pos rfl, if_pos rfl, if_pos h3]
theorem attrC_valid {G : Gm} {q : Int} {nt : Nat} (h : attrC G q nt = 0) : gmB G = true ∧ nt = G.X.length := by
  cases hv : gmB G
  · rw [attrC_bad hv] at h; cases h
  · cases hp : plB q
    · rw [attrC_pl hv hp] at h; cases h
    · by_cases h3 : nt = G.X.length
      · exact ⟨rfl, h3⟩
      · rw [attrC_dim hv hp h3] at h; cases h

theorem firstF_congr {S S' : Nat → Int} (s : Int) : ∀ (l : List Int) (c : Int), (∀ y ∈ l, S y.toNat = S' y.toNat) → l.foldl (fun c y => if c < 0 ∧ S y.toNat = s - 1 then y else c) c = l.foldl (fun c y => if c < 0 ∧ S' y.toNat = s - 1 then y else c) c
  | [], _, _ => rfl
  | y :: l, c, h => by
    simp only [List.foldl_cons]
    rw [h y (List.mem_cons_self ..)]
    exact firstF_congr s l _ fun z hz => h z (List.mem_cons_of_mem _ hz)
theorem succ_in {G : Gm} (h : gmB G = true) {v : Nat} (hv : v < G.X.length) : ∀ y ∈ G.X.getD v [], 0 ≤ y ∧ y < (G.X.length : Int) := fun y hy => by
  obtain ⟨i, hi, e⟩ := List.mem_iff_getElem.1 hy
  have := (succB_true (posB_true ((gmB_true h).2.2.2 v hv)).2.2.2).2.2 i hi
  rw [List.getD_eq_getElem?_getD, List.getElem?_eq_getElem hi] at this
  simp only [Option.getD_some] at this
  rw [e] at this
  exact this
theorem AttO.unique {G : Gm} {q : Int} {T : Nat → Bool} {nt : Nat} {S C S' C' : List Int} (h : AttO G q T nt S C) (h' : AttO G q T nt S' C') : S = S' ∧ C = C' := by
  by_cases hc : attrC G q nt = 0
  · obtain ⟨hv, hn⟩ := attrC_valid hc
    obtain ⟨k, h1, rfl, rfl⟩ := h.1 hc
    obtain ⟨k', h1', rfl, rfl⟩ := h'.1 hc
    have hX : ∀ v, v < nt → ∀ j ∈ G.X.getD v [], 0 ≤ j ∧ j < (nt : Int) := fun v hvn y hy => by
      have := succ_in hv (show v < G.X.length by omega) y hy
      omega
    have he := h1.same hX h1'
    refine ⟨List.map_congr_left fun v hv => he v (List.mem_range.1 hv), List.map_congr_left fun v hv => ?_⟩
    have hvn := List.mem_range.1 hv
    unfold chF firstF
    rw [he v hvn, firstF_congr _ _ _ fun y hy => he y.toNat (by have := hX v hvn y hy; omega)]
  · obtain ⟨rfl, rfl⟩ := h.2 hc
    obtain ⟨rfl, rfl⟩ := h'.2 hc
    exact ⟨rfl, rfl⟩

/-- What a call of Attract returns. -/
def OutAt (w w' : World) (G : Gm) (q : Int) (T : Nat → Bool) (nt : Nat) (r : Ending) : Prop :=
  ∃ A1 i c1 A2 j c2 S C, r = .returned (.tuple #[.slice A1 i c1, .slice A2 j c2, .int .i64 (attrC G q nt)]) ∧ Ints w' A1 i S ∧ Ints w' A2 j C ∧ i ≤ nt ∧ j ≤ nt ∧ AttO G q T nt S C ∧ Below w.heap.size w w'
theorem OutAt.error {w w' : World} {G : Gm} {q : Int} {T : Nat → Bool} {nt : Nat} {c : Int} (h : attrC G q nt = c) (hc : c ≠ 0) (hb : Below w.heap.size w w') : OutAt w w' G q T nt (.returned (.tuple #[.slice none 0 0, .slice none 0 0, .int .i64 c])) :=
  ⟨none, 0, 0, none, 0, 0, [], [], by rw [h], Ints.none_, Ints.none_, Nat.zero_le _, Nat.zero_le _, ⟨fun h0 => absurd (h.symm.trans h0) hc, fun _ => ⟨rfl, rfl⟩⟩, hb⟩

set_option maxRecDepth 100000 in
set_option maxHeartbeats 8000000 in
theorem refAttract_any (a p x A : Option Addr) (n c m d k e nt ca : Nat) (G : Gm) (q : Int) (T : Nat → Bool) (w : World) (h : GameIn w a n p m x k G) (hT : BoolsIn w A nt T) (hn : n ≤ 17592186044416) (hk : k ≤ 17592186044416) (hnt : nt ≤ 140737488355328) (hl : ∀ v, (G.X.getD v []).length ≤ 17592186044416) :
    Calls Try.prog 11 #[.agg #[.slice a n c, .slice p m d, .slice x k e], .int .i64 q, .slice A nt ca] w fun r w' => OutAt w w' G q T nt r := by
  have hxl := h.x.1
  have hol := h.o.1
  have hpl := h.p.1
  obtain ⟨W0, hW0⟩ : ∃ W0, w.alloc (.cells #[.slice a n c, .slice p m d, .slice x k e] 25) = W0 := ⟨_, rfl⟩
  have HBW := Lib.hid (show Below w.heap.size w W0 by rw [← hW0]; exact (Below.refl _ _).alloc (Nat.le_refl _) _)
  have HV := Lib.hid (refValidG_any a p x n c m d k e G W0 (h.below HBW.out) hn hk hl)
  obtain ⟨q0, q1, q2⟩ := box_game w (.slice a n c) (.slice p m d) (.slice x k e) 25
  rw [hW0] at q0 q1 q2
  have hz0 : w.heap.size < W0.heap.size := by rw [← hW0]; simp
  have hnt0 : (0 : Int) ≤ (nt : Int) := by omega
  have hn0 : (0 : Int) ≤ (n : Int) := by omega
  cases hv : gmB G
  · rw [hv] at HV
    have HD := Lib.hid (attrC_bad (q := q) (nt := nt) hv)
    clear h hT hl hv
    go_enter Try.func11, Try.ntmps11
    go_wp2_with fail
    clear hW0
    refine HV.out.mono ?_
    rintro r w1 ⟨rfl, hb1⟩
    have HB1 := Lib.hid (HBW.out.trans (hb1.mono HBW.out.size))
    clear hb1
    go_wp2_with fail
    exact bodyPost_ret (v := .tuple #[.slice none 0 0, .slice none 0 0, .int .i64 1]) (by simp [results, Try.results11, go_sem]) rfl (OutAt.error HD.out (by decide) HB1.out)
  cases hp : plB q
  · have hp2 : ¬ q = 0 ∧ ¬ q = 1 := by
      unfold plB at hp
      simpa using hp
    have hqa : (q != 0) = true := by simp [hp2.1]
    have hqb : (q != 1) = true := by simp [hp2.2]
    rw [hv] at HV
    have HD := Lib.hid (attrC_pl (nt := nt) hv hp)
    clear h hT hl hv hp hp2
    go_enter Try.func11, Try.ntmps11
    go_wp2_with fail
    clear hW0
    refine HV.out.mono ?_
    rintro r w1 ⟨rfl, hb1⟩
    have HB1 := Lib.hid (HBW.out.trans (hb1.mono HBW.out.size))
    clear hb1
    go_wp2_with fail
    exact bodyPost_ret (v := .tuple #[.slice none 0 0, .slice none 0 0, .int .i64 6]) (by simp [results, Try.results11, go_sem]) rfl (OutAt.error HD.out (by decide) HB1.out)
  obtain ⟨hg1, hg2, hg3, -⟩ := gmB_true hv
  obtain rfl : n = k := by omega
  obtain rfl : m = n := by omega
  by_cases hd : ¬ nt = m
  · have HD := Lib.hid (attrC_dim (nt := nt) hv hp (by omega))
    have hd' : ((nt : Int) != (m : Int)) = true := by simp; omega
    have hqq : q = 0 ∨ q = 1 := by
      unfold plB at hp
      simpa using hp
    have hq1 : (q != 0) = false ∨ ((q != 0) = true ∧ (q != 1) = false) := by
      rcases hqq with rfl | rfl
      · exact .inl rfl
      · exact .inr ⟨rfl, rfl⟩
    rw [hv] at HV
    clear h hT hl hv hp hqq
    rcases hq1 with hqa | ⟨hqa, hqb⟩
    all_goals
      go_enter Try.func11, Try.ntmps11
      go_wp2_with fail
      clear hW0
      refine HV.out.mono ?_
      rintro r w1 ⟨rfl, hb1⟩
      have HB1 := Lib.hid (HBW.out.trans (hb1.mono HBW.out.size))
      have k0 := (hb1.cell (p := ⟨w.heap.size, 0, none⟩) hz0).trans q0
      have k1 := (hb1.cell (p := ⟨w.heap.size, 1, none⟩) hz0).trans q1
      have k2 := (hb1.cell (p := ⟨w.heap.size, 2, none⟩) hz0).trans q2
      clear hb1 q0 q1 q2
      go_wp2_with fail
      exact bodyPost_ret (v := .tuple #[.slice none 0 0, .slice none 0 0, .int .i64 2]) (by simp [results, Try.results11, go_sem]) rfl (OutAt.error HD.out (by decide) HB1.out)
  · obtain rfl : nt = m := by omega
    refine (refAttract_good a p x A nt c d e ca G q T w h hT hv hp).mono ?_
    rintro r w' ⟨A1, c1, A2, c2, k, rfl, hst, h1, h2, hb⟩
    refine ⟨A1, nt, c1, A2, nt, c2, _, _, ?_, h1, h2, Nat.le_refl _, Nat.le_refl _, ⟨fun _ => ⟨k, hst, rfl, rfl⟩, fun hc => absurd (attrC_ok hv hp (by omega)) hc⟩, hb⟩
    rw [attrC_ok hv hp (by omega)]

end Go.Proofs.Ytffdbncjndnnaaa.Wd
