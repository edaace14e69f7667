/-
  GameForced: from a position that is attracted in k moves every play that follows the choices comes to the set within k moves; from another one the other player keeps it outside.
-/
import Derived.Test.YtffdbncjndnnaaaGaAwake
import Derived.Test.YtffdbncjndnnaaaGaParts
import Derived.Test.YtffdbncjndnnaaaGaAttrE
import Derived.BigQuiet
import Derived.Deep.RegionHeld3
namespace Go.Proofs.Ytffdbncjndnnaaa.Wd
open Go.RowKit
set_option linter.unusedVariables false
set_option linter.unusedSimpArgs false

theorem gfew_len2 {s t : Nat} {G : Gm} (h : gfewB s t G = true) : G.X.length ≤ s := (gfewB_true h).2.2.1

/-- Of two: the greater. -/
def max2I (x y : Int) : Int := if y > x then y else x
theorem run_max3 (P : Program) (ts : Array TypeId) (t : TypeId) (x y z : Int) (w : World) : (Builtin.max_ ts t #[.int .i64 x, .int .i64 y, .int .i64 z]).run P w = .ok (.int .i64 (max2I (max2I x y) z)) w := by
  simp [Builtin.max_, Builtin.max2, max2I]
def absV (x : Int) : Int := max2I (max2I x (wrap64 (-x))) 0
theorem absV_pos (x : Int) : 0 ≤ absV x := by unfold absV; generalize max2I x (wrap64 (-x)) = z; unfold max2I; split <;> omega
set_option maxHeartbeats 2000000 in
theorem abs_any (x : Int) (w : World) : Calls Try.prog 26 #[.int .i64 x] w fun r w' => r = .returned (.int .i64 (absV x)) ∧ w' = w := by
  go_enter Try.func26, Try.ntmps26
  go_wp2_with fail
  rw [run_max3]
  change Oper.upon _ _ _ _ _ ((Result.ok (Value.int IntKind.i64 (absV x)) w).andThen _)
  obtain ⟨z, hz⟩ : ∃ z, absV x = z := ⟨_, rfl⟩
  have HZ := Lib.hid hz
  rw [hz]
  clear hz
  go_wp2_with fail
  go_ret
  exact ⟨by rw [HZ.out]; rfl, rfl⟩

/-- The choice leads one move nearer. -/
theorem Dist.choice {G : Gm} {q : Int} {T : Nat → Bool} {n : Nat} {D : Nat → Int} (h : Dist G q T n D) (hX : ∀ v, v < n → ∀ y ∈ G.X.getD v [], 0 ≤ y ∧ y < n) {v : Nat} (hv : v < n) (ho : G.O.getD v 0 = q) (h0 : 0 < D v) :
    ∃ y : Nat, chF G q D v = (y : Int) ∧ (y : Int) ∈ G.X.getD v [] ∧ D y = D v - 1 := by
  have hex : ∃ i, i < (G.X.getD v []).length ∧ decide (D ((G.X.getD v []).getD i 0).toNat = D v - 1) = true := by
    obtain ⟨y, hy, hy2⟩ := h.own1 v hv ho h0
    obtain ⟨i, hi, e⟩ := List.getElem_of_mem hy
    refine ⟨i, hi, ?_⟩
    have e2 : (G.X.getD v []).getD i 0 = y := by
      rw [← e, List.getD_eq_getElem?_getD (l := G.X.getD v []), List.getElem?_eq_getElem hi]
      rfl
    rw [e2]
    exact decide_eq_true hy2
  obtain ⟨u, hu, h1, h2⟩ := first_ex (t := fun i => decide (D ((G.X.getD v []).getD i 0).toNat = D v - 1)) hex
  have hm : (G.X.getD v []).getD u 0 ∈ G.X.getD v [] := by
    rw [List.getD_eq_getElem?_getD (l := G.X.getD v []), List.getElem?_eq_getElem hu]
    exact List.getElem_mem hu
  have hr := hX v hv _ hm
  have e : chF G q D v = (G.X.getD v []).getD u 0 := by
    unfold chF
    rw [if_pos ⟨h0, ho⟩]
    exact firstF_hit (fun y hy => (hX v hv y hy).1) hu (of_decide_eq_true h1) (fun i hi => of_decide_eq_false (h2 i hi))
  refine ⟨((G.X.getD v []).getD u 0).toNat, by rw [e, Int.toNat_of_nonneg hr.1], by rw [Int.toNat_of_nonneg hr.1]; exact hm, of_decide_eq_true h1⟩
/-- Where the play goes from a position that is attracted: whatever the other one chooses, nearer. -/
theorem Dist.nearer {G : Gm} {q : Int} {T : Nat → Bool} {n : Nat} {D : Nat → Int} (h : Dist G q T n D) {v : Nat} (hv : v < n) (ho : ¬ G.O.getD v 0 = q) (h0 : 0 < D v) {y : Nat} (hy : (y : Int) ∈ G.X.getD v []) : 0 ≤ D y ∧ D y ≤ D v - 1 :=
  (h.oth1 v hv ho h0).1 _ hy
/-- The player cannot come to the set from a position that is not attracted. -/
theorem Dist.never {G : Gm} {q : Int} {T : Nat → Bool} {n : Nat} {D : Nat → Int} (h : Dist G q T n D) {v : Nat} (hv : v < n) (ho : G.O.getD v 0 = q) (h0 : D v = -1) {y : Nat} (hyn : y < n) (hy : (y : Int) ∈ G.X.getD v []) : D y = -1 := by
  have h1 := h.rng y hyn
  by_cases h2 : 0 ≤ D y
  · have := h.own2 v hv ho (by omega) _ hy h2
    omega
  · omega

/-- The last of the first t successors that is not attracted. -/
def lastN (D : Nat → Int) (l : List Int) (t : Nat) : Int := (l.take t).foldl (fun c y => if D y.toNat < 0 then y else c) (-1)
theorem lastN_next {D : Nat → Int} {l : List Int} {t : Nat} (h : t < l.length) : lastN D l (t + 1) = if D (l.getD t 0).toNat < 0 then l.getD t 0 else lastN D l t := by
  unfold lastN
  rw [take_more h, List.foldl_append]
  rfl
theorem lastN_in {D : Nat → Int} : ∀ {l : List Int} {t : Nat}, t ≤ l.length → lastN D l t = -1 ∨ (lastN D l t ∈ l ∧ D (lastN D l t).toNat < 0)
  | l, 0, _ => .inl rfl
  | l, t + 1, ht => by
    rw [lastN_next (show t < l.length by omega)]
    split
    · rename_i hd
      refine .inr ⟨?_, hd⟩
      rw [List.getD_eq_getElem?_getD, List.getElem?_eq_getElem (show t < l.length by omega)]
      exact List.getElem_mem _
    · exact lastN_in (by omega)
theorem lastN_some {D : Nat → Int} : ∀ {l : List Int} {t : Nat}, (∀ y ∈ l, 0 ≤ y) → t ≤ l.length → (∃ i, i < t ∧ D (l.getD i 0).toNat < 0) → 0 ≤ lastN D l t
  | l, 0, _, _, ⟨i, hi, _⟩ => absurd hi (by omega)
  | l, t + 1, hp, ht, ⟨i, hi, hd⟩ => by
    rw [lastN_next (show t < l.length by omega)]
    split
    · refine hp _ ?_
      rw [List.getD_eq_getElem?_getD, List.getElem?_eq_getElem (show t < l.length by omega)]
      exact List.getElem_mem _
    · rename_i h2
      refine lastN_some hp (by omega) ⟨i, ?_, hd⟩
      by_cases e : i = t
      · subst e; exact absurd hd h2
      · omega
/-- The other player stays outside. -/
theorem Dist.outside {G : Gm} {q : Int} {T : Nat → Bool} {n : Nat} {D : Nat → Int} (h : Dist G q T n D) (hX : ∀ v, v < n → ∀ y ∈ G.X.getD v [], 0 ≤ y ∧ y < n) {v : Nat} (hv : v < n) (ho : ¬ G.O.getD v 0 = q) (h0 : D v = -1) :
    ∃ y : Nat, lastN D (G.X.getD v []) (G.X.getD v []).length = (y : Int) ∧ (y : Int) ∈ G.X.getD v [] ∧ D y = -1 := by
  obtain ⟨z, hz, hz2⟩ := h.oth2 v hv ho h0
  obtain ⟨i, hi, e⟩ := List.getElem_of_mem hz
  have e2 : (G.X.getD v []).getD i 0 = z := by
    rw [← e, List.getD_eq_getElem?_getD (l := G.X.getD v []), List.getElem?_eq_getElem hi]
    rfl
  have h1 := lastN_some (D := D) (l := G.X.getD v []) (t := (G.X.getD v []).length) (fun y hy => (hX v hv y hy).1) (Nat.le_refl _) ⟨i, hi, by rw [e2, hz2]; decide⟩
  rcases lastN_in (D := D) (l := G.X.getD v []) (t := (G.X.getD v []).length) (Nat.le_refl _) with h2 | ⟨h2, h3⟩
  · rw [h2] at h1; exact absurd h1 (by decide)
  · have hr := hX v hv _ h2
    have h4 := h.rng (lastN D (G.X.getD v []) (G.X.getD v []).length).toNat (by omega)
    exact ⟨(lastN D (G.X.getD v []) (G.X.getD v []).length).toNat, by rw [Int.toNat_of_nonneg h1], by rw [Int.toNat_of_nonneg h1]; exact h2, by omega⟩

/-- Is y one of the first t? -/
def seenB (l : List Int) (y : Int) (t : Nat) : Bool := (l.take t).any fun z => z == y
theorem seenB_next {l : List Int} {y : Int} {t : Nat} (h : t < l.length) : seenB l y (t + 1) = (seenB l y t || (l.getD t 0 == y)) := by
  unfold seenB
  rw [take_more h, List.any_append]
  simp
theorem seenB_all {l : List Int} {y : Int} (h : y ∈ l) : seenB l y l.length = true := by
  unfold seenB
  rw [List.take_length, List.any_eq_true]
  exact ⟨y, h, by simp⟩


set_option maxRecDepth 100000 in
set_option maxHeartbeats 16000000 in
theorem forced_main (a p x A C : Option Addr) (n c d e ct ca f : Nat) (G : Gm) (T : Nat → Bool) (ch : List Int) (q : Int) (w : World) (h : GameIn w a n p n x n G) (hT : BoolsIn w A n T) (hC : Ints w C n ch)
    (hsm : n ≤ 60) (hfb : gfewB 60 300 G = true) (hfn : f < n) (hv : gmB G = true) (hq : plB q = true) :
    Calls Try.prog 6 #[.agg #[.slice a n c, .slice p n d, .slice x n e], .int .i64 q, .slice A n ct, .slice C n ca, .int .i64 f] w fun r w' => r = .returned (.bool true) ∧ Below w.heap.size w w' := by
  obtain ⟨W0, hW0⟩ : ∃ W0, w.alloc (.cells #[.slice a n c, .slice p n d, .slice x n e] 25) = W0 := ⟨_, rfl⟩
  have HBW := Lib.hid (show Below w.heap.size w W0 by rw [← hW0]; exact (Below.refl _ _).alloc (Nat.le_refl _) _)
  have hbx0 : Bx3 W0 w.heap.size (.slice a n c) (.slice p n d) (.slice x n e) := by rw [← hW0]; exact Bx3.new _ _ _ _ _
  have HX0 := Lib.hid hbx0
  obtain ⟨hlt0, q0, q1, q2⟩ := hbx0
  have hxl := h.x.1
  have hl64 := gmB_len hv
  have HFW := Lib.hid (gfew_any 60 300 a p x n c n d n e G W0 (h.below HBW.out) (by omega) (by omega) (by omega) (by omega) (by omega) (fun v => by have := hl64 v; omega))
  rw [hfb] at HFW
  have HAT := Lib.hid (fun W (hW : Below W0.heap.size W0 W) => attract_dist a p x A n c d e ct G q T W ((h.below HBW.out).below hW) ((hT.below HBW.out).below hW) hv hq (by omega))
  have HRV := Lib.hid (fun W (hW : Below W0.heap.size W0 W) => refValidG_any a p x n c n d n e G W ((h.below HBW.out).below hW) (by omega) (by omega) (fun v => by have := hl64 v; omega))
  rw [hv] at HRV
  have HROW := Lib.hid (show ∀ v, v < n → ∀ y ∈ G.X.getD v [], 0 ≤ y ∧ y < (n : Int) from fun v hvn y hy => by have := (gmB_rows hv).rg v (by omega) y hy; omega)
  have HNE := Lib.hid (show ∀ v, v < n → 1 ≤ (G.X.getD v []).length from fun v hvn => (gmB_rows hv).ne v (by omega))
  have HLEN := Lib.hid hl64
  have H0 := Lib.hid (h.below HBW.out)
  have HT := Lib.hid (hT.below HBW.out)
  have HC := Lib.hid (hC.below HBW.out)
  have hn0 : (0 : Int) ≤ (n : Int) := by omega
  have hnn : ((n : Int) != (n : Int)) = false := by simp
  have h4' : ¬ (400 : Int) < (n : Int) := by omega
  have hf0 : (0 : Int) ≤ (f : Int) := by omega
  have hf1 : (f : Int) < (n : Int) := by omega
  have h6' : ¬ (f : Int) < 0 := by omega
  have h7' : ¬ (n : Int) ≤ (f : Int) := by omega
  clear h hT hC hl64 hv hfb hq
  go_enter Try.func6, Try.ntmps6
  go_wp2_with fail
  clear hW0
  refine HFW.out.mono ?_
  rintro r1 w1 ⟨rfl, hb1⟩
  obtain ⟨_, s0, s1, s2⟩ := HX0.out.below hb1
  have HBB := Lib.hid hb1
  clear hb1 q0 q1 q2
  go_wp2_with fail
  refine (HRV.out w1 HBB.out).mono ?_
  rintro r3 w3 ⟨rfl, hb3⟩
  have HBC := Lib.hid (HBB.out.trans (hb3.mono HBB.out.size))
  obtain ⟨_, u0, u1, u2⟩ := HX0.out.below HBC.out
  clear hb3 s0 s1 s2 HBB
  go_wp2_with fail
  refine (HAT.out _ HBC.out).mono ?_
  rintro r2 w2 ⟨A1, c1, A2, c2, K, rfl, -, hi1, hi2, hb, hdist⟩
  obtain ⟨D, hD⟩ : ∃ D, stepsF G q T K = D := ⟨_, rfl⟩
  rw [hD] at hi1 hi2 hdist
  have HI1 := Lib.hid hi1
  have HI2 := Lib.hid hi2
  have HDI := Lib.hid hdist
  have HB2 := Lib.hid (HBC.out.trans (hb.mono HBC.out.size))
  obtain ⟨_, v0, v1, v2⟩ := HX0.out.below HB2.out
  have HX2 := Lib.hid (HX0.out.below HB2.out)
  clear hi1 hi2 hdist hb hD u0 u1 u2 HAT HRV HFW
  have hDf := HDI.out.rng f hfn
  -- what is read of memory, in every later world
  have HCC := Lib.hid (fun W (hW : Below w2.heap.size w2 W) => show W.cell? ⟨w.heap.size, 0, none⟩ = some (.slice a n c) ∧ W.cell? ⟨w.heap.size, 1, none⟩ = some (.slice p n d) ∧ W.cell? ⟨w.heap.size, 2, none⟩ = some (.slice x n e) from have hh := HX2.out.below hW; ⟨hh.c0, hh.c1, hh.c2⟩)
  have HS := Lib.hid (fun W (hW : Below w2.heap.size w2 W) => HI1.out.below hW)
  have HK := Lib.hid (fun W (hW : Below w2.heap.size w2 W) => HI2.out.below hW)
  have HG := Lib.hid (fun W (hW : Below w2.heap.size w2 W) => (H0.out.below HB2.out).below hW)
  have HTT := Lib.hid (fun W (hW : Below w2.heap.size w2 W) => (HT.out.below HB2.out).below hW)
  have HCH := Lib.hid (fun W (hW : Below w2.heap.size w2 W) => (HC.out.below HB2.out).below hW)
  obtain ⟨bS, oS, rfl, hbS, hcS⟩ := (HI1.out).2 (by omega)
  obtain ⟨bK, oK, rfl, hbK, hcK⟩ := (HI2.out).2 (by omega)
  obtain ⟨bT, oT, rfl, hbT, hcT⟩ := (HTT.out w2 (Below.refl _ _)) (by omega)
  obtain ⟨bO, oO, rfl, hbO, hcO⟩ := (HG.out w2 (Below.refl _ _)).o.2 (by omega)
  obtain ⟨bX, oX, rfl, hbX, hcX⟩ := (HG.out w2 (Below.refl _ _)).x.2 (by omega)
  obtain ⟨bC, oC, rfl, hbC, hcC⟩ := (HCH.out w2 (Below.refl _ _)).2 (by omega)
  have hSv : ∀ i, i < n → ((List.range n).map D).getD i 0 = D i := fun i hi => by simp [List.getD_eq_getElem?_getD, hi]
  have hKv : ∀ i, i < n → ((List.range n).map (chF G q D)).getD i 0 = chF G q D i := fun i hi => by simp [List.getD_eq_getElem?_getD, hi]
  have KS := Lib.hid (fun W (hW : Below w2.heap.size w2 W) i (hi : i < n) => show W.cell? ⟨bS, oS + i, none⟩ = some (.int .i64 (D i)) from (hW.cell (p := ⟨bS, oS + i, none⟩) hbS).trans ((hcS i hi).trans (by rw [hSv i hi])))
  have KK := Lib.hid (fun W (hW : Below w2.heap.size w2 W) i (hi : i < n) => show W.cell? ⟨bK, oK + i, none⟩ = some (.int .i64 (chF G q D i)) from (hW.cell (p := ⟨bK, oK + i, none⟩) hbK).trans ((hcK i hi).trans (by rw [hKv i hi])))
  have KT := Lib.hid (fun W (hW : Below w2.heap.size w2 W) i (hi : i < n) => show W.cell? ⟨bT, oT + i, none⟩ = some (.bool (T i)) from (hW.cell (p := ⟨bT, oT + i, none⟩) hbT).trans (hcT i hi))
  have KO := Lib.hid (fun W (hW : Below w2.heap.size w2 W) i (hi : i < n) => show W.cell? ⟨bO, oO + i, none⟩ = some (.int .i64 (G.O.getD i 0)) from (hW.cell (p := ⟨bO, oO + i, none⟩) hbO).trans (hcO i hi))
  have KC := Lib.hid (fun W (hW : Below w2.heap.size w2 W) i (hi : i < n) => show W.cell? ⟨bC, oC + i, none⟩ = some (.int .i64 (ch.getD i 0)) from (hW.cell (p := ⟨bC, oC + i, none⟩) hbC).trans (hcC i hi))
  have KX := Lib.hid (fun i (hi : i < n) => show ∃ b off cc, 1 ≤ (G.X.getD i []).length ∧ ∀ W, Below w2.heap.size w2 W → W.cell? ⟨bX, oX + i, none⟩ = some (.slice (some ⟨b, off, none⟩) (G.X.getD i []).length cc) ∧ ∀ t, t < (G.X.getD i []).length → W.cell? ⟨b, off + t, none⟩ = some (.int .i64 ((G.X.getD i []).getD t 0)) from by
    obtain ⟨B, cc, h1, h2⟩ := hcX i hi
    have hne := HNE.out i hi
    obtain ⟨b, off, rfl, hb, hc⟩ := h2.2 (by omega)
    exact ⟨b, off, cc, hne, fun W hW => ⟨(hW.cell (p := ⟨bX, oX + i, none⟩) hbX).trans h1, fun t ht => (hW.cell (p := ⟨b, off + t, none⟩) hb).trans (hc t ht)⟩⟩)
  have kf := KS.out w2 (Below.refl _ _) f hfn
  obtain ⟨df, hdf⟩ : ∃ df, D f = df := ⟨_, rfl⟩
  have HDF := Lib.hid hdf
  rw [hdf] at kf hDf
  clear hdf hcS hcK hcT hcO hcX hcC hSv hKv
  have HBQ := Lib.hid (HBW.out.trans (HB2.out.mono HBW.out.size))
  have KF := Lib.hid (fun W (hW : Below w2.heap.size w2 W) => show W.cell? ⟨bS, oS + f, none⟩ = some (.int .i64 df) from (KS.out W hW f hfn).trans (by rw [HDF.out]))
  by_cases hin : 0 ≤ df
  · go_wp2_with fail
    go_loopg [15, 16] 71 (fun g s15 s16 wx => ∃ kk i : Nat, kk + g = 71 ∧ s16 = .int .i64 kk ∧ s15 = .int .i64 i ∧ i < n ∧ Hid (0 ≤ D i ∧ D i + kk ≤ df) ∧ Hid (Below w2.heap.size w2 wx))
    case atStart => exact ⟨0, f, by omega, rfl, rfl, hfn, ⟨by rw [HDF.out]; exact hin, by rw [HDF.out]; omega⟩, Below.refl _ _⟩
    case round =>
      obtain ⟨kk, i, hkg, rfl, rfl, hin2, HINV, HB⟩ := hrel
      obtain ⟨hd0, hd1⟩ := HINV.out
      cases gk with
      | zero => omega
      | succ g =>
        have hk70 : (kk : Int) ≤ 70 := by omega
        have hk0 : (0 : Int) ≤ (kk : Int) := by omega
        have hi0 : (0 : Int) ≤ (i : Int) := by omega
        have hi1 : (i : Int) < (n : Int) := by omega
        have hkf : ¬ df < (kk : Int) := by omega
        obtain ⟨bl, ol, cl, hlj1, hXX⟩ := KX.out i hin2
        obtain ⟨lj, hlj⟩ : ∃ lj, (G.X.getD i []).length = lj := ⟨_, rfl⟩
        have HLJ := Lib.hid hlj
        rw [hlj] at hlj1 hXX
        clear hlj
        obtain ⟨g0, g1, g2⟩ := HCC.out wr HB.out
        have kF := KF.out wr HB.out
        have kT := KT.out wr HB.out i hin2
        have kO := KO.out wr HB.out i hin2
        have kC := KC.out wr HB.out i hin2
        have kK := KK.out wr HB.out i hin2
        obtain ⟨kX, hcl⟩ := hXX wr HB.out

        have HXX := Lib.hid hXX
        have HCL := Lib.hid hcl
        clear hXX hcl
        obtain ⟨oi, hoi⟩ : ∃ oi, G.O.getD i 0 = oi := ⟨_, rfl⟩
        have HOI := Lib.hid hoi
        rw [hoi] at kO
        clear hoi
        cases hTi : T i
        · rw [hTi] at kT
          have hTF := hTi
          clear hTi
          have hdp : 0 < D i := by
            have h1 := HDI.out.zero i hin2
            have h2 : ¬ D i = 0 := fun e => by rw [h1.2 e] at hTF; cases hTF
            omega
          clear hTF
          generalize ch.getD i 0 = ci at *
          obtain ⟨z, hz⟩ := Int.eq_ofNat_of_zero_le (absV_pos ci)
          have HABS := Lib.hid (fun W => (abs_any ci W).mono (R' := fun r w' => r = .returned (.int .i64 (z : Int)) ∧ w' = W) (fun r w' ⟨h1, h2⟩ => ⟨by rw [h1, hz], h2⟩))
          have hzm : Int.tmod (z : Int) (lj : Int) = ((z % lj : Nat) : Int) := rfl
          have hzm2 : (z : Int) % (lj : Int) = ((z % lj : Nat) : Int) := rfl
          have hlj0 : ¬ (lj : Int) = 0 := by omega
          have hlj00 : ¬ lj = 0 := by omega
          have hlj2 : ((lj : Int) == 0) = false := by simp; omega
          have hlj64 : (lj : Int) ≤ 64 := by have := HLEN.out i; rw [HLJ.out] at this; omega
          have hzl : z % lj < lj := Nat.mod_lt _ (by omega)
          have hz0 : (0 : Int) ≤ ((z % lj : Nat) : Int) := by omega
          have hz1 : ((z % lj : Nat) : Int) < (lj : Int) := by omega
          have kz := HCL.out (z % lj) hzl
          obtain ⟨y, hy⟩ : ∃ y, (G.X.getD i []).getD (z % lj) 0 = y := ⟨_, rfl⟩
          have hym : y ∈ G.X.getD i [] := by
            have hlz : z % lj < (G.X.getD i []).length := by rw [HLJ.out]; exact hzl
            rw [← hy, List.getD_eq_getElem?_getD (l := G.X.getD i []), List.getElem?_eq_getElem hlz]
            exact List.getElem_mem hlz
          rw [hy] at kz
          have hyr := HROW.out i hin2 y hym
          obtain ⟨y, rfl⟩ := Int.eq_ofNat_of_zero_le hyr.1
          have HYM := Lib.hid hym
          generalize z % lj = zl at *
          clear hy hym hz
          go_upto_region 16 with fail
          go_cut [18] from 114 to 196 (fun s18 wx => s18 = .int .i64 y ∧ Hid (Below w2.heap.size w2 wx))
          case first =>
            go_region_held3 (fun V => V.cell? ⟨w.heap.size, 2, none⟩ = some (.slice (some ⟨bX, oX, none⟩) n e) ∧ V.cell? ⟨bX, oX + i, none⟩ = some (.slice (some ⟨bl, ol, none⟩) lj cl) ∧ V.cell? ⟨bC, oC + i, none⟩ = some (.int .i64 ci) ∧ V.cell? ⟨bl, ol + zl, none⟩ = some (.int .i64 y))
              (exact ⟨g2, kX, kC, kz⟩)
              (first | (go_at_call 26; refine (HABS.out _).mono ?_; rintro r wz ⟨rfl, rfl⟩) | fail)
            go_wp2_with fail
            go_meet
            case rel => exact ⟨rfl, HB.out.drew⟩

          case rest =>
            obtain ⟨rfl, HB⟩ := hcut
            clear g0 g1 g2 kF kT kO kC kK kX kz
            obtain ⟨g0, g1, g2⟩ := HCC.out wc HB.out
            have kO := KO.out wc HB.out i hin2
            have kK := KK.out wc HB.out i hin2
            rw [HOI.out] at kO
            obtain ⟨kX, hcl⟩ := HXX.out wc HB.out
            by_cases ho : oi = q
            · have hb1 : (oi == q) = true := by simp [ho]
              obtain ⟨y2, hch, hym2, hd2⟩ := HDI.out.choice HROW.out hin2 (HOI.out.trans ho) hdp
              rw [hch] at kK
              clear hch
              go_wp2_with fail
              have hnr := HROW.out i hin2 y2 hym2
              have hnxn : y2 < n := by omega
              have HSA := Lib.hid (seenB_all hym2)
              rw [HLJ.out] at HSA
              have HINV2 := Lib.hid (show 0 ≤ D y2 ∧ D y2 + ((kk + 1 : Nat) : Int) ≤ df from ⟨by omega, by omega⟩)
              obtain ⟨l, hl⟩ : ∃ l, G.X.getD i [] = l := ⟨_, rfl⟩
              rw [hl] at HSA hcl HLJ
              have HCM := Lib.hid hcl
              clear hl hcl
              have hlj0 : (0 : Int) ≤ (lj : Int) := by omega
              go_loopg [21, 183] lj (fun g s21 s183 wx => ∃ t : Nat, t + g = lj ∧ s183 = .int .i64 t ∧ s21 = .bool (seenB l y2 t) ∧ wx = wc)
              case atStart => exact ⟨0, by omega, rfl, rfl, rfl⟩
              case round =>
                obtain ⟨t, htg, rfl, rfl, hwx⟩ := hrel
                subst hwx
                have ht0 : (0 : Int) ≤ (t : Int) := by omega
                cases gk with
                | zero =>
                  obtain rfl : lj = t := by omega
                  rw [HSA.out]
                  go_wp2_with fail
                  go_roundg g
                  case measure => omega
                  case rel => exact ⟨kk + 1, y2, by omega, by go_num, rfl, hnxn, HINV2.out, HB.out⟩
                | succ g3 =>
                  have htl : t < lj := by omega
                  have htl2 : (t : Int) < (lj : Int) := by omega
                  have kt := HCM.out t htl
                  have HSN := Lib.hid (seenB_next (y := (y2 : Int)) (show t < l.length by rw [HLJ.out]; exact htl))
                  obtain ⟨xt, hxt⟩ : ∃ xt, l.getD t 0 = xt := ⟨_, rfl⟩
                  rw [hxt] at HSN kt
                  clear hxt
                  generalize seenB l y2 t = sb at *
                  cases sb
                  · go_wp2_with fail
                    go_roundg g3
                    case measure => omega
                    case rel => exact ⟨t + 1, by omega, by go_num, by rw [HSN.out]; rfl, rfl⟩
                  · go_wp2_with fail
                    go_roundg g3
                    case measure => omega
                    case rel => exact ⟨t + 1, by omega, by go_num, by rw [HSN.out]; rfl, rfl⟩

            · have hb1 : (oi == q) = false := by simp [ho]
              obtain ⟨hd2, hd3⟩ := HDI.out.nearer hin2 (fun e => ho (HOI.out.symm.trans e)) hdp HYM.out
              go_wp2_with fail
              have hnr := HROW.out i hin2 y HYM.out
              have hnxn : y < n := by omega
              have HSA := Lib.hid (seenB_all HYM.out)
              rw [HLJ.out] at HSA
              have HINV2 := Lib.hid (show 0 ≤ D y ∧ D y + ((kk + 1 : Nat) : Int) ≤ df from ⟨by omega, by omega⟩)
              obtain ⟨l, hl⟩ : ∃ l, G.X.getD i [] = l := ⟨_, rfl⟩
              rw [hl] at HSA hcl HLJ
              have HCM := Lib.hid hcl
              clear hl hcl
              have hlj0 : (0 : Int) ≤ (lj : Int) := by omega
              go_loopg [21, 183] lj (fun g s21 s183 wx => ∃ t : Nat, t + g = lj ∧ s183 = .int .i64 t ∧ s21 = .bool (seenB l y t) ∧ wx = wc)
              case atStart => exact ⟨0, by omega, rfl, rfl, rfl⟩
              case round =>
                obtain ⟨t, htg, rfl, rfl, hwx⟩ := hrel
                subst hwx
                have ht0 : (0 : Int) ≤ (t : Int) := by omega
                cases gk with
                | zero =>
                  obtain rfl : lj = t := by omega
                  rw [HSA.out]
                  go_wp2_with fail
                  go_roundg g
                  case measure => omega
                  case rel => exact ⟨kk + 1, y, by omega, by go_num, rfl, hnxn, HINV2.out, HB.out⟩
                | succ g3 =>
                  have htl : t < lj := by omega
                  have htl2 : (t : Int) < (lj : Int) := by omega
                  have kt := HCM.out t htl
                  have HSN := Lib.hid (seenB_next (y := (y : Int)) (show t < l.length by rw [HLJ.out]; exact htl))
                  obtain ⟨xt, hxt⟩ : ∃ xt, l.getD t 0 = xt := ⟨_, rfl⟩
                  rw [hxt] at HSN kt
                  clear hxt
                  generalize seenB l y t = sb at *
                  cases sb
                  · go_wp2_with fail
                    go_roundg g3
                    case measure => omega
                    case rel => exact ⟨t + 1, by omega, by go_num, by rw [HSN.out]; rfl, rfl⟩
                  · go_wp2_with fail
                    go_roundg g3
                    case measure => omega
                    case rel => exact ⟨t + 1, by omega, by go_num, by rw [HSN.out]; rfl, rfl⟩


        · rw [hTi] at kT
          go_wp2_with fail
          refine (awakeG_any _).mono ?_
          rintro r4 w4 ⟨rfl, hb4⟩
          have HB4 := Lib.hid (HB.out.trans (hb4.mono HB.out.size))
          clear hb4
          go_wp2_with fail
          exact bodyPost_ret (v := .bool true) (by simp [results, Try.results6, go_sem]) rfl ⟨rfl, HBQ.out.trans (HB4.out.mono HBQ.out.size)⟩
  · obtain rfl : df = -1 := by omega
    clear hin
    go_wp2_with fail
    go_loopg [15, 16] 71 (fun g s15 s16 wx => ∃ kk i : Nat, kk + g = 71 ∧ s16 = .int .i64 kk ∧ s15 = .int .i64 i ∧ i < n ∧ Hid (D i = -1) ∧ Hid (Below w2.heap.size w2 wx))
    case atStart => exact ⟨0, f, by omega, rfl, rfl, hfn, by show D f = -1; rw [HDF.out], Below.refl _ _⟩
    case round =>
      obtain ⟨kk, i, hkg, rfl, rfl, hin2, HINV, HB⟩ := hrel
      have hdm := HINV.out
      have hk0 : (0 : Int) ≤ (kk : Int) := by omega
      cases gk with
      | zero =>
        obtain rfl : kk = 71 := by omega
        go_wp2_with fail
        refine (awakeG_any _).mono ?_
        rintro r4 w4 ⟨rfl, hb4⟩
        have HB4 := Lib.hid (HB.out.trans (hb4.mono HB.out.size))
        clear hb4
        go_wp2_with fail
        exact bodyPost_ret (v := .bool true) (by simp [results, Try.results6, go_sem]) rfl ⟨rfl, HBQ.out.trans (HB4.out.mono HBQ.out.size)⟩
      | succ g =>
        have hk70 : (kk : Int) ≤ 70 := by omega
        have hi0 : (0 : Int) ≤ (i : Int) := by omega
        have hi1 : (i : Int) < (n : Int) := by omega
        obtain ⟨bl, ol, cl, hlj1, hXX⟩ := KX.out i hin2
        obtain ⟨lj, hlj⟩ : ∃ lj, (G.X.getD i []).length = lj := ⟨_, rfl⟩
        have HLJ := Lib.hid hlj
        rw [hlj] at hlj1 hXX
        clear hlj
        obtain ⟨g0, g1, g2⟩ := HCC.out wr HB.out
        have kF := KF.out wr HB.out
        have kT := KT.out wr HB.out i hin2
        have kO := KO.out wr HB.out i hin2
        have kC := KC.out wr HB.out i hin2
        have kK := KK.out wr HB.out i hin2
        obtain ⟨kX, hcl⟩ := hXX wr HB.out

        have HXX := Lib.hid hXX
        have HCL := Lib.hid hcl
        clear hXX hcl
        obtain ⟨oi, hoi⟩ : ∃ oi, G.O.getD i 0 = oi := ⟨_, rfl⟩
        have HOI := Lib.hid hoi
        rw [hoi] at kO
        clear hoi
        have hTi : T i = false := by
          cases hb : T i
          · rfl
          · have := (HDI.out.zero i hin2).1 hb
            omega
        rw [hTi] at kT
        clear hTi
        generalize ch.getD i 0 = ci at *
        obtain ⟨z, hz⟩ := Int.eq_ofNat_of_zero_le (absV_pos ci)
        have HABS := Lib.hid (fun W => (abs_any ci W).mono (R' := fun r w' => r = .returned (.int .i64 (z : Int)) ∧ w' = W) (fun r w' ⟨h1, h2⟩ => ⟨by rw [h1, hz], h2⟩))
        have hzm : Int.tmod (z : Int) (lj : Int) = ((z % lj : Nat) : Int) := rfl
        have hzm2 : (z : Int) % (lj : Int) = ((z % lj : Nat) : Int) := rfl
        have hlj0 : ¬ (lj : Int) = 0 := by omega
        have hlj00 : ¬ lj = 0 := by omega
        have hlj2 : ((lj : Int) == 0) = false := by simp; omega
        have hlj64 : (lj : Int) ≤ 64 := by have := HLEN.out i; rw [HLJ.out] at this; omega
        have hzl : z % lj < lj := Nat.mod_lt _ (by omega)
        have hz0 : (0 : Int) ≤ ((z % lj : Nat) : Int) := by omega
        have hz1 : ((z % lj : Nat) : Int) < (lj : Int) := by omega
        have kz := HCL.out (z % lj) hzl
        obtain ⟨y, hy⟩ : ∃ y, (G.X.getD i []).getD (z % lj) 0 = y := ⟨_, rfl⟩
        have hym : y ∈ G.X.getD i [] := by
          have hlz : z % lj < (G.X.getD i []).length := by rw [HLJ.out]; exact hzl
          rw [← hy, List.getD_eq_getElem?_getD (l := G.X.getD i []), List.getElem?_eq_getElem hlz]
          exact List.getElem_mem hlz
        rw [hy] at kz
        have hyr := HROW.out i hin2 y hym
        obtain ⟨y, rfl⟩ := Int.eq_ofNat_of_zero_le hyr.1
        have HYM := Lib.hid hym
        generalize z % lj = zl at *
        clear hy hym hz
        go_upto_region 16 with fail
        go_cut [18] from 114 to 196 (fun s18 wx => s18 = .int .i64 y ∧ Hid (Below w2.heap.size w2 wx))
        case first =>
          go_region_held3 (fun V => V.cell? ⟨w.heap.size, 2, none⟩ = some (.slice (some ⟨bX, oX, none⟩) n e) ∧ V.cell? ⟨bX, oX + i, none⟩ = some (.slice (some ⟨bl, ol, none⟩) lj cl) ∧ V.cell? ⟨bC, oC + i, none⟩ = some (.int .i64 ci) ∧ V.cell? ⟨bl, ol + zl, none⟩ = some (.int .i64 y))
            (exact ⟨g2, kX, kC, kz⟩)
            (first | (go_at_call 26; refine (HABS.out _).mono ?_; rintro r wz ⟨rfl, rfl⟩) | fail)
          go_wp2_with fail
          go_meet
          case rel => exact ⟨rfl, HB.out.drew⟩

        case rest =>
          obtain ⟨rfl, HB⟩ := hcut
          clear g0 g1 g2 kF kT kO kC kK kX kz
          obtain ⟨g0, g1, g2⟩ := HCC.out wc HB.out
          have kO := KO.out wc HB.out i hin2
          have kK := KK.out wc HB.out i hin2
          rw [HOI.out] at kO
          obtain ⟨kX, hcl⟩ := HXX.out wc HB.out
          by_cases ho : oi = q
          · have hb1 : (oi == q) = true := by simp [ho]
            have hy2 := HDI.out.never hin2 (HOI.out.trans ho) hdm (show y < n by omega) HYM.out
            go_wp2_with fail
            have hnr := HROW.out i hin2 y HYM.out
            have hnxn : y < n := by omega
            have HSA := Lib.hid (seenB_all HYM.out)
            rw [HLJ.out] at HSA
            have HINV2 := Lib.hid (show D y = -1 from hy2)
            obtain ⟨l, hl⟩ : ∃ l, G.X.getD i [] = l := ⟨_, rfl⟩
            rw [hl] at HSA hcl HLJ
            have HCM := Lib.hid hcl
            clear hl hcl
            have hlj0 : (0 : Int) ≤ (lj : Int) := by omega
            go_loopg [21, 183] lj (fun g s21 s183 wx => ∃ t : Nat, t + g = lj ∧ s183 = .int .i64 t ∧ s21 = .bool (seenB l y t) ∧ wx = wc)
            case atStart => exact ⟨0, by omega, rfl, rfl, rfl⟩
            case round =>
              obtain ⟨t, htg, rfl, rfl, hwx⟩ := hrel
              subst hwx
              have ht0 : (0 : Int) ≤ (t : Int) := by omega
              cases gk with
              | zero =>
                obtain rfl : lj = t := by omega
                rw [HSA.out]
                go_wp2_with fail
                go_roundg g
                case measure => omega
                case rel => exact ⟨kk + 1, y, by omega, by go_num, rfl, hnxn, HINV2.out, HB.out⟩
              | succ g3 =>
                have htl : t < lj := by omega
                have htl2 : (t : Int) < (lj : Int) := by omega
                have kt := HCM.out t htl
                have HSN := Lib.hid (seenB_next (y := (y : Int)) (show t < l.length by rw [HLJ.out]; exact htl))
                obtain ⟨xt, hxt⟩ : ∃ xt, l.getD t 0 = xt := ⟨_, rfl⟩
                rw [hxt] at HSN kt
                clear hxt
                generalize seenB l y t = sb at *
                cases sb
                · go_wp2_with fail
                  go_roundg g3
                  case measure => omega
                  case rel => exact ⟨t + 1, by omega, by go_num, by rw [HSN.out]; rfl, rfl⟩
                · go_wp2_with fail
                  go_roundg g3
                  case measure => omega
                  case rel => exact ⟨t + 1, by omega, by go_num, by rw [HSN.out]; rfl, rfl⟩

          · have hb1 : (oi == q) = false := by simp [ho]
            obtain ⟨y2, hla, hym2, hd2⟩ := HDI.out.outside HROW.out hin2 (fun e => ho (HOI.out.symm.trans e)) hdm
            rw [HLJ.out] at hla
            have HLA := Lib.hid hla
            clear hla
            obtain ⟨ll, hll⟩ : ∃ ll, G.X.getD i [] = ll := ⟨_, rfl⟩
            have HLLE := Lib.hid hll
            have hcl2 := hcl
            rw [hll] at HLA hcl2
            have hrow2 := HROW.out i hin2
            rw [hll] at hrow2
            have hllen : ll.length = lj := by rw [← hll]; exact HLJ.out
            have HLLN := Lib.hid hllen
            have HCN := Lib.hid hcl2
            have HRW2 := Lib.hid hrow2
            have HCM0 := Lib.hid hcl
            clear hcl2 hrow2 hllen hll hcl
            have hlj0' : (0 : Int) ≤ (lj : Int) := by omega
            go_wp2_with fail
            go_loopg [17, 139] lj (fun g s17 s139 wx => ∃ t : Nat, t + g = lj ∧ s139 = .int .i64 t ∧ s17 = .int .i64 (lastN D ll t) ∧ wx = wc)
            case atStart => exact ⟨0, by omega, rfl, rfl, rfl⟩
            case round =>
              obtain ⟨t, htg, rfl, rfl, hwx⟩ := hrel
              subst hwx
              have ht0 : (0 : Int) ≤ (t : Int) := by omega
              cases gk with
              | zero =>
                obtain rfl : lj = t := by omega
                rw [HLA.out]
                go_wp2_with fail
                have hcl := HCM0.out
                have hnr := HROW.out i hin2 y2 hym2
                have hnxn : y2 < n := by omega
                have HSA := Lib.hid (seenB_all hym2)
                rw [HLJ.out] at HSA
                have HINV2 := Lib.hid (show D y2 = -1 from hd2)
                obtain ⟨l, hl⟩ : ∃ l, G.X.getD i [] = l := ⟨_, rfl⟩
                rw [hl] at HSA hcl HLJ
                have HCM := Lib.hid hcl
                clear hl hcl
                have hlj0 : (0 : Int) ≤ (lj : Int) := by omega
                go_loopg [21, 183] lj (fun g s21 s183 wx => ∃ t : Nat, t + g = lj ∧ s183 = .int .i64 t ∧ s21 = .bool (seenB l y2 t) ∧ wx = wr)
                case atStart => exact ⟨0, by omega, rfl, rfl, rfl⟩
                case round =>
                  obtain ⟨t, htg, rfl, rfl, hwx⟩ := hrel
                  subst hwx
                  have ht0 : (0 : Int) ≤ (t : Int) := by omega
                  cases gk with
                  | zero =>
                    obtain rfl : lj = t := by omega
                    rw [HSA.out]
                    go_wp2_with fail
                    go_roundg g
                    case measure => omega
                    case rel => exact ⟨kk + 1, y2, by omega, by go_num, rfl, hnxn, HINV2.out, HB.out⟩
                  | succ g3 =>
                    have htl : t < lj := by omega
                    have htl2 : (t : Int) < (lj : Int) := by omega
                    have kt := HCM.out t htl
                    have HSN := Lib.hid (seenB_next (y := (y2 : Int)) (show t < l.length by rw [HLJ.out]; exact htl))
                    obtain ⟨xt, hxt⟩ : ∃ xt, l.getD t 0 = xt := ⟨_, rfl⟩
                    rw [hxt] at HSN kt
                    clear hxt
                    generalize seenB l y2 t = sb at *
                    cases sb
                    · go_wp2_with fail
                      go_roundg g3
                      case measure => omega
                      case rel => exact ⟨t + 1, by omega, by go_num, by rw [HSN.out]; rfl, rfl⟩
                    · go_wp2_with fail
                      go_roundg g3
                      case measure => omega
                      case rel => exact ⟨t + 1, by omega, by go_num, by rw [HSN.out]; rfl, rfl⟩

              | succ g3 =>
                have htl : t < lj := by omega
                have htl2 : (t : Int) < (lj : Int) := by omega
                have kt := HCN.out t htl
                have htll : t < ll.length := by rw [HLLN.out]; exact htl
                have HLN := Lib.hid (lastN_next (D := D) htll)
                have hxm : ll.getD t 0 ∈ ll := by
                  rw [List.getD_eq_getElem?_getD, List.getElem?_eq_getElem htll]
                  exact List.getElem_mem htll
                obtain ⟨xt, hxt⟩ : ∃ xt, ll.getD t 0 = xt := ⟨_, rfl⟩
                have hxr := HRW2.out _ hxm
                rw [hxt] at HLN kt hxr
                clear hxt hxm htll
                obtain ⟨xt, rfl⟩ := Int.eq_ofNat_of_zero_le hxr.1
                have hxr1 := hxr.2
                have hxn : xt < n := by omega
                have kd := KS.out wr HB.out xt hxn
                have HLN := Lib.hid (show lastN D ll (t + 1) = if D xt < 0 then (xt : Int) else lastN D ll t from by rw [HLN.out]; rfl)
                obtain ⟨dx, hdx⟩ : ∃ dx, D xt = dx := ⟨_, rfl⟩
                rw [hdx] at kd HLN
                clear hdx hxr
                generalize lastN D ll t = la at *
                by_cases hneg : dx < 0
                · go_wp2_with fail
                  go_roundg g3
                  case measure => omega
                  case rel => exact ⟨t + 1, by omega, by go_num, by rw [HLN.out, if_pos hneg], rfl⟩
                · go_wp2_with fail
                  go_roundg g3
                  case measure => omega
                  case rel => exact ⟨t + 1, by omega, by go_num, by rw [HLN.out, if_neg (by omega)], rfl⟩



end Go.Proofs.Ytffdbncjndnnaaa.Wd
