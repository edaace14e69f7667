/-
  Attract of package game, where the game and the player are valid and the set fits.
-/
import Derived.Test.YtffdbncjndnnaaaGaDisW
import Derived.Test.YtffdbncjndnnaaaGaIndexF
namespace Go.Proofs.Ytffdbncjndnnaaa.Wd
open Go.RowKit
set_option linter.unusedVariables false
set_option linter.unusedSimpArgs false

theorem firstF_hit {S : Nat → Int} {s : Int} : ∀ {l : List Int} {u : Nat}, (∀ y ∈ l, 0 ≤ y) → u < l.length → S (l.getD u 0).toNat = s - 1 → (∀ i, i < u → ¬ S (l.getD i 0).toNat = s - 1) → firstF S s l = l.getD u 0 := by
  intro l u hpos hu hS hno
  have keep : ∀ (l' : List Int) (c : Int), 0 ≤ c → l'.foldl (fun c y => if c < 0 ∧ S y.toNat = s - 1 then y else c) c = c := fun l' => by
    induction l' with
    | nil => intro c _; rfl
    | cons z l' ih => intro c hc; rw [List.foldl_cons, if_neg (fun h => by omega)]; exact ih c hc
  have key : ∀ (l : List Int) (u : Nat), (∀ y ∈ l, 0 ≤ y) → u < l.length → S (l.getD u 0).toNat = s - 1 → (∀ i, i < u → ¬ S (l.getD i 0).toNat = s - 1) → l.foldl (fun c y => if c < 0 ∧ S y.toNat = s - 1 then y else c) (-1) = l.getD u 0 := fun l => by
    induction l with
    | nil => intro u _ hu; exact absurd hu (by simp)
    | cons z l ih =>
      intro u hpos hu hS hno
      rw [List.foldl_cons]
      cases u with
      | zero =>
        have hS' : S z.toNat = s - 1 := by simpa using hS
        rw [if_pos ⟨by decide, hS'⟩, keep l z (hpos z (List.mem_cons_self ..))]
        simp
      | succ u =>
        have h0 : ¬ S z.toNat = s - 1 := by simpa using hno 0 (by omega)
        rw [if_neg (fun h => h0 h.2)]
        have := ih u (fun y hy => hpos y (List.mem_cons_of_mem _ hy)) (by simpa using hu) (by simpa using hS) (fun i hi => by simpa using hno (i + 1) (by omega))
        rw [this]
        simp
  exact key l u hpos hu hS hno
theorem first_ex {t : Nat → Bool} : ∀ {n : Nat}, (∃ i, i < n ∧ t i = true) → ∃ u, u < n ∧ t u = true ∧ ∀ i, i < u → t i = false
  | 0, ⟨i, h, _⟩ => absurd h (by omega)
  | n + 1, ⟨i, h, ht⟩ => by
    by_cases h0 : ∃ i, i < n ∧ t i = true
    · obtain ⟨u, h1, h2, h3⟩ := first_ex h0
      exact ⟨u, by omega, h2, h3⟩
    · have hall : ∀ j, j < n → t j = false := fun j hj => by
        cases hb : t j
        · rfl
        · exact absurd ⟨j, hj, hb⟩ h0
      have : i = n := by
        rcases Nat.lt_or_ge i n with h1 | h1
        · rw [hall i h1] at ht; cases ht
        · omega
      subst this
      exact ⟨i, by omega, ht, hall⟩

theorem Dist.congr {G : Gm} {q : Int} {T : Nat → Bool} {n : Nat} {D D' : Nat → Int} (h : Dist G q T n D) (hX : ∀ v, v < n → ∀ y ∈ G.X.getD v [], 0 ≤ y ∧ y < n) (he : ∀ v, v < n → D v = D' v) : Dist G q T n D' := by
  have hy : ∀ v, v < n → ∀ y ∈ G.X.getD v [], D y.toNat = D' y.toNat := fun v hv y hy => he _ (by have := hX v hv y hy; omega)
  refine ⟨fun v hv => ?_, fun v hv => ?_, fun v hv ho hd => ?_, fun v hv ho hd y hy' h0 => ?_, fun v hv ho hd => ?_, fun v hv ho hd => ?_⟩
  · rw [← he v hv]; exact h.zero v hv
  · rw [← he v hv]; exact h.rng v hv
  · rw [← he v hv] at hd ⊢
    obtain ⟨y, h1, h2⟩ := h.own1 v hv ho hd
    exact ⟨y, h1, by rw [← hy v hv y h1]; exact h2⟩
  · rw [← he v hv] at hd ⊢
    rw [← hy v hv y hy'] at h0 ⊢
    exact h.own2 v hv ho hd y hy' h0
  · rw [← he v hv] at hd ⊢
    obtain ⟨h1, y, h2, h3⟩ := h.oth1 v hv ho hd
    exact ⟨fun y hy' => by rw [← hy v hv y hy']; exact h1 y hy', y, h2, by rw [← hy v hv y h2]; exact h3⟩
  · rw [← he v hv] at hd
    obtain ⟨y, h1, h2⟩ := h.oth2 v hv ho hd
    exact ⟨y, h1, by rw [← hy v hv y h1]; exact h2⟩

set_option maxRecDepth 100000 in
set_option maxHeartbeats 16000000 in
theorem attract_dist (a p x A : Option Addr) (n c d e ca : Nat) (G : Gm) (q : Int) (T : Nat → Bool) (w : World) (h : GameIn w a n p n x n G) (hT : BoolsIn w A n T) (hv : gmB G = true) (hq : plB q = true) (hn : n ≤ 1000) :
    Calls Try.prog 10 #[.agg #[.slice a n c, .slice p n d, .slice x n e], .int .i64 q, .slice A n ca] w fun r w' =>
      ∃ A1 c1 A2 c2 k, r = .returned (.tuple #[.slice A1 n c1, .slice A2 n c2, .int .i64 0]) ∧ Stab G q T n k ∧ Ints w' A1 n ((List.range n).map (stepsF G q T k)) ∧ Ints w' A2 n ((List.range n).map (chF G q (stepsF G q T k))) ∧ Below w.heap.size w w' ∧ Dist G q T n (stepsF G q T k) := by
  obtain ⟨hg1, hg2, hg3, hg4⟩ := gmB_true hv
  have hxl := h.x.1
  have hn0 : (0 : Int) ≤ (n : Int) := by omega
  have hnn : ((n : Int) != (n : Int)) = false := by simp
  obtain ⟨W0, hW0⟩ : ∃ W0, w.alloc (.cells #[.slice a n c, .slice p n d, .slice x n e] 25) = W0 := ⟨_, rfl⟩
  have HBW := Lib.hid (show Below w.heap.size w W0 by rw [← hW0]; exact (Below.refl _ _).alloc (Nat.le_refl _) _)
  obtain ⟨q0, q1, q2⟩ := box_game w (.slice a n c) (.slice p n d) (.slice x n e) 25
  rw [hW0] at q0 q1 q2
  have hz0 : W0.heap.size = w.heap.size + 1 := by rw [← hW0]; simp
  obtain ⟨W1, hW1⟩ : ∃ W1, W0.alloc (.cells #[.slice none 0 0] 22) = W1 := ⟨_, rfl⟩
  have HB01 := Lib.hid (show Below W0.heap.size W0 W1 by rw [← hW1]; exact (Below.refl _ _).alloc (Nat.le_refl _) _)
  have hz1 : W1.heap.size = W0.heap.size + 1 := by rw [← hW1]; simp
  have h61 : W1.heap[W0.heap.size]? = some (.cells #[.slice none 0 0] 22 (0, 0)) := by rw [← hW1]; exact World.alloc_heap_new _ _
  have HB1 := Lib.hid (HBW.out.trans (HB01.out.mono HBW.out.size))
  have H1 := Lib.hid (h.below HB1.out)
  have HT := Lib.hid (hT.below HB1.out)
  have r0 := (HB01.out.cell (p := ⟨w.heap.size, 0, none⟩) (by show w.heap.size < W0.heap.size; omega)).trans q0
  have r1 := (HB01.out.cell (p := ⟨w.heap.size, 1, none⟩) (by show w.heap.size < W0.heap.size; omega)).trans q1
  have r2 := (HB01.out.cell (p := ⟨w.heap.size, 2, none⟩) (by show w.heap.size < W0.heap.size; omega)).trans q2
  have HV := Lib.hid (valid_any a p x n c n d n e G W1 H1.out (by omega) (fun v => by have := gmB_len hv v; omega))
  rw [hv] at HV
  have HP := Lib.hid hq
  have HVV := Lib.hid hv
  have HROW2 := Lib.hid (show ∀ v, v < n → ∀ y ∈ G.X.getD v [], 0 ≤ y ∧ y < (n : Int) from fun v hvn y hy => by have := (gmB_rows hv).rg v (by omega) y hy; omega)
  have HBX := Lib.hid (show Below w.heap.size w W1 from HB1.out)
  obtain ⟨b6, hb6⟩ : ∃ b6, W0.heap.size = b6 := ⟨_, rfl⟩
  rw [hb6] at h61 hz1 hz0
  have H := Lib.hid h
  clear h hT hq hg4 q0 q1 q2 hv
  go_enter Try.func10, Try.ntmps10
  go_wp2_with fail
  clear hW0 hW1
  refine HV.out.mono ?_
  rintro r w1 ⟨rfl, hb1⟩
  have s0 := (hb1.cell (p := ⟨w.heap.size, 0, none⟩) (by show w.heap.size < W1.heap.size; omega)).trans r0
  have s1 := (hb1.cell (p := ⟨w.heap.size, 1, none⟩) (by show w.heap.size < W1.heap.size; omega)).trans r1
  have s2 := (hb1.cell (p := ⟨w.heap.size, 2, none⟩) (by show w.heap.size < W1.heap.size; omega)).trans r2
  have s6 := (hb1.block b6 (by omega)).trans h61
  have HB2 := Lib.hid hb1
  have hz2 := hb1.size
  clear hb1 r0 r1 r2 h61
  go_wp2_with fail
  refine (player_any q w1).mono ?_
  rintro r w2 ⟨rfl, rfl⟩
  rw [HP.out]
  go_wp2_with fail
  refine (dist_any a p x A n c d e ca q G T w1 (H1.out.below HB2.out) (HT.out.below HB2.out) HVV.out hn).mono ?_
  rintro r w3 ⟨bs, D, rfl, hbs, hrow, hdist, hb3⟩
  obtain ⟨hst, hsD⟩ := hdist.done (HROW2.out)
  have HST := Lib.hid hst
  have HSD := Lib.hid hsD
  have HDI := Lib.hid hdist
  have hz3 := hb3.size
  have s0 := (hb3.cell (p := ⟨w.heap.size, 0, none⟩) (by show w.heap.size < w1.heap.size; omega)).trans s0
  have s1 := (hb3.cell (p := ⟨w.heap.size, 1, none⟩) (by show w.heap.size < w1.heap.size; omega)).trans s1
  have s2 := (hb3.cell (p := ⟨w.heap.size, 2, none⟩) (by show w.heap.size < w1.heap.size; omega)).trans s2
  have s6 := (hb3.block b6 (by omega)).trans s6
  have hb6' : b6 = w.heap.size + 1 := by omega
  have HB3 := Lib.hid (HB2.out.trans (hb3.mono HB2.out.size))
  have HR3 := Lib.hid hrow
  have hrlt := hrow.lt
  subst hb6'
  have c6 := cell_of_heap s6 0
  have f6 := frozen_of_heap s6 0
  have HS6 := Lib.hid s6
  clear hb3 hst hsD hdist hrow s6
  obtain ⟨W4, hW4⟩ : ∃ W4, w3.setCell ⟨w.heap.size + 1, 0, none⟩ (.slice (some ⟨bs, 0, none⟩) n n) = W4 := ⟨_, rfl⟩
  have hz4 : W4.heap.size = w3.heap.size := by rw [← hW4]; exact size_set _ _ _
  have k6 : W4.cell? ⟨w.heap.size + 1, 0, none⟩ = some (.slice (some ⟨bs, 0, none⟩) n n) := by rw [← hW4]; exact World.cell?_setCell_same' _ _ _ (by rw [c6]; rfl)
  obtain ⟨W5, hW5⟩ : ∃ W5, W4.alloc (.cells #[.int .i64 (-1)] 3) = W5 := ⟨_, rfl⟩
  have HB45 := Lib.hid (show Below W4.heap.size W4 W5 by rw [← hW5]; exact (Below.refl _ _).alloc (Nat.le_refl _) _)
  have l6 := (HB45.out.cell (p := ⟨w.heap.size + 1, 0, none⟩) (by show w.heap.size + 1 < W4.heap.size; omega)).trans k6
  have hz5 : W5.heap.size = W4.heap.size + 1 := by rw [← hW5]; simp
  have HX5 := Lib.hid (show Ints W5 (some ⟨w3.heap.size, 0, none⟩) 1 [-1] by
    have := Ints.of_heap (w := W5) (b := W4.heap.size) (t := 3) (xs := [-1]) (by rw [← hW5]; exact World.alloc_heap_new _ _)
    rw [hz4] at this
    exact this)
  have HB34 := Lib.hid (show Below w.heap.size w3 W4 by rw [← hW4]; exact (Below.refl _ _).setCell (by show w.heap.size ≤ w.heap.size + 1; omega) _)
  have far4 : ∀ k, k ≠ w.heap.size + 1 → W4.heap[k]? = w3.heap[k]? := fun k hk => by rw [← hW4]; exact set_far _ _ _ hk
  have t0 := (HB45.out.cell (p := ⟨w.heap.size, 0, none⟩) (by show w.heap.size < W4.heap.size; omega)).trans ((World.cell?_of_block (a := ⟨w.heap.size, 0, none⟩) (far4 w.heap.size (by omega))).trans s0)
  have t2 := (HB45.out.cell (p := ⟨w.heap.size, 2, none⟩) (by show w.heap.size < W4.heap.size; omega)).trans ((World.cell?_of_block (a := ⟨w.heap.size, 2, none⟩) (far4 w.heap.size (by omega))).trans s2)
  have HR5 := Lib.hid (show W5.rowIs bs 3 n (fun i => .int .i64 (D i)) from (HR3.out.of_block (far4 _ (by omega))).of_block (HB45.out.block _ (by omega)))
  have HBW5 := Lib.hid (show Below w.heap.size w W5 from ((HBX.out.trans (HB3.out.mono (by omega))).trans HB34.out).trans (HB45.out.mono (by omega)))
  have HF5 := Lib.hid (show W5.frozen? ⟨w.heap.size + 1, 0, none⟩ = false from (HB45.out.frozen (p := ⟨w.heap.size + 1, 0, none⟩) (by show w.heap.size + 1 < W4.heap.size; omega)).trans (by rw [← hW4, World.frozen?_setCell]; exact f6))
  go_wp2_with fail
  clear hW4 hW5 far4 c6 f6 s0 s1 s2 k6
  refine (repeat_any (some ⟨w3.heap.size, 0, none⟩) 1 n (-1) W5 HX5.out (by omega)).mono ?_
  rintro r w6 ⟨bc, rfl, hbc, hrc, hb6⟩
  have HRC := Lib.hid hrc
  have HB6 := Lib.hid hb6
  have hz6 := hb6.size
  have t0 := (hb6.cell (p := ⟨w.heap.size, 0, none⟩) (by show w.heap.size < W5.heap.size; omega)).trans t0
  have t2 := (hb6.cell (p := ⟨w.heap.size, 2, none⟩) (by show w.heap.size < W5.heap.size; omega)).trans t2
  have l6 := (hb6.cell (p := ⟨w.heap.size + 1, 0, none⟩) (by show w.heap.size + 1 < W5.heap.size; omega)).trans l6
  have HM := Lib.hid (show ∀ W, Below W5.heap.size W5 W → W.cell? ⟨w.heap.size, 0, none⟩ = some (.slice a n c) ∧ W.cell? ⟨w.heap.size + 1, 0, none⟩ = some (.slice (some ⟨bs, 0, none⟩) n n) ∧ W.frozen? ⟨w.heap.size + 1, 0, none⟩ = false from fun W hW => ⟨(hW.cell (p := ⟨w.heap.size, 0, none⟩) (by show w.heap.size < W5.heap.size; omega)).trans ((hb6.cell (p := ⟨w.heap.size, 0, none⟩) (by show w.heap.size < W5.heap.size; omega)).symm.trans t0), (hW.cell (p := ⟨w.heap.size + 1, 0, none⟩) (by show w.heap.size + 1 < W5.heap.size; omega)).trans ((hb6.cell (p := ⟨w.heap.size + 1, 0, none⟩) (by show w.heap.size + 1 < W5.heap.size; omega)).symm.trans l6), (hW.frozen (p := ⟨w.heap.size + 1, 0, none⟩) (by show w.heap.size + 1 < W5.heap.size; omega)).trans HF5.out⟩)
  have hbs5 : bs < W5.heap.size := by omega
  clear hrc hb6
  go_wp2_with fail
  clear t0 t2 l6
  go_loopg [35] n (fun g i wx => ∃ j : Nat, j + g = n ∧ i = .int .i64 j ∧ Hid (∃ C : Nat → Int, wx.rowIs bc 3 n (fun i => .int .i64 (C i)) ∧ (∀ i, i < j → C i = chF G q (stepsF G q T n) i) ∧ ∀ i, j ≤ i → C i = -1) ∧ Hid (Below W5.heap.size W5 wx))
  case atStart => exact ⟨0, by omega, rfl, ⟨fun _ => -1, HRC.out, fun i hi => absurd hi (by omega), fun _ _ => rfl⟩, HB6.out⟩
  case round =>
    obtain ⟨j, hjg, rfl, HC, HBX⟩ := hrel
    have hj0 : (0 : Int) ≤ (j : Int) := by omega
    obtain ⟨u0, u6, uf⟩ := HM.out _ HBX.out
    cases gk with
    | zero =>
      obtain rfl : n = j := by omega
      have f6 := uf
      obtain ⟨C, hrow, hC1, -⟩ := HC.out
      have HI1 := Lib.hid (show wr.rowIs bs 3 n (fun i => .int .i64 (D i)) from HR5.out.of_block (HBX.out.block _ hbs5))
      have HI2 := Lib.hid hrow
      have HC1 := Lib.hid hC1
      clear hrow hC1 HC u0
      go_wp2_with fail
      have k6 : (wr.setCell ⟨w.heap.size + 1, 0, none⟩ (.slice (some ⟨bs, 0, none⟩) n n)).cell? ⟨w.heap.size + 1, 0, none⟩ = some (.slice (some ⟨bs, 0, none⟩) n n) := World.cell?_setCell_same' _ _ _ (by rw [u6]; rfl)
      have hL : ∀ (F : Nat → Int) (D' : Nat → Int) (b : Nat), b ≠ w.heap.size + 1 → wr.rowIs b 3 n (fun i => .int .i64 (D' i)) → (∀ i, i < n → D' i = F i) → Ints (wr.setCell ⟨w.heap.size + 1, 0, none⟩ (.slice (some ⟨bs, 0, none⟩) n n)) (some ⟨b, 0, none⟩) n ((List.range n).map F) := fun F D' b hb hr he =>
        Ints.of_row (t := 3) ((hr.of_block (set_far _ _ _ (by show b ≠ w.heap.size + 1; exact hb))).congr (fun i hi => by rw [he i hi]; simp [List.getD_eq_getElem?_getD, hi])) (by simp)
      refine bodyPost_ret (v := .tuple #[.slice (some ⟨bs, 0, none⟩) n n, .slice (some ⟨bc, 0, none⟩) n n, .int .i64 0]) (by simp [results, Try.results10, go_sem, k6]) rfl ⟨_, _, _, _, n, rfl, HST.out, hL _ D bs (by omega) HI1.out (fun i hi => (HSD.out i hi).symm), hL _ C bc (by omega) HI2.out (fun i hi => HC1.out i hi), ((HBW5.out.trans (HBX.out.mono HBW5.out.size)).setCell (by show w.heap.size ≤ w.heap.size + 1; omega) _), HDI.out.congr HROW2.out (fun i hi => (HSD.out i hi).symm)⟩
    | succ g =>
      have hjl : j < n := by omega
      have hjl2 : (j : Int) < (n : Int) := by omega
      obtain ⟨C, hrow, hC1, hC2⟩ := HC.out
      have HBWX := Lib.hid (show Below w.heap.size w wr from HBW5.out.trans (HBX.out.mono HBW5.out.size))
      obtain ⟨bO, oO, rfl, hbO, hcO⟩ := (H.out.o).2 (by omega)
      have kO := (HBWX.out.cell (p := ⟨bO, oO + j, none⟩) hbO).trans (hcO j hjl)
      obtain ⟨bX, oX, rfl, hbX, hcX⟩ := (H.out.x).2 (by omega)
      obtain ⟨lX, cX, kX0, hintX⟩ := hcX j hjl
      have kX := (HBWX.out.cell (p := ⟨bX, oX + j, none⟩) hbX).trans kX0
      have HRS := Lib.hid (show wr.rowIs bs 3 n (fun i => .int .i64 (D i)) from HR5.out.of_block (HBX.out.block _ hbs5))
      have kS := HRS.out.cell hjl
      have HRW := Lib.hid hrow
      have HC1 := Lib.hid hC1
      have HC2 := Lib.hid hC2
      have HIX := Lib.hid (hintX.below HBWX.out)
      have hlt6 : w.heap.size + 1 < wr.heap.size := by have := HBX.out.size; omega
      have hltbs : bs < wr.heap.size := by have := HBX.out.size; omega
      obtain ⟨lj, hlj⟩ : ∃ lj, (G.X.getD j []).length = lj := ⟨_, rfl⟩
      have HLJ := Lib.hid hlj
      rw [hlj] at kX HIX
      clear hlj hcO hcX kX0 hintX hrow hC1 hC2 HC
      obtain ⟨oj, hoj⟩ : ∃ oj, G.O.getD j 0 = oj := ⟨_, rfl⟩
      have HOJ := Lib.hid hoj
      rw [hoj] at kO
      clear hoj
      obtain ⟨dj, hdj⟩ : ∃ dj, D j = dj := ⟨_, rfl⟩
      have HDJ := Lib.hid hdj
      rw [hdj] at kS
      clear hdj
      have hl9 := Lib.hid (show Below wr.heap.size wr (wr.alloc (.cells #[.int .i64 j] 3)) from (Below.refl _ _).alloc (Nat.le_refl _) _)
      have k9 : (wr.alloc (.cells #[.int .i64 (j : Int)] 3)).cell? ⟨wr.heap.size, 0, none⟩ = some (.int .i64 j) := cell_of_heap (World.alloc_heap_new _ _) 0
      have v6 := (hl9.out.cell (p := ⟨w.heap.size + 1, 0, none⟩) hlt6).trans u6
      have v0 := (hl9.out.cell (p := ⟨w.heap.size, 0, none⟩) (by show w.heap.size < wr.heap.size; omega)).trans u0
      have vO := (hl9.out.cell (p := ⟨bO, oO + j, none⟩) (by show bO < wr.heap.size; have := HBWX.out.size; omega)).trans kO
      have vS := (hl9.out.cell (p := ⟨bs, j, none⟩) hltbs).trans kS
      have hskip : ∀ (hno : ¬ (0 < dj ∧ oj = q)), chF G q (stepsF G q T n) j = -1 := fun hno => by
        unfold chF
        rw [HSD.out j hjl, HDJ.out, HOJ.out, if_neg hno]
      have HSKIP := Lib.hid hskip
      clear hskip
      by_cases ho : oj = q
      · have hb1 : (oj == q) = true := by simp [ho]
        by_cases hd : 0 < dj
        · have hex : ∃ i, i < lj ∧ (D ((G.X.getD j []).getD i 0).toNat == D j - 1) = true := by
            obtain ⟨y, hy, hy2⟩ := HDI.out.own1 j hjl (HOJ.out.trans ho) (by rw [HDJ.out]; exact hd)
            obtain ⟨i, hi, e⟩ := List.getElem_of_mem hy
            refine ⟨i, by rw [← HLJ.out]; exact hi, ?_⟩
            have e2 : (G.X.getD j []).getD i 0 = y := by
              rw [← e, List.getD_eq_getElem?_getD (l := G.X.getD j []), List.getElem?_eq_getElem hi]
              rfl
            rw [e2, hy2]
            simp
          obtain ⟨u, hul, hut, huf⟩ := first_ex (t := fun i => D ((G.X.getD j []).getD i 0).toNat == D j - 1) hex
          have hxr : ∀ i, i < lj → 0 ≤ (G.X.getD j []).getD i 0 ∧ (G.X.getD j []).getD i 0 < (n : Int) := fun i hi => by
            have hi2 : i < (G.X.getD j []).length := by rw [HLJ.out]; exact hi
            refine HROW2.out j hjl _ ?_
            rw [List.getD_eq_getElem?_getD (l := G.X.getD j []), List.getElem?_eq_getElem hi2]
            exact List.getElem_mem hi2
          have HIF := Lib.hid (indexF_any (w.heap.size + 1) wr.heap.size lj cX u lX (G.X.getD j []) (fun i => D ((G.X.getD j []).getD i 0).toNat == D j - 1) _ (HIX.out.below hl9.out) (by rw [← HLJ.out]; have := gmB_len HVV.out j; omega) (fun i hi W hW => by
            obtain ⟨y, hy⟩ : ∃ y : Nat, (G.X.getD j []).getD i 0 = (y : Int) := ⟨((G.X.getD j []).getD i 0).toNat, by have := hxr i hi; omega⟩
            have hy3 := hxr i hi
            rw [hy] at hy3 ⊢
            have h5 := hW.size
            refine near_any (w.heap.size + 1) wr.heap.size bs n n y j D W ?_ ?_ ?_ (by omega) hjl (by omega) (fun v hvn => ?_)
            · exact (hW.cell (p := ⟨w.heap.size + 1, 0, none⟩) (by show w.heap.size + 1 < _; simp; omega)).trans v6
            · exact (hW.cell (p := ⟨wr.heap.size, 0, none⟩) (by show wr.heap.size < _; simp)).trans k9
            · exact (HRS.out.of_block (hl9.out.block _ hltbs)).of_block (hW.block _ (by simp; omega))
            · have := HDI.out.rng v hvn
              omega) hul hut huf)
          have HCH := Lib.hid (show chF G q (stepsF G q T n) j = (G.X.getD j []).getD u 0 by
            unfold chF
            rw [HSD.out j hjl, HDJ.out, HOJ.out, if_pos ⟨hd, ho⟩]
            have hval : ∀ i, i < lj → stepsF G q T n ((G.X.getD j []).getD i 0).toNat = D ((G.X.getD j []).getD i 0).toNat := fun i hi => HSD.out _ (by have := hxr i hi; omega)
            refine firstF_hit (fun y hy => (HROW2.out j hjl y hy).1) (by rw [HLJ.out]; exact hul) ?_ (fun i hi => ?_)
            · rw [hval u hul, ← HDJ.out]
              simpa using hut
            · rw [hval i (by omega), ← HDJ.out]
              simpa using huf i hi)
          obtain ⟨bx, ox, rfl, hbx, hcx⟩ := (HIX.out).2 (by omega)
          obtain ⟨y, hy⟩ : ∃ y, (G.X.getD j []).getD u 0 = y := ⟨_, rfl⟩
          have ky := hcx u hul
          rw [hy] at HCH ky
          have hu0 : (0 : Int) ≤ (u : Int) := by omega
          have hu1 : (u : Int) < (lj : Int) := by omega
          clear hex hut huf hxr hy hcx
          go_wp2_with fail
          refine HIF.out.mono ?_
          rintro r w9 ⟨rfl, hb9⟩
          have HB9 := Lib.hid hb9
          have k92 := (hb9.cell (p := ⟨wr.heap.size, 0, none⟩) (by show wr.heap.size < _; simp)).trans k9
          have ky2 := (hb9.cell (p := ⟨bx, ox + u, none⟩) (by show bx < _; simp; omega)).trans ((hl9.out.cell (p := ⟨bx, ox + u, none⟩) hbx).trans ky)
          have HRW9 := Lib.hid ((HRW.out.of_block (hl9.out.block _ HRW.out.lt)).of_block (hb9.block _ (by have := HRW.out.lt; simp; omega)))
          have kc := HRW9.out.cell hjl
          have fc := HRW9.out.frozen j
          clear hb9 v6 v0 vO vS k9
          go_upto_region 14 with fail
          go_region
          all_goals
            go_wp2_with fail
            go_roundg g
            case measure => omega
            case rel => exact ⟨j + 1, by omega, by go_num, ⟨updN C j y, ((HRW9.out.set j (.int .i64 y)).congr (fun i _ => by unfold updN; split <;> rfl)).drew, fun i hi => by
              by_cases e : i = j
              · subst e; rw [updN_same]; exact HCH.out.symm
              · rw [updN_other _ _ e]; exact HC1.out i (by omega), fun i hi => by rw [updN_other _ _ (by omega)]; exact HC2.out i (by omega)⟩, ((HBX.out.trans ((hl9.out.trans (HB9.out.mono (by simp))).mono HBX.out.size)).setCell (by exact hbc) _).drew⟩
        · go_wp2_with fail
          go_roundg g
          case measure => omega
          case rel => exact ⟨j + 1, by omega, by go_num, ⟨C, HRW.out.of_block (hl9.out.block _ HRW.out.lt), fun i hi => by
            by_cases e : i = j
            · subst e; rw [HC2.out i (Nat.le_refl _), HSKIP.out (fun h => by have := h.1; omega)]
            · exact HC1.out i (by omega), fun i hi => HC2.out i (by omega)⟩, HBX.out.trans (hl9.out.mono HBX.out.size)⟩
      · have hb1 : (oj == q) = false := by simp [ho]
        go_wp2_with fail
        go_roundg g
        case measure => omega
        case rel => exact ⟨j + 1, by omega, by go_num, ⟨C, HRW.out.of_block (hl9.out.block _ HRW.out.lt), fun i hi => by
          by_cases e : i = j
          · subst e; rw [HC2.out i (Nat.le_refl _), HSKIP.out (fun h => ho h.2)]
          · exact HC1.out i (by omega), fun i hi => HC2.out i (by omega)⟩, HBX.out.trans (hl9.out.mono HBX.out.size)⟩

theorem attract_good (a p x A : Option Addr) (n c d e ca : Nat) (G : Gm) (q : Int) (T : Nat → Bool) (w : World) (h : GameIn w a n p n x n G) (hT : BoolsIn w A n T) (hv : gmB G = true) (hq : plB q = true) (hn : n ≤ 1000) :
    Calls Try.prog 10 #[.agg #[.slice a n c, .slice p n d, .slice x n e], .int .i64 q, .slice A n ca] w fun r w' =>
      ∃ A1 c1 A2 c2 k, r = .returned (.tuple #[.slice A1 n c1, .slice A2 n c2, .int .i64 0]) ∧ Stab G q T n k ∧ Ints w' A1 n ((List.range n).map (stepsF G q T k)) ∧ Ints w' A2 n ((List.range n).map (chF G q (stepsF G q T k))) ∧ Below w.heap.size w w' :=
  (attract_dist a p x A n c d e ca G q T w h hT hv hq hn).mono fun r w' ⟨A1, c1, A2, c2, k, h1, h2, h3, h4, h5, _⟩ => ⟨A1, c1, A2, c2, k, h1, h2, h3, h4, h5⟩

end Go.Proofs.Ytffdbncjndnnaaa.Wd
