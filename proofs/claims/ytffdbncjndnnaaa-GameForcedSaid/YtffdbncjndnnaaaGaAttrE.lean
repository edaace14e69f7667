/-
  Attract of package game for all games, players and sets.
-/
import Derived.Test.YtffdbncjndnnaaaGaAttr
namespace Go.Proofs.Ytffdbncjndnnaaa.Wd
open Go.RowKit
set_option linter.unusedVariables false
set_option linter.unusedSimpArgs false

set_option maxRecDepth 100000 in
set_option maxHeartbeats 8000000 in
theorem attract_any (a p x A : Option Addr) (n c m d k e nt ca : Nat) (G : Gm) (q : Int) (T : Nat → Bool) (w : World) (h : GameIn w a n p m x k G) (hT : BoolsIn w A nt T) (hk : k ≤ 17592186044416) (hnt : nt ≤ 140737488355328) (hl : ∀ v, (G.X.getD v []).length ≤ 17592186044416) (hsm : gmB G = true → G.X.length ≤ 1000) :
    Calls Try.prog 10 #[.agg #[.slice a n c, .slice p m d, .slice x k e], .int .i64 q, .slice A nt ca] w fun r w' => OutAt w w' G q T nt r := by
  have hxl := h.x.1
  have hol := h.o.1
  have hpl := h.p.1
  have hnt0 : (0 : Int) ≤ (nt : Int) := by omega
  have hk0 : (0 : Int) ≤ (k : Int) := by omega
  have hgood : gmB G = true → plB q = true → nt = G.X.length → Calls Try.prog 10 #[.agg #[.slice a n c, .slice p m d, .slice x k e], .int .i64 q, .slice A nt ca] w fun r w' => OutAt w w' G q T nt r := fun hv hp he => by
    obtain ⟨hg1, hg2, hg3, -⟩ := gmB_true hv
    obtain rfl : nt = k := by omega
    obtain rfl : n = nt := by omega
    obtain rfl : m = n := by omega
    refine (attract_good a p x A m c d e ca G q T w h hT hv hp (by have := hsm hv; omega)).mono ?_
    rintro r w' ⟨A1, c1, A2, c2, k, rfl, hst, h1, h2, hb⟩
    refine ⟨A1, m, c1, A2, m, c2, _, _, ?_, h1, h2, Nat.le_refl _, Nat.le_refl _, ⟨fun _ => ⟨k, hst, rfl, rfl⟩, fun hc => absurd (attrC_ok hv hp (by omega)) hc⟩, hb⟩
    rw [attrC_ok hv hp (by omega)]
  obtain ⟨W0, hW0⟩ : ∃ W0, (w.alloc (.cells #[.slice a n c, .slice p m d, .slice x k e] 25)).alloc (.cells #[.slice none 0 0] 22) = W0 := ⟨_, rfl⟩
  have HBW := Lib.hid (show Below w.heap.size w W0 by rw [← hW0]; exact ((Below.refl _ _).alloc (Nat.le_refl _) _).alloc (by simp) _)
  have HV := Lib.hid (valid_any a p x n c m d k e G W0 (h.below HBW.out) hk hl)
  have hz0 : W0.heap.size = w.heap.size + 2 := by rw [← hW0]; simp
  have hbx := box_game w (.slice a n c) (.slice p m d) (.slice x k e) 25
  have hbw2 := (Below.refl _ (w.alloc (.cells #[.slice a n c, .slice p m d, .slice x k e] 25))).alloc (Nat.le_refl _) (.cells #[.slice none 0 0] 22)
  rw [hW0] at hbw2
  have r0 : W0.cell? ⟨w.heap.size, 0, none⟩ = some (.slice a n c) := (hbw2.cell (p := ⟨w.heap.size, 0, none⟩) (by simp)).trans hbx.1
  have r1 : W0.cell? ⟨w.heap.size, 1, none⟩ = some (.slice p m d) := (hbw2.cell (p := ⟨w.heap.size, 1, none⟩) (by simp)).trans hbx.2.1
  have r2 : W0.cell? ⟨w.heap.size, 2, none⟩ = some (.slice x k e) := (hbw2.cell (p := ⟨w.heap.size, 2, none⟩) (by simp)).trans hbx.2.2
  clear hbx hbw2
  have r6 : W0.heap[w.heap.size + 1]? = some (.cells #[.slice none 0 0] 22 (0, 0)) := by
    rw [← hW0]
    have := World.alloc_heap_new (w.alloc (.cells #[.slice a n c, .slice p m d, .slice x k e] 25)) (.cells #[.slice none 0 0] 22)
    rwa [World.size_alloc] at this
  have hend : ∀ (c : Int) (W : World), attrC G q nt = c → c ≠ 0 → Below w.heap.size w W → W.cell? ⟨w.heap.size + 1, 0, none⟩ = some (.slice none 0 0) → OutAt w (W.setCell ⟨w.heap.size + 1, 0, none⟩ (.slice none 0 0)) G q T nt (.returned (.tuple #[.slice none 0 0, .slice none 0 0, .int .i64 c])) := fun c W h1 h2 h3 _ =>
    OutAt.error h1 h2 (h3.setCell (by show w.heap.size ≤ w.heap.size + 1; omega) _)
  have HEND := Lib.hid hend
  clear hend
  cases hv : gmB G
  · rw [hv] at HV
    have HD := Lib.hid (attrC_bad (q := q) (nt := nt) hv)
    clear h hT hl hv hgood hsm
    go_enter Try.func10, Try.ntmps10
    go_wp2_with fail
    clear hW0
    refine HV.out.mono ?_
    rintro r w1 ⟨rfl, hb1⟩
    have s6 := (hb1.block (w.heap.size + 1) (by omega)).trans r6
    have c6 := cell_of_heap s6 0
    have f6 := frozen_of_heap s6 0
    have HB1 := Lib.hid (HBW.out.trans (hb1.mono HBW.out.size))
    clear hb1 s6 r6
    go_wp2_with fail
    have k6 : (w1.setCell ⟨w.heap.size + 1, 0, none⟩ (.slice none 0 0)).cell? ⟨w.heap.size + 1, 0, none⟩ = some (.slice none 0 0) := World.cell?_setCell_same' _ _ _ (by rw [c6]; rfl)
    exact bodyPost_ret (v := .tuple #[.slice none 0 0, .slice none 0 0, .int .i64 1]) (by simp [results, Try.results10, go_sem, k6]) rfl (HEND.out 1 w1 HD.out (by decide) HB1.out c6)
  cases hp : plB q
  · rw [hv] at HV
    have HD := Lib.hid (attrC_pl (nt := nt) hv hp)
    have HP := Lib.hid hp
    clear h hT hl hv hgood hsm hp
    go_enter Try.func10, Try.ntmps10
    go_wp2_with fail
    clear hW0
    refine HV.out.mono ?_
    rintro r w1 ⟨rfl, hb1⟩
    have s6 := (hb1.block (w.heap.size + 1) (by omega)).trans r6
    have c6 := cell_of_heap s6 0
    have f6 := frozen_of_heap s6 0
    have HB1 := Lib.hid (HBW.out.trans (hb1.mono HBW.out.size))
    clear hb1 s6 r6
    go_wp2_with fail
    refine (player_any q w1).mono ?_
    rintro r w2 ⟨rfl, rfl⟩
    rw [HP.out]
    go_wp2_with fail
    have k6 : (w1.setCell ⟨w.heap.size + 1, 0, none⟩ (.slice none 0 0)).cell? ⟨w.heap.size + 1, 0, none⟩ = some (.slice none 0 0) := World.cell?_setCell_same' _ _ _ (by rw [c6]; rfl)
    exact bodyPost_ret (v := .tuple #[.slice none 0 0, .slice none 0 0, .int .i64 6]) (by simp [results, Try.results10, go_sem, k6]) rfl (HEND.out 6 w1 HD.out (by decide) HB1.out c6)
  by_cases hd : ¬ nt = G.X.length
  · have HD := Lib.hid (attrC_dim (nt := nt) hv hp hd)
    have hd' : ((nt : Int) != (k : Int)) = true := by simp; omega
    rw [hv] at HV
    have HP := Lib.hid hp
    clear h hT hl hv hgood hsm hp
    go_enter Try.func10, Try.ntmps10
    go_wp2_with fail
    clear hW0
    refine HV.out.mono ?_
    rintro r w1 ⟨rfl, hb1⟩
    have s6 := (hb1.block (w.heap.size + 1) (by omega)).trans r6
    have s2 := (hb1.cell (p := ⟨w.heap.size, 2, none⟩) (by show w.heap.size < W0.heap.size; omega)).trans r2
    have c6 := cell_of_heap s6 0
    have f6 := frozen_of_heap s6 0
    have HB1 := Lib.hid (HBW.out.trans (hb1.mono HBW.out.size))
    clear hb1 s6 r6 r2
    go_wp2_with fail
    refine (player_any q w1).mono ?_
    rintro r w2 ⟨rfl, rfl⟩
    rw [HP.out]
    go_wp2_with fail
    have k6 : (w1.setCell ⟨w.heap.size + 1, 0, none⟩ (.slice none 0 0)).cell? ⟨w.heap.size + 1, 0, none⟩ = some (.slice none 0 0) := World.cell?_setCell_same' _ _ _ (by rw [c6]; rfl)
    exact bodyPost_ret (v := .tuple #[.slice none 0 0, .slice none 0 0, .int .i64 2]) (by simp [results, Try.results10, go_sem, k6]) rfl (HEND.out 2 w1 HD.out (by decide) HB1.out c6)
  · exact hgood hv hp (by omega)

end Go.Proofs.Ytffdbncjndnnaaa.Wd
