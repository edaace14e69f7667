/-
  The example of the chapter on games.
-/
import Derived.Test.YtffdbncjndnnaaaGaPlay3
import Derived.Test.YtffdbncjndnnaaaGaSame
namespace Go.Proofs.Ytffdbncjndnnaaa.Wd
open Go.RowKit
set_option linter.unusedVariables false
set_option linter.unusedSimpArgs false

/-- The game of the example. -/
def exG : Gm := ⟨[0, 1], [1, 2], [[0, 1], [0]]⟩
theorem exG_valid : gmB exG = true := by decide
/-- The world behind the making of the game. -/
def exW (w : World) : World :=
  (((((w.alloc (.cells #[.int .i64 0, .int .i64 1] 3)).alloc (.cells #[.int .i64 1, .int .i64 2] 3)).alloc (.cells #[.int .i64 0, .int .i64 1] 3)).alloc (.cells #[.int .i64 0] 3)).alloc
    (.cells #[.slice (some ⟨w.heap.size + 1 + 1, 0, none⟩) 2 2, .slice (some ⟨w.heap.size + 1 + 1 + 1, 0, none⟩) 1 1] 22)).alloc
    (.cells #[.slice (some ⟨w.heap.size, 0, none⟩) 2 2, .slice (some ⟨w.heap.size + 1, 0, none⟩) 2 2, .slice (some ⟨w.heap.size + 1 + 1 + 1 + 1, 0, none⟩) 2 2] 25)
theorem exW_size (w : World) : (exW w).heap.size = w.heap.size + 6 := by simp [exW]
theorem exW_below (w : World) : Below w.heap.size w (exW w) := by
  unfold exW
  repeat' (first | exact Below.refl _ _ | refine Below.alloc ?_ (by simp; try omega) _)
theorem exW_at (w : World) :
    (exW w).heap[w.heap.size]? = some (.cells ([0, 1].map (Value.int .i64)).toArray 3 (0, 0)) ∧ (exW w).heap[w.heap.size + 1]? = some (.cells ([1, 2].map (Value.int .i64)).toArray 3 (0, 0)) ∧
    (exW w).heap[w.heap.size + 1 + 1]? = some (.cells ([0, 1].map (Value.int .i64)).toArray 3 (0, 0)) ∧ (exW w).heap[w.heap.size + 1 + 1 + 1]? = some (.cells ([0].map (Value.int .i64)).toArray 3 (0, 0)) ∧
    (exW w).heap[w.heap.size + 1 + 1 + 1 + 1]? = some (.cells #[.slice (some ⟨w.heap.size + 1 + 1, 0, none⟩) 2 2, .slice (some ⟨w.heap.size + 1 + 1 + 1, 0, none⟩) 1 1] 22 (0, 0)) ∧
    (exW w).heap[w.heap.size + 1 + 1 + 1 + 1 + 1]? = some (.cells #[.slice (some ⟨w.heap.size, 0, none⟩) 2 2, .slice (some ⟨w.heap.size + 1, 0, none⟩) 2 2, .slice (some ⟨w.heap.size + 1 + 1 + 1 + 1, 0, none⟩) 2 2] 25 (0, 0)) := by
  unfold exW
  refine ⟨?_, ?_, ?_, ?_, ?_, ?_⟩
  all_goals
    simp only [al_at, World.size_alloc]
    repeat (first | with_reducible rfl | rw [if_neg (by omega)] | rw [if_pos (by omega)])
    first | done | rfl
theorem exW_game (w : World) : GameIn (exW w) (some ⟨w.heap.size, 0, none⟩) 2 (some ⟨w.heap.size + 1, 0, none⟩) 2 (some ⟨w.heap.size + 1 + 1 + 1 + 1, 0, none⟩) 2 exG := by
  obtain ⟨h0, h1, h2, h3, h4, h5⟩ := exW_at w
  refine ⟨Ints.of_heap h0, Ints.of_heap h1, rfl, fun _ => ⟨_, 0, rfl, lt_of_heap h4, fun j hj => ?_⟩⟩
  have hj2 : j = 0 ∨ j = 1 := by omega
  rcases hj2 with rfl | rfl
  · exact ⟨_, _, cell_of_heap h4 0, Ints.of_heap h2⟩
  · exact ⟨_, _, cell_of_heap h4 1, Ints.of_heap h3⟩
theorem two_new (w : World) {s : Nat} (h : w.heap.size = s) (x y : Int) (t : TypeId) : Ints (w.alloc (.cells #[.int .i64 x, .int .i64 y] t)) (some ⟨s, 0, none⟩) 2 [x, y] := by
  subst h
  exact Ints.of_heap (xs := [x, y]) (t := t) (by rw [al_at, if_pos rfl]; rfl)
theorem meet_a : Meet [1, 0] 0 0 2 := ⟨by omega, rfl, fun a b hab hb => by
  obtain ⟨rfl, rfl⟩ : a = 0 ∧ b = 1 := by omega
  decide⟩
theorem meet_b : Meet [0, 0] 0 0 1 := ⟨by omega, rfl, fun a b hab hb => by omega⟩

/-- The play of the example. -/
theorem ex_play (w W : World) (hW : Below (exW w).heap.size (exW w) W) (A : Option Addr) (c : Nat) (ch : List Int) (t : Nat) (wn : Int) (l : List Int) (hA : Ints W A 2 ch) (hch : ∀ v, v < 2 → hasB (exG.X.getD v []) (ch.getD v 0) = true) (hm : Meet ch 0 0 t) (hl : pathL ch 0 t = l) (hw : (topP exG.P l).tmod 2 = wn) (hlen : l.length = t) :
    Calls Try.prog 12 #[.agg #[.slice (some ⟨w.heap.size, 0, none⟩) 2 2, .slice (some ⟨w.heap.size + 1, 0, none⟩) 2 2, .slice (some ⟨w.heap.size + 1 + 1 + 1 + 1, 0, none⟩) 2 2], .slice A 2 c, .int .i64 0] W fun r w' =>
      ∃ A1 c1 A2 c2, r = .returned (.tuple #[.slice A1 0 c1, .slice A2 t c2, .int .i64 wn, .int .i64 0]) ∧ Ints w' A2 t l ∧ Below W.heap.size W w' :=
  (play_good _ _ _ A 2 2 2 2 2 2 2 c 0 exG ch W ((exW_game w).below hW) hA exG_valid rfl (by decide) hch).mono fun r w' ⟨i, t', A1, c1, A2, c2, hr, hm', _, _, hi2, hb⟩ => by
    obtain ⟨rfl, rfl⟩ := hm'.unique hm
    refine ⟨A1, c1, A2, c2, ?_, ?_, hb⟩
    · rw [hr, Nat.sub_zero, List.drop_zero, hl, hw]
    · rw [Nat.sub_zero, List.drop_zero, hl] at hi2
      exact hi2

set_option maxRecDepth 100000 in
set_option maxHeartbeats 4000000 in
theorem awakeG_any (w : World) : Calls Try.prog 9 #[] w fun e w' => e = .returned (.bool true) ∧ Below w.heap.size w w' := by
  have HBE := Lib.hid (exW_below w)
  have HZE := Lib.hid (exW_size w)
  have HC5 := Lib.hid (exW_at w).2.2.2.2.2
  have HPA := Lib.hid (ex_play w ((exW w).alloc (.cells #[.int .i64 1, .int .i64 0] 3)) ((Below.refl _ _).alloc (Nat.le_refl _) _) (some ⟨w.heap.size + 1 + 1 + 1 + 1 + 1 + 1, 0, none⟩) 2 [1, 0] 2 0 [0, 1] (two_new _ (exW_size w) 1 0 _) (fun v hv => by
    have : v = 0 ∨ v = 1 := by omega
    rcases this with rfl | rfl <;> decide) meet_a rfl (by decide) rfl)
  have HPB := Lib.hid (fun W (hW : Below (exW w).heap.size (exW w) W) => ex_play w (W.alloc (.cells #[.int .i64 0, .int .i64 0] 3)) (hW.alloc hW.size _) (some ⟨W.heap.size, 0, none⟩) 2 [0, 0] 1 1 [0] (two_new _ rfl 0 0 _) (fun v hv => by
    have : v = 0 ∨ v = 1 := by omega
    rcases this with rfl | rfl <;> decide) meet_b rfl (by decide) rfl)
  have HBA := Lib.hid (show Below (exW w).heap.size (exW w) ((exW w).alloc (.cells #[.int .i64 1, .int .i64 0] 3)) from (Below.refl _ _).alloc (Nat.le_refl _) _)
  have HSA := Lib.hid (show ((exW w).alloc (.cells #[.int .i64 1, .int .i64 0] 3)).heap.size = w.heap.size + 7 by rw [World.size_alloc, exW_size])
  obtain ⟨WA, hWA⟩ : ∃ WA, (exW w).alloc (.cells #[.int .i64 1, .int .i64 0] 3) = WA := ⟨_, rfl⟩
  rw [hWA] at HPA HBA HSA
  have HWA := Lib.hid hWA
  unfold exW at hWA
  go_enter Try.func9, Try.ntmps9
  go_wp2_with fail
  clear hWA
  refine HPA.out.mono ?_
  rintro r w2 ⟨A1, c1, A2, c2, rfl, hi2, hb2⟩
  have HB2 := Lib.hid (show Below (exW w).heap.size (exW w) w2 from HBA.out.trans (hb2.mono HBA.out.size))
  have HI2 := Lib.hid hi2
  have hlt : w.heap.size + 1 + 1 + 1 + 1 + 1 < (exW w).heap.size := by rw [HZE.out]; omega
  have hlt2 : w.heap.size + 1 + 1 + 1 + 1 + 1 < w2.heap.size := by have := HB2.out.size; omega
  have k0 := (HB2.out.cell (p := ⟨w.heap.size + 1 + 1 + 1 + 1 + 1, 0, none⟩) hlt).trans (cell_of_heap HC5.out 0)
  have k1 := (HB2.out.cell (p := ⟨w.heap.size + 1 + 1 + 1 + 1 + 1, 1, none⟩) hlt).trans (cell_of_heap HC5.out 1)
  have k2 := (HB2.out.cell (p := ⟨w.heap.size + 1 + 1 + 1 + 1 + 1, 2, none⟩) hlt).trans (cell_of_heap HC5.out 2)
  simp at k0 k1 k2
  clear hi2 hb2 hlt
  go_wp2_with fail
  refine (HPB.out _ HB2.out).mono ?_
  rintro r w3 ⟨A3, c3, A4, c4, rfl, hi4, hb3⟩
  have HB3 := Lib.hid (show Below w2.heap.size w2 w3 from ((Below.refl _ _).alloc (Nat.le_refl _) _).trans (hb3.mono (by rw [World.size_alloc]; omega)))
  have HI4 := Lib.hid hi4
  have HL1 := Lib.hid (List_same A2 (some ⟨w3.heap.size, 0, none⟩) 2 c2 2 [0, 1] (w3.alloc (.cells #[.int .i64 0, .int .i64 1] 3)) ((HI2.out.below HB3.out).alloc _) (two_new _ rfl 0 1 _) (by omega))
  clear hi4 hb3 k0 k1 k2 hlt2
  go_wp2_with fail
  refine HL1.out.mono ?_
  rintro r w4 ⟨rfl, z4, rfl⟩
  have HL2 := Lib.hid (List_same A4 (some ⟨w3.heap.size + 1, 0, none⟩) 1 c4 1 [0] ((((w3.alloc (.cells #[.int .i64 0, .int .i64 1] 3)).drewN z4)).alloc (.cells #[.int .i64 0] 3)) (((HI4.out.alloc _).drewN z4).alloc _) (int_new' _ (by simp) 0 _) (by omega))
  go_wp2_with fail
  refine HL2.out.mono ?_
  rintro r w5 ⟨rfl, z5, rfl⟩
  go_wp2_with fail
  go_ret
  exact ⟨rfl, below_drewN ((below_drewN ((((HBE.out.trans (HB2.out.mono HBE.out.size)).trans (HB3.out.mono (Nat.le_trans HBE.out.size HB2.out.size)))).alloc (Nat.le_trans (Nat.le_trans HBE.out.size HB2.out.size) HB3.out.size) _) _).alloc (by show w.heap.size ≤ (w3.alloc _).heap.size; rw [World.size_alloc]; exact Nat.le_succ_of_le (Nat.le_trans (Nat.le_trans HBE.out.size HB2.out.size) HB3.out.size)) _) _⟩

end Go.Proofs.Ytffdbncjndnnaaa.Wd
