/-
  Split of the reference.
-/
import Derived.Test.YteidikkeoaolgaaDoorWdRefMix
import Derived.Test.YteidikkeoaolgaaDoorWdHeld
import Derived.Test.YteidikkeoaolgaaDoorWdPair
namespace Go.Proofs.YteidikkeoaolgaaDoor.Wd
open Go.RowKit
set_option linter.unusedVariables false
set_option linter.unusedSimpArgs false

set_option maxRecDepth 100000 in
set_option maxHeartbeats 2000000 in
theorem refSplit_early (A B : Option Addr) (n c m d : Nat) (s l : List Int) (k : Int) (f g : Nat → Int) (w : World) (ha : Ints w A n s) (hb : Ints w B m l) (h1 : n + m ≤ 100000) (hbad : validB 6 s l = false ∨ k < 0 ∨ 6 < k) :
    Calls Tryd.prog 18 #[.agg #[.slice A n c, .slice B m d], .int .i64 k] w fun e w' => Res2 w w' (okS (validB 6 s l) k) f g (codeS (validB 6 s l) k) e := by
  have hn : n ≤ 100000 := by omega
  have hm : m ≤ 100000 := by omega
  go_enter Tryd.func18, Tryd.ntmps18
  go_wp2_with fail
  refine (is_any A B n c m d s l _ (((ha.alloc _).alloc _).alloc _) (((hb.alloc _).alloc _).alloc _) hn hm).mono ?_
  rintro e w1 ⟨rfl, hb1⟩
  have hbw : Below w.heap.size w w1 := ((((Below.refl _ _).alloc (Nat.le_refl _) _).alloc (by simp) _).alloc (by simp; omega) _).trans (hb1.mono (by simp; omega))
  obtain ⟨⟨⟨p0, p1⟩, ⟨q0, q1⟩, ⟨u0, u1⟩⟩, ⟨⟨q2, q3⟩, ⟨u2, u3⟩⟩, hz⟩ := boxes3 hb1
  have hz1 : w.heap.size + 1 < w1.heap.size := by omega
  clear hb1
  have HBW := Lib.hid hbw
  clear hbw
  cases hv : validB 6 s l
  · have H1 := Lib.hid (show okS (validB 6 s l) k = false ∧ codeS (validB 6 s l) k = 1 by rw [hv]; simp [okS, codeS])
    clear hbad
    go_wp2_with fail
    go_region
    all_goals
      go_wp2_with fail
      refine bodyPost_ret (v := .tuple #[.agg #[.slice none 0 0, .slice none 0 0], .agg #[.slice none 0 0, .slice none 0 0], .int .i64 1]) (by simp [results, Tryd.results18, go_sem, q0, q1, u0, u1]) rfl ?_
      refine Res2.bad ?_ H1.out.1 H1.out.2
      exact below_drewN ((((HBW.out.setCell (by simp) _).setCell (by simp) _).setCell (by simp; omega) _).setCell (by simp; omega) _) 1
  · rw [hv] at hbad
    have hk : k < 0 ∨ 6 < k := by rcases hbad with h | h; cases h; exact h
    have H1 := Lib.hid (show okS (validB 6 s l) k = false ∧ codeS (validB 6 s l) k = 6 by rw [hv]; exact ⟨by simp [okS]; omega, by simp [codeS, hk]⟩)
    clear hbad
    rcases hk with hk | hk
    all_goals
      go_wp2_with fail
      go_region
      all_goals
        go_wp2_with fail
        refine bodyPost_ret (v := .tuple #[.agg #[.slice none 0 0, .slice none 0 0], .agg #[.slice none 0 0, .slice none 0 0], .int .i64 6]) (by simp [results, Tryd.results18, go_sem, q0, q1, u0, u1]) rfl ?_
        refine Res2.bad ?_ H1.out.1 H1.out.2
        exact below_drewN ((((HBW.out.setCell (by simp) _).setCell (by simp) _).setCell (by simp; omega) _).setCell (by simp; omega) _) 1

/-- The two boxes while the stems (or the loops) grow. -/
structure Boxes (b : Nat) (w : World) (x0 x1 y0 y1 : Value) : Prop where
  size : b + 1 < w.heap.size
  c0 : w.cell? ⟨b, 0, none⟩ = some x0
  c1 : w.cell? ⟨b, 1, none⟩ = some x1
  d0 : w.cell? ⟨b + 1, 0, none⟩ = some y0
  d1 : w.cell? ⟨b + 1, 1, none⟩ = some y1
  f0 : w.frozen? ⟨b, 0, none⟩ = false
  f1 : w.frozen? ⟨b, 1, none⟩ = false
  g0 : w.frozen? ⟨b + 1, 0, none⟩ = false
  g1 : w.frozen? ⟨b + 1, 1, none⟩ = false

theorem Boxes.below {b : Nat} {w w' : World} {x0 x1 y0 y1 : Value} (h : Boxes b w x0 x1 y0 y1) (hb : Below (b + 2) w w') : Boxes b w' x0 x1 y0 y1 where
  size := Nat.lt_of_lt_of_le h.size hb.size
  c0 := (hb.cell (by simp)).trans h.c0
  c1 := (hb.cell (by simp)).trans h.c1
  d0 := (hb.cell (by simp)).trans h.d0
  d1 := (hb.cell (by simp)).trans h.d1
  f0 := (hb.frozen (by simp)).trans h.f0
  f1 := (hb.frozen (by simp)).trans h.f1
  g0 := (hb.frozen (by simp)).trans h.g0
  g1 := (hb.frozen (by simp)).trans h.g1

theorem pow_wrap {k : Nat} (hk : k ≤ 6) : IntKind.i64.wrap ((2 : Int) ^ k) = (2 : Int) ^ k ∧ (2 : Int) ^ k ≠ 0 := by
  have h : ∀ k : Fin 7, IntKind.i64.wrap ((2 : Int) ^ k.val) = (2 : Int) ^ k.val ∧ (2 : Int) ^ k.val ≠ 0 := by decide +kernel
  exact h ⟨k, by omega⟩

def lowL (s : List Int) (k : Nat) : List Int := s.map fun x => x % (2 : Int) ^ k
def highL (s : List Int) (k : Nat) : List Int := s.map fun x => x / (2 : Int) ^ k

end Go.Proofs.YteidikkeoaolgaaDoor.Wd
