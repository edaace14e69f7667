/-
  Ahead of package word.
-/
import Derived.Test.YteidikkeoaolgaaDoorWdFit
import Derived.Test.YteidikkeoaolgaaDoorWdRound
import Derived.Test.YteidikkeoaolgaaDoorWdRdS
namespace Go.Proofs.YteidikkeoaolgaaDoor.Wd
open Go.RowKit
set_option linter.unusedVariables false

theorem two_pow6 : (2 : Int) ^ 6 = 64 := by decide

set_option maxRecDepth 100000 in
set_option maxHeartbeats 2000000 in
theorem Ahead_bad (P A B : Option Addr) (p q n c m d : Nat) (xs s l : List Int) (f : Nat → Int) (w : World) (hp : Ints w P p xs) (ha : Ints w A n s) (hb : Ints w B m l) (hpn : p ≤ 1000) (h1 : n + m ≤ 100000) (hbad : (validB 6 s l && lettersB 64 xs) = false) :
    Calls Tryd.prog 13 #[.slice P p q, .agg #[.slice A n c, .slice B m d]] w fun e w' => ResF w w' (validB 6 s l && lettersB 64 xs) f e := by
  have HBAD := Lib.hid hbad
  go_enter Tryd.func13, Tryd.ntmps13
  go_wp2_with fail
  refine (valid_any A B n c m d 6 s l _ ((ha.alloc _).alloc _) ((hb.alloc _).alloc _) (by omega) (by omega)).mono ?_
  rintro e w1 ⟨rfl, hb1⟩
  have hbw : Below w.heap.size w w1 := (((Below.refl _ _).alloc (Nat.le_refl _) _).alloc (by simp) _).trans (hb1.mono (by simp; omega))
  obtain ⟨⟨p0, p1, q0, q1⟩, ⟨_, _, q2, q3⟩, hz⟩ := boxes hb1
  clear hb1
  cases hv : validB 6 s l
  · go_wp2_with fail
    refine bodyPost_ret (v := .tuple #[.agg #[.slice none 0 0, .slice none 0 0], .int .i64 1]) (by simp [results, Tryd.results13, go_sem, q0, q1]) rfl ?_
    exact ResF.bad ((hbw.setCell (p := ⟨w.heap.size + 1, 0, none⟩) (by show w.heap.size ≤ w.heap.size + 1; omega) _).setCell (p := ⟨w.heap.size + 1, 1, none⟩) (by show w.heap.size ≤ w.heap.size + 1; omega) _) HBAD.out
  · have hl : lettersB 64 xs = false := by rw [hv] at hbad; simpa using hbad
    have HL := Lib.hid hl
    clear hbad hl
    go_wp2_with fail
    refine (allLetters_any P p q 6 xs _ (hp.below hbw) (by omega) (by omega)).mono ?_
    rintro e w2 ⟨rfl, rfl⟩
    rw [two_pow6, HL.out]
    go_wp2_with fail
    refine bodyPost_ret (v := .tuple #[.agg #[.slice none 0 0, .slice none 0 0], .int .i64 1]) (by simp [results, Tryd.results13, go_sem, q0, q1]) rfl ?_
    exact ResF.bad ((hbw.setCell (p := ⟨w.heap.size + 1, 0, none⟩) (by show w.heap.size ≤ w.heap.size + 1; omega) _).setCell (p := ⟨w.heap.size + 1, 1, none⟩) (by show w.heap.size ≤ w.heap.size + 1; omega) _) HBAD.out

set_option maxRecDepth 100000 in
set_option maxHeartbeats 4000000 in
theorem Ahead_good (P A B : Option Addr) (p q n c m d : Nat) (xs s l : List Int) (w : World) (hp : Ints w P p xs) (ha : Ints w A n s) (hb : Ints w B m l) (hpn : p ≤ 1000) (hmd : m ≤ d) (hv : validB 6 s l = true) (hx : lettersB 64 xs = true) :
    Calls Tryd.prog 13 #[.slice P p q, .agg #[.slice A n c, .slice B m d]] w fun e w' => ResF w w' true (at_ (xs ++ s) l) e := by
  obtain ⟨i0, hi, hi0, hi1, hi2⟩ := info_parts int_info
  have hl6 := valid6 hv
  have e1 := ha.1
  have e2 := hb.1
  have hn : n ≤ 200 := by omega
  have hm : m ≤ 200 := by omega
  have hm0 : 0 < m := by omega
  have HV := Lib.hid hv
  have HL := Lib.hid hx
  clear hl6 e1 e2 hv hx
  go_enter Tryd.func13, Tryd.ntmps13
  go_wp2_with fail
  refine (valid_any A B n c m d 6 s l _ ((ha.alloc _).alloc _) ((hb.alloc _).alloc _) (by omega) (by omega)).mono ?_
  rintro e w1 ⟨rfl, hb1⟩
  rw [HV.out]
  have hbw : Below w.heap.size w w1 := (((Below.refl _ _).alloc (Nat.le_refl _) _).alloc (by simp) _).trans (hb1.mono (by simp; omega))
  obtain ⟨⟨p0, p1, q0, q1⟩, ⟨_, _, q2, q3⟩, hz⟩ := boxes hb1
  have hz0 : w.heap.size < w1.heap.size := by omega
  have HP := Lib.hid (hp.below hbw)
  have HA := Lib.hid (ha.below hbw)
  have HB := Lib.hid (hb.below hbw)
  clear hb1 hp ha hb
  go_wp2_with fail
  refine (allLetters_any P p q 6 xs _ HP.out (by omega) (by omega)).mono ?_
  rintro e w2 ⟨rfl, rfl⟩
  rw [two_pow6, HL.out]
  go_wp2_with fail
  go_region_held3 (fun V => V.cell? ⟨w.heap.size, 0, none⟩ = some (.slice A n c) ∧ V.cell? ⟨w.heap.size, 1, none⟩ = some (.slice B m d))
    (first
      | go_keep
      | (refine ⟨?_, ?_⟩
         · rw [k2.cell (by simpa using hz0)]; exact p0
         · rw [k2.cell (by simpa using hz0)]; exact p1)
      | (refine ⟨?_, ?_⟩
         · rw [k1.cell (by simpa using hz0)]; exact p0
         · rw [k1.cell (by simpa using hz0)]; exact p1))
    (first
      | ((refine step_append_ints _ (by rfl) _ _ _ (by rfl) w1.heap.size 3 i0 _ Tryd.underlying22 hi hi0 hi1 hi2 rfl (.slice A1 p c1) p (xs.map (Value.int .i64)) (by rfl) (by exact HO1.out) A n c s (by rfl) (by exact HA.out.below k1) (by omega) k1.size ?_; intro v' z2 hown hgrow hat; have k2 : Below w1.heap.size w1 z2 := k1.trans (below_own (base := w1.heap.size) HO1.out hgrow k1.size); have hvb := own_slice hown; obtain ⟨A2, c2, hv2, hc2⟩ := hvb; rw [hv2]))
      | (go_at_call 56; refine (clone_slice P p q xs _ HP.out.drew (by omega)).mono ?_; rintro e z1 ⟨A1, c1, rfl, hown1, hc1, b1⟩; have k1 : Below w1.heap.size w1 z1 := ((Below.refl _ _).drew).trans b1; have HO1 : Hid (z1.ownsRow w1.heap.size 3 1 (.slice A1 p c1) p (xs.map (Value.int .i64))) := hown1)
      | fail)
  rw [hv2] at hown
  rw [← List.map_append] at hown
  have HI2 := Lib.hid (Ints.of_own hown)
  have HB2 := Lib.hid (HB.out.below k2)
  have r1 := (k2.cell (p := ⟨w.heap.size, 1, none⟩) hz0).trans p1
  have hz2 : w.heap.size < z2.heap.size := Nat.lt_of_lt_of_le hz0 k2.size
  clear hown hgrow hat b1 HO1 k1 hown1
  go_wp2_with fail
  refine (normal_parts A2 B (p + n) c2 m d (xs ++ s) l _ HI2.out HB2.out (by omega) (by omega) hm0 hc2 hmd).mono ?_
  rintro e w3 ⟨A3, n3, c3, B3, m3, d3, s3, l3, rfl, ⟨ha3, hb3, hnc3, hmd3⟩, HN3, b3⟩
  have HQ3 : Hid (n3 ≤ 100000 ∧ m3 ≤ 100000) := by have h1 := ha3.1; have h2 := hb3.1; have h3 := HN3.out; exact ⟨by omega, by omega⟩
  go_wp2_with fail
  refine (fitting_any A3 B3 n3 c3 m3 d3 s3 l3 (at_ (xs ++ s) l) _ ha3 hb3 HQ3.out.1 HQ3.out.2 hnc3 hmd3 HN3.out.1).mono ?_
  rintro e w4 ⟨A4, n4, c4, B4, m4, d4, s4, l4, code, rfl, ⟨ha4, hb4, hnc4, hmd4⟩, HN4, b4⟩
  have hbx4 : Below w1.heap.size w1 w4 := k2.trans ((b3.trans (b4.mono b3.size)).mono k2.size)
  have t0 := (hbx4.cell (p := ⟨w.heap.size + 1, 0, none⟩) hz).trans q0
  have t1 := (hbx4.cell (p := ⟨w.heap.size + 1, 1, none⟩) hz).trans q1
  have t2 := (hbx4.frozen (p := ⟨w.heap.size + 1, 0, none⟩) hz).trans q2
  have t3 := (hbx4.frozen (p := ⟨w.heap.size + 1, 1, none⟩) hz).trans q3
  have hz4 : w.heap.size + 1 < w4.heap.size := by have := hbx4.size; omega
  go_wp2_with fail
  refine bodyPost_ret (v := .tuple #[.agg #[.slice A4 n4 c4, .slice B4 m4 d4], .int .i64 code]) (by simp [results, Tryd.results13, go_sem, t0, t1]) rfl ?_
  have t1' := (World.cell?_setCell_other w4 ⟨w.heap.size + 1, 0, none⟩ ⟨w.heap.size + 1, 1, none⟩ (.slice A4 n4 c4) (by simp)).trans t1
  exact ⟨A4, n4, c4, B4, m4, d4, s4, l4, code, rfl, ⟨(ha4.set t0 (by simp) _).set t1' (by simp) _, (hb4.set t0 (by simp) _).set t1' (by simp) _, hnc4, hmd4⟩, HN4,
    ((hbw.trans (hbx4.mono hbw.size)).setCell (p := ⟨w.heap.size + 1, 0, none⟩) (by show w.heap.size ≤ w.heap.size + 1; omega) _).setCell (p := ⟨w.heap.size + 1, 1, none⟩) (by show w.heap.size ≤ w.heap.size + 1; omega) _⟩

theorem Ahead_any (P A B : Option Addr) (p q n c m d : Nat) (xs s l : List Int) (w : World) (hp : Ints w P p xs) (ha : Ints w A n s) (hb : Ints w B m l) (hpn : p ≤ 1000) (h1 : n + m ≤ 100000) (hmd : m ≤ d) :
    Calls Tryd.prog 13 #[.slice P p q, .agg #[.slice A n c, .slice B m d]] w fun e w' => ResF w w' (validB 6 s l && lettersB 64 xs) (at_ (xs ++ s) l) e := by
  cases hv : (validB 6 s l && lettersB 64 xs)
  · have := Ahead_bad P A B p q n c m d xs s l (at_ (xs ++ s) l) w hp ha hb hpn h1 hv
    rw [hv] at this
    exact this
  · rw [Bool.and_eq_true] at hv
    exact Ahead_good P A B p q n c m d xs s l w hp ha hb hpn hmd hv.1 hv.2

end Go.Proofs.YteidikkeoaolgaaDoor.Wd
