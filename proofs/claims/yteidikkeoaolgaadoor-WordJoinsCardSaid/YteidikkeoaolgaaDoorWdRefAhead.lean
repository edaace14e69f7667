/-
  Ahead of the reference.
-/
import Derived.Test.YteidikkeoaolgaaDoorWdAhead
import Derived.Test.YteidikkeoaolgaaDoorWdRefValid
namespace Go.Proofs.YteidikkeoaolgaaDoor.Wd
open Go.RowKit
set_option linter.unusedVariables false

set_option maxRecDepth 100000 in
set_option maxHeartbeats 2000000 in
theorem refAhead_bad (P A B : Option Addr) (p q n c m d : Nat) (xs s l : List Int) (f : Nat → Int) (w : World) (ha : Ints w A n s) (hb : Ints w B m l) (h1 : n + m ≤ 100000) (hv : validB 6 s l = false) (ok : Bool) (hok : ok = false) :
    Calls Tryd.prog 14 #[.slice P p q, .agg #[.slice A n c, .slice B m d]] w fun e w' => ResF w w' ok f e := by
  have HV := Lib.hid hv
  have HBAD := Lib.hid hok
  clear hv hok
  go_enter Tryd.func14, Tryd.ntmps14
  go_wp2_with fail
  refine (is_any A B n c m d s l _ ((ha.alloc _).alloc _) ((hb.alloc _).alloc _) (by omega) (by omega)).mono ?_
  rintro e w1 ⟨rfl, hb1⟩
  rw [HV.out]
  have hbw : Below w.heap.size w w1 := (((Below.refl _ _).alloc (Nat.le_refl _) _).alloc (by simp) _).trans (hb1.mono (by simp; omega))
  obtain ⟨⟨p0, p1, q0, q1⟩, ⟨_, _, q2, q3⟩, hz⟩ := boxes hb1
  clear hb1
  go_wp2_with fail
  refine bodyPost_ret (v := .tuple #[.agg #[.slice none 0 0, .slice none 0 0], .int .i64 1]) (by simp [results, Tryd.results14, go_sem, q0, q1]) rfl ?_
  exact ResF.bad ((hbw.setCell (p := ⟨w.heap.size + 1, 0, none⟩) (by show w.heap.size ≤ w.heap.size + 1; omega) _).setCell (p := ⟨w.heap.size + 1, 1, none⟩) (by show w.heap.size ≤ w.heap.size + 1; omega) _) HBAD.out

set_option maxRecDepth 100000 in
set_option maxHeartbeats 8000000 in
theorem refAhead_good (P A B : Option Addr) (p q n c m d : Nat) (xs s l : List Int) (w : World) (hp : Ints w P p xs) (ha : Ints w A n s) (hb : Ints w B m l) (hpn : p ≤ 1000) (hmd : m ≤ d) (hv : validB 6 s l = true) :
    Calls Tryd.prog 14 #[.slice P p q, .agg #[.slice A n c, .slice B m d]] w fun e w' => ResF w w' (lettersB 64 xs) (at_ (xs ++ s) l) e := by
  obtain ⟨i0, hi, hi0, hi1, hi2⟩ := info_parts int_info
  have hl6 := valid6 hv
  have e1 := ha.1
  have e2 := hb.1
  have hn : n ≤ 200 := by omega
  have hm : m ≤ 200 := by omega
  have hm0 : 0 < m := by omega
  have HV := Lib.hid hv
  have HXL := Lib.hid hp.1
  clear hl6 e1 e2 hv
  go_enter Tryd.func14, Tryd.ntmps14
  go_wp2_with fail
  refine (is_any A B n c m d s l _ ((ha.alloc _).alloc _) ((hb.alloc _).alloc _) (by omega) (by omega)).mono ?_
  rintro e w1 ⟨rfl, hb1⟩
  rw [HV.out]
  have hbw : Below w.heap.size w w1 := (((Below.refl _ _).alloc (Nat.le_refl _) _).alloc (by simp) _).trans (hb1.mono (by simp; omega))
  obtain ⟨⟨p0, p1, q0, q1⟩, ⟨_, _, q2, q3⟩, hz⟩ := boxes hb1
  have hz0 : w.heap.size < w1.heap.size := by omega
  have HP := Lib.hid (hp.below hbw)
  have HA := Lib.hid (ha.below hbw)
  have HB := Lib.hid (hb.below hbw)
  clear hb1 hp ha hb
  go_wp2_with fail
  go_loop [14] (fun i => ∃ k : Nat, k ≤ p ∧ i = .int .i64 k ∧ Hid (lettersB 64 (xs.take k) = true)) (fun i => p - (intOf i).toNat)
  case atStart => exact ⟨0, Nat.zero_le _, rfl, by simp [Hid, lettersB]⟩
  case round =>
    obtain ⟨k, hk, rfl, HI⟩ := hrel
    by_cases hlt : k < p
    · have h := HP.out
      obtain ⟨b, off, rfl, hbB, hc⟩ := h.at_ hlt
      have hcj := hc k hlt
      have HB' := Lib.hid (fun h => lettersB_bad (b := 64) (l := xs) (k := k) (by rw [HXL.out]; exact hlt) h)
      have HT := Lib.hid (lettersB_take (b := 64) (l := xs) (k := k) (by rw [HXL.out]; exact hlt) HI.out)
      clear h hc
      generalize hx : xs.getD k 0 = x at hcj
      rw [hx] at HB' HT
      clear hx
      cases he : (decide (0 ≤ x) && decide (x < (64 : Int)))
      · have HR := Lib.hid (HB'.out (by intro h; simp [h.1, h.2] at he))
        have HE := Lib.hid he
        clear he
        go_wp2_with fail
        refine (letter_any x 6 _ (by omega)).mono ?_
        rintro e w2 ⟨rfl, rfl⟩
        rw [two_pow6, HE.out]
        go_wp2_with fail
        refine bodyPost_ret (v := .tuple #[.agg #[.slice none 0 0, .slice none 0 0], .int .i64 1]) (by simp [results, Tryd.results14, go_sem, q0, q1]) rfl ?_
        exact ResF.bad ((hbw.setCell (p := ⟨w.heap.size + 1, 0, none⟩) (by show w.heap.size ≤ w.heap.size + 1; omega) _).setCell (p := ⟨w.heap.size + 1, 1, none⟩) (by show w.heap.size ≤ w.heap.size + 1; omega) _) HR.out
      · have HN := Lib.hid (show lettersB 64 (xs.take (k + 1)) = true by rw [HT.out]; exact he)
        have HE := Lib.hid he
        clear he
        go_wp2_with fail
        refine (letter_any x 6 _ (by omega)).mono ?_
        rintro e w2 ⟨rfl, rfl⟩
        rw [two_pow6, HE.out]
        go_wp2_with fail
        go_round
        case rel => exact ⟨k + 1, by omega, by go_num, HN⟩
        case measure => simp [intOf]; omega
    · have HL := Lib.hid (show lettersB 64 xs = true by have := HI.out; rw [List.take_of_length_le (by rw [HXL.out]; omega)] at this; exact this)
      have hown0 : (w1.alloc (.cells #[] 3)).drew.ownsRow w1.heap.size 3 1 (.slice (some ⟨w1.heap.size, 0, none⟩) 0 0) 0 [] := World.ownsRow_made w1 #[] 0 (Nat.le_refl _) (Nat.zero_le _) rfl
      have hbd : Below w1.heap.size w1 (w1.alloc (.cells #[] 3)).drew := ((Below.refl w1.heap.size w1).alloc (Nat.le_refl _) (.cells #[] 3)).drew
      clear HI
      go_wp2_with fail
      go_region_held3 (fun V => V.cell? ⟨w.heap.size, 0, none⟩ = some (.slice A n c) ∧ V.cell? ⟨w.heap.size, 1, none⟩ = some (.slice B m d))
        (first
          | go_keep
          | (refine ⟨?_, ?_⟩
             · rw [hbs.cell (by simpa using hz0)]; exact p0
             · rw [hbs.cell (by simpa using hz0)]; exact p1)
          | (refine ⟨?_, ?_⟩
             · rw [hbb.cell (by simpa using hz0)]; exact p0
             · rw [hbb.cell (by simpa using hz0)]; exact p1)
          | (refine ⟨?_, ?_⟩
             · rw [hba.cell (by simpa using hz0)]; exact p0
             · rw [hba.cell (by simpa using hz0)]; exact p1))
        (first
          | (have hgo := hbb; clear hgo; go_at_call 59
             refine (short_any A2 B (p + n) k2 m d (xs ++ s) l _ HIB.out (HB.out.below hbb) (by omega) (by omega) hm0 hk3 hmd).mono ?_
             rintro e ws ⟨A4, n4, c4, B4, m4, d4, s4, l4, code, rfl, ⟨ha4, hb4, hnc4, hmd4⟩, HN4, b4⟩
             have hbs : Below w1.heap.size w1 ws := hbb.trans (b4.mono hbb.size)
             have t0 := (hbs.cell (p := ⟨w.heap.size + 1, 0, none⟩) hz).trans q0
             have t1 := (hbs.cell (p := ⟨w.heap.size + 1, 1, none⟩) hz).trans q1
             have t2 := (hbs.frozen (p := ⟨w.heap.size + 1, 0, none⟩) hz).trans q2
             have t3 := (hbs.frozen (p := ⟨w.heap.size + 1, 1, none⟩) hz).trans q3
             have hz4 : w.heap.size + 1 < ws.heap.size := by have := hbs.size; omega)
          | ((have hgo := hba; clear hgo; refine step_append_ints _ (by rfl) _ _ _ (by rfl) w1.heap.size 3 i0 _ Tryd.underlying22 hi hi0 hi1 hi2 rfl va (0 + p) ([] ++ xs.map (Value.int .i64)) (by rfl) (by exact howna) A n c s (by rfl) (by exact HA.out.below hba) (by omega) hba.size ?_; intro vb wb hownb hgrowb hatb; have hbb : Below w1.heap.size w1 wb := hba.trans (below_own howna hgrowb hba.size); have hvb := own_slice hownb; obtain ⟨A2, k2, hvb, hk2⟩ := hvb; rw [hvb]; have hob := hownb; rw [hvb, List.nil_append, ← List.map_append] at hob; have HIB0 := Ints.of_own hob; have e0 : 0 + p + n = p + n := (by omega); rw [e0] at HIB0 ⊢; have HIB := Lib.hid HIB0; have hk3 : p + n ≤ k2 := (by omega); clear hob HIB0 e0))
          | ((refine step_append_ints _ (by rfl) _ _ _ (by rfl) w1.heap.size 3 i0 _ Tryd.underlying22 hi hi0 hi1 hi2 rfl (.slice (some ⟨w1.heap.size, 0, none⟩) 0 0) 0 [] (by rfl) hown0 P p q xs (by rfl) (by exact HP.out.below hbd) (by omega) hbd.size ?_; intro va wa howna hgrowa hata; have hba : Below w1.heap.size w1 wa := hbd.trans (below_own (base := w1.heap.size) hown0 hgrowa hbd.size)))
          | fail)
      go_wp2_with fail
      refine bodyPost_ret (v := .tuple #[.agg #[.slice A4 n4 c4, .slice B4 m4 d4], .int .i64 code]) (by simp [results, Tryd.results14, go_sem, t0, t1]) rfl ?_
      have t1' := (World.cell?_setCell_other ws ⟨w.heap.size + 1, 0, none⟩ ⟨w.heap.size + 1, 1, none⟩ (.slice A4 n4 c4) (by simp)).trans t1
      have hfin : ResF w ((ws.setCell ⟨w.heap.size + 1, 0, none⟩ (.slice A4 n4 c4)).setCell ⟨w.heap.size + 1, 1, none⟩ (.slice B4 m4 d4)) true (at_ (xs ++ s) l) (.returned (.tuple #[.agg #[.slice A4 n4 c4, .slice B4 m4 d4], .int .i64 code])) :=
        ⟨A4, n4, c4, B4, m4, d4, s4, l4, code, rfl, ⟨(ha4.set t0 (by simp) _).set t1' (by simp) _, (hb4.set t0 (by simp) _).set t1' (by simp) _, hnc4, hmd4⟩, HN4,
        ((hbw.trans (hbs.mono hbw.size)).setCell (p := ⟨w.heap.size + 1, 0, none⟩) (by show w.heap.size ≤ w.heap.size + 1; omega) _).setCell (p := ⟨w.heap.size + 1, 1, none⟩) (by show w.heap.size ≤ w.heap.size + 1; omega) _⟩
      first
        | exact hfin
        | (rw [HL.out]; exact hfin)

theorem refAhead_any (P A B : Option Addr) (p q n c m d : Nat) (xs s l : List Int) (w : World) (hp : Ints w P p xs) (ha : Ints w A n s) (hb : Ints w B m l) (hpn : p ≤ 1000) (h1 : n + m ≤ 100000) (hmd : m ≤ d) :
    Calls Tryd.prog 14 #[.slice P p q, .agg #[.slice A n c, .slice B m d]] w fun e w' => ResF w w' (validB 6 s l && lettersB 64 xs) (at_ (xs ++ s) l) e := by
  cases hv : validB 6 s l
  · exact refAhead_bad P A B p q n c m d xs s l _ w ha hb h1 hv _ (by simp)
  · have := refAhead_good P A B p q n c m d xs s l w hp ha hb hpn hmd hv
    simpa using this

end Go.Proofs.YteidikkeoaolgaaDoor.Wd
