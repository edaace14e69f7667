/-
  WordJoins of lodesmanlaw01: the walk.
-/
import Derived.Test.YteidikkeoaolgaaDoorWdRefSplit2
import Derived.Test.YteidikkeoaolgaaDoorWdRefSame
import Derived.Test.YteidikkeoaolgaaDoorWdRefAhead
import Derived.Test.YteidikkeoaolgaaDoorWdLeast
namespace Go.Proofs.YteidikkeoaolgaaDoor.Wd
open Go.RowKit
set_option linter.unusedVariables false

theorem refSplit_any (A B : Option Addr) (n c m d : Nat) (s l : List Int) (k : Int) (w : World) (ha : Ints w A n s) (hb : Ints w B m l) (hnc : n ≤ c) (hmd : m ≤ d) (h1 : n + m ≤ 100000) :
    Calls Tryd.prog 18 #[.agg #[.slice A n c, .slice B m d], .int .i64 k] w fun e w' => Res2 w w' (okS (validB 6 s l) k) (lowF s l k.toNat) (highF s l k.toNat) (codeS (validB 6 s l) k) e := by
  by_cases hbad : validB 6 s l = false ∨ k < 0 ∨ 6 < k
  · exact refSplit_early A B n c m d s l k _ _ w ha hb h1 hbad
  · have hv : validB 6 s l = true := by cases h : validB 6 s l; exact absurd (.inl h) hbad; rfl
    obtain ⟨j, rfl⟩ := Int.eq_ofNat_of_zero_le (show 0 ≤ k by omega)
    have e1 : okS (validB 6 s l) j = true := by rw [hv]; simp [okS]; omega
    have e2 : codeS (validB 6 s l) j = 0 := by rw [hv]; unfold codeS; rw [if_neg (by simp), if_neg (by omega)]
    rw [e1, e2]
    exact refSplit_good A B n c m d s l j w ha hb hnc hmd hv (by omega)

/-- What Same comes to. -/
def OutS (ok : Bool) (f g : Nat → Int) (r : Bool) (code : Int) : Prop := (ok = false ∧ r = false ∧ code = 1) ∨ (ok = true ∧ (r = true ↔ f = g) ∧ code = 0)
theorem OutS.unique {ok : Bool} {f g : Nat → Int} {r r' : Bool} {c c' : Int} (h : OutS ok f g r c) (h' : OutS ok f g r' c') : r = r' ∧ c = c' := by
  rcases h with ⟨e, rfl, rfl⟩ | ⟨e, h, rfl⟩ <;> rcases h' with ⟨e', rfl, rfl⟩ | ⟨e', h', rfl⟩
  · exact ⟨rfl, rfl⟩
  · rw [e] at e'; cases e'
  · rw [e] at e'; cases e'
  · exact ⟨by rw [Bool.eq_iff_iff, h, h'], rfl⟩
def ResS (w w' : World) (ok : Bool) (f g : Nat → Int) (e : Ending) : Prop := ∃ (r : Bool) (code : Int), e = .returned (.tuple #[.bool r, .int .i64 code]) ∧ Hid (OutS ok f g r code) ∧ Below w.heap.size w w'
theorem Same_any (A B A' B' : Option Addr) (n c m d n' c' m' d' : Nat) (s l s' l' : List Int) (w : World) (ha : Ints w A n s) (hb : Ints w B m l) (ha' : Ints w A' n' s') (hb' : Ints w B' m' l') (hnc : n ≤ c) (hmd : m ≤ d) (hnc' : n' ≤ c') (hmd' : m' ≤ d') (h1 : n + m ≤ 100000) (h1' : n' + m' ≤ 100000) :
    Calls Tryd.prog 11 #[.agg #[.slice A n c, .slice B m d], .agg #[.slice A' n' c', .slice B' m' d']] w fun e w' => ResS w w' (validB 6 s l && validB 6 s' l') (at_ s l) (at_ s' l') e := by
  have e1 := ha.1
  have e2 := hb.1
  have e3 := ha'.1
  have e4 := hb'.1
  by_cases hv : validB 6 s l = true ∧ validB 6 s' l' = true
  · refine (Same_good _ _ s l s' l' w ⟨A, n, c, B, m, d, rfl, ha, hb, hnc, hmd⟩ ⟨A', n', c', B', m', d', rfl, ha', hb', hnc', hmd'⟩ (by omega) (by omega) hv.1 hv.2).mono ?_
    rintro e w' ⟨r, rfl, hr, hbel⟩
    exact ⟨r, 0, rfl, .inr ⟨by rw [hv.1, hv.2]; rfl, hr.out, rfl⟩, hbel⟩
  · refine (Same_bad _ _ s l s' l' w ⟨A, n, c, B, m, d, rfl, ha, hb, hnc, hmd⟩ ⟨A', n', c', B', m', d', rfl, ha', hb', hnc', hmd'⟩ (by omega) (by omega) hv).mono ?_
    rintro e w' ⟨rfl, hbel⟩
    exact ⟨false, 1, rfl, .inl ⟨by rw [Bool.eq_false_iff, ne_eq, Bool.and_eq_true]; exact hv, rfl, rfl⟩, hbel⟩

set_option maxRecDepth 100000 in
set_option maxHeartbeats 1000000 in
/-- Where a word or the list is too long. -/
theorem joins_many (A B A' B' Pl : Option Addr) (n c m d n' c' m' d' p q : Nat) (x j : Int) (w : World) (h1 : n ≤ 17592186044416 ∧ m ≤ 17592186044416) (h2 : n' ≤ 17592186044416 ∧ m' ≤ 17592186044416) (hp : p ≤ 17592186044416) (hf : ¬ ((n + m ≤ 300 ∧ n' + m' ≤ 300) ∧ p ≤ 1000)) :
    Calls Tryd.prog 3 #[.agg #[.slice A n c, .slice B m d], .agg #[.slice A' n' c', .slice B' m' d'], .slice Pl p q, .int .i64 x, .int .i64 j] w fun e w' => e = .returned (.bool true) ∧ Below w.heap.size w w' := by
  have H1 := Lib.hid h1
  have H2 := Lib.hid h2
  clear h1 h2
  by_cases hw : n + m ≤ 300 ∧ n' + m' ≤ 300
  · have HF := Lib.hid (show (decide (n + m ≤ 300) && decide (n' + m' ≤ 300)) = true by simp; omega)
    have hpl : (1000 : Int) < (p : Int) := by omega
    have hpl2 : decide ((1000 : Int) < (p : Int)) = true := by simpa using hpl
    clear hf hw
    go_enter Tryd.func3, Tryd.ntmps3
    go_wp2_with fail
    refine (few_two A B A' B' n c m d n' c' m' d' 300 (w.heap.size + 1 + 1) ((w.alloc (.cells #[.slice A n c, .slice B m d] 24)).alloc (.cells #[.slice A' n' c', .slice B' m' d'] 24)) _ (by simp) H1.out H2.out (by omega)).mono ?_
    rintro e w1 ⟨rfl, hb1⟩
    rw [HF.out]
    have hw1 : Below w.heap.size w w1 := (((Below.refl _ _).alloc (Nat.le_refl _) _).alloc (by simp) _).trans (hb1.mono (by simp; omega))
    clear hb1
    go_wp2_with fail
    refine (awake_any _).mono ?_
    rintro e w2 ⟨rfl, hb2⟩
    go_wp2_with fail
    go_ret
    exact ⟨rfl, hw1.trans (hb2.mono hw1.size)⟩
  · have HF := Lib.hid (show (decide (n + m ≤ 300) && decide (n' + m' ≤ 300)) = false by simp; omega)
    clear hf hw
    go_enter Tryd.func3, Tryd.ntmps3
    go_wp2_with fail
    refine (few_two A B A' B' n c m d n' c' m' d' 300 (w.heap.size + 1 + 1) ((w.alloc (.cells #[.slice A n c, .slice B m d] 24)).alloc (.cells #[.slice A' n' c', .slice B' m' d'] 24)) _ (by simp) H1.out H2.out (by omega)).mono ?_
    rintro e w1 ⟨rfl, hb1⟩
    rw [HF.out]
    have hw1 : Below w.heap.size w w1 := (((Below.refl _ _).alloc (Nat.le_refl _) _).alloc (by simp) _).trans (hb1.mono (by simp; omega))
    clear hb1
    go_wp2_with fail
    refine (awake_any _).mono ?_
    rintro e w2 ⟨rfl, hb2⟩
    go_wp2_with fail
    go_ret
    exact ⟨rfl, hw1.trans (hb2.mono hw1.size)⟩

theorem cells4 {w w1 : World} {a b c d : Value} {t t' : TypeId} (hb : Below ((w.alloc (.cells #[a, b] t)).alloc (.cells #[c, d] t')).heap.size ((w.alloc (.cells #[a, b] t)).alloc (.cells #[c, d] t')) w1) :
    Cells w1 [(⟨w.heap.size, 0, none⟩, a), (⟨w.heap.size, 1, none⟩, b), (⟨w.heap.size + 1, 0, none⟩, c), (⟨w.heap.size + 1, 1, none⟩, d)] := by
  obtain ⟨⟨x0, x1, y0, y1⟩, _, hz⟩ := boxes hb
  intro p hp
  simp only [List.mem_cons, List.not_mem_nil, or_false] at hp
  rcases hp with rfl | rfl | rfl | rfl
  · exact ⟨by show w.heap.size < _; omega, x0⟩
  · exact ⟨by show w.heap.size < _; omega, x1⟩
  · exact ⟨by show w.heap.size + 1 < _; omega, y0⟩
  · exact ⟨by show w.heap.size + 1 < _; omega, y1⟩
theorem Cells.box2 {W : World} {L : List (Addr × Value)} (h : Cells W L) (x y x' y' : Value) (t : TypeId) :
    Cells ((W.alloc (.cells #[x, y] t)).alloc (.cells #[x', y'] t)) ((⟨W.heap.size + 1, 0, none⟩, x') :: (⟨W.heap.size + 1, 1, none⟩, y') :: (⟨W.heap.size, 0, none⟩, x) :: (⟨W.heap.size, 1, none⟩, y) :: L) := by
  have := (h.box x y t).box x' y' t
  simpa using this

set_option maxRecDepth 100000 in
set_option maxHeartbeats 8000000 in
theorem joins_few (A B A' B' Pl : Option Addr) (n c m d n' c' m' d' p q : Nat) (s l s' l' xs : List Int) (x j : Int) (w : World) (ha : Ints w A n s) (hb : Ints w B m l) (ha' : Ints w A' n' s') (hb' : Ints w B' m' l') (hp : Ints w Pl p xs) (hnc : n ≤ c) (hmd : m ≤ d) (hnc' : n' ≤ c') (hmd' : m' ≤ d')
    (hf : n + m ≤ 300) (hf' : n' + m' ≤ 300) (hpn : p ≤ 1000) (hx : -9223372036854775808 ≤ x ∧ x ≤ 9223372036854775807) (hj : -9223372036854775808 ≤ j ∧ j ≤ 9223372036854775807) :
    Calls Tryd.prog 3 #[.agg #[.slice A n c, .slice B m d], .agg #[.slice A' n' c', .slice B' m' d'], .slice Pl p q, .int .i64 x, .int .i64 j] w fun e w' => e = .returned (.bool true) ∧ Below w.heap.size w w' := by
  have HF := Lib.hid (show (decide (n + m ≤ 300) && decide (n' + m' ≤ 300)) = true by simp; omega)
  have H1 : Hid (n ≤ 17592186044416 ∧ m ≤ 17592186044416) := ⟨by omega, by omega⟩
  have H2 : Hid (n' ≤ 17592186044416 ∧ m' ≤ 17592186044416) := ⟨by omega, by omega⟩
  have HSa := Lib.hid (fun W (hW : Below w.heap.size w W) => Same_any A B A' B' n c m d n' c' m' d' s l s' l' W (ha.below hW) (hb.below hW) (ha'.below hW) (hb'.below hW) hnc hmd hnc' hmd' (by omega) (by omega))
  have HRs := Lib.hid (fun W (hW : Below w.heap.size w W) => refSame_any A B A' B' n c m d n' c' m' d' s l s' l' W (ha.below hW) (hb.below hW) (ha'.below hW) (hb'.below hW) hnc hmd hnc' hmd' (by omega) (by omega))
  have HAh := Lib.hid (fun W (hW : Below w.heap.size w W) => Ahead_any Pl A B p q n c m d xs s l W (hp.below hW) (ha.below hW) (hb.below hW) hpn (by omega) hmd)
  have HRh := Lib.hid (fun W (hW : Below w.heap.size w W) => refAhead_any Pl A B p q n c m d xs s l W (hp.below hW) (ha.below hW) (hb.below hW) hpn (by omega) hmd)
  have HMi := Lib.hid (fun W (hW : Below w.heap.size w W) => Mix_any A B A' B' n c m d n' c' m' d' s l s' l' x j W (ha.below hW) (hb.below hW) (ha'.below hW) (hb'.below hW) (by omega) (by omega) hx hj)
  have HRm := Lib.hid (fun W (hW : Below w.heap.size w W) => refMix_any A B A' B' n c m d n' c' m' d' s l s' l' x j W (ha.below hW) (hb.below hW) (ha'.below hW) (hb'.below hW) hnc hmd hnc' hmd' (by omega) (by omega))
  have HSp := Lib.hid (fun W (hW : Below w.heap.size w W) => Split_any A B n c m d s l x W (ha.below hW) (hb.below hW) (by omega))
  have HRp := Lib.hid (fun W (hW : Below w.heap.size w W) => refSplit_any A B n c m d s l x W (ha.below hW) (hb.below hW) hnc hmd (by omega))
  have hpl : decide ((1000 : Int) < (p : Int)) = false := by simp; omega
  have hpl2 : (p : Int) ≤ 1000 := by omega
  clear ha hb ha' hb' hp hnc hmd hnc' hmd' hf hf' hpn hx hj
  generalize okS (validB 6 s l) x = okp at *
  generalize codeS (validB 6 s l) x = codep at *
  generalize lowF s l x.toNat = fl at *
  generalize highF s l x.toNat = fh at *
  generalize mixF s l s' l' x.toNat = fm at *
  generalize (validB x s l && validB j s' l') = okm at *
  generalize (validB 6 s l && validB 6 s' l') = oks at *
  generalize (validB 6 s l && lettersB 64 xs) = oka at *
  generalize at_ (xs ++ s) l = fa at *
  generalize at_ s l = fs at *
  generalize at_ s' l' = fs' at *
  generalize rngM x j = rng at *
  go_enter Tryd.func3, Tryd.ntmps3
  go_wp2_with fail
  refine (few_two A B A' B' n c m d n' c' m' d' 300 (w.heap.size + 1 + 1) ((w.alloc (.cells #[.slice A n c, .slice B m d] 24)).alloc (.cells #[.slice A' n' c', .slice B' m' d'] 24)) _ (by simp) H1.out H2.out (by omega)).mono ?_
  rintro e w1 ⟨rfl, hb1⟩
  rw [HF.out]
  have HB1 := Lib.hid (show Below w.heap.size w w1 from (((Below.refl _ _).alloc (Nat.le_refl _) _).alloc (by simp) _).trans (hb1.mono (by simp; omega)))
  have HC1 := Lib.hid (cells4 hb1)
  clear hb1
  have p0 := HC1.out.head
  have p1 := HC1.out.tail.head
  have q0 := HC1.out.tail.tail.head
  have q1 := HC1.out.tail.tail.tail.head
  have hz0 := HC1.out.lt
  have hz1 := HC1.out.tail.tail.lt
  simp only at hz0 hz1
  go_wp2_with fail
  refine (HSa.out _ HB1.out).mono ?_
  rintro e w2 ⟨r2, code2, rfl, HR2, hb2⟩
  have HB2 := Lib.hid (HB1.out.trans (hb2.mono HB1.out.size))
  have HC2 := Lib.hid (HC1.out.below hb2)
  clear hb2
  clear p0 p1 q0 q1 hz0 hz1 HC1
  have p0 := HC2.out.head
  have p1 := HC2.out.tail.head
  have q0 := HC2.out.tail.tail.head
  have q1 := HC2.out.tail.tail.tail.head
  have hz0 := HC2.out.lt
  have hz1 := HC2.out.tail.tail.lt
  simp only at hz0 hz1
  go_wp2_with fail
  refine (HRs.out _ HB2.out).mono ?_
  rintro e w3 ⟨r3, code3, rfl, HR3, hb3⟩
  have HB3 := Lib.hid (HB2.out.trans (hb3.mono HB2.out.size))
  have HC3 := Lib.hid (HC2.out.below hb3)
  clear hb3
  clear p0 p1 q0 q1 hz0 hz1 HC2
  obtain ⟨rfl, rfl⟩ := OutS.unique HR2.out HR3.out
  clear HR2 HR3
  have p0 := HC3.out.head
  have p1 := HC3.out.tail.head
  have q0 := HC3.out.tail.tail.head
  have q1 := HC3.out.tail.tail.tail.head
  have hz0 := HC3.out.lt
  have hz1 := HC3.out.tail.tail.lt
  simp only at hz0 hz1
  go_wp2_with fail
  refine (HAh.out _ HB3.out).mono ?_
  rintro e w4 ⟨A4, n4, c4, B4, m4, d4, s4, l4, code4, rfl, hw4, HN4, hb4⟩
  have HB4 := Lib.hid (HB3.out.trans (hb4.mono HB3.out.size))
  have HC4 := Lib.hid (HC3.out.below hb4)
  have HW4 := Lib.hid (show W4 w4 A4 n4 c4 B4 m4 d4 s4 l4 from hw4)
  clear hw4 hb4
  clear p0 p1 q0 q1 hz0 hz1 HC3
  have p0 := HC4.out.head
  have p1 := HC4.out.tail.head
  have q0 := HC4.out.tail.tail.head
  have q1 := HC4.out.tail.tail.tail.head
  have hz0 := HC4.out.lt
  have hz1 := HC4.out.tail.tail.lt
  simp only at hz0 hz1
  go_wp2_with fail
  refine (HRh.out _ (HB4.out.alloc HB4.out.size _)).mono ?_
  rintro e w5 ⟨A5, n5, c5, B5, m5, d5, s5, l5, code5, rfl, hw5, HN5, hb5⟩
  have HB5 := Lib.hid ((HB4.out.alloc HB4.out.size _).trans (hb5.mono (HB4.out.alloc HB4.out.size _).size))
  have HC5 := Lib.hid ((HC4.out.box (.slice A4 n4 c4) (.slice B4 m4 d4) 24).below hb5)
  have HW4 := Lib.hid ((HW4.out.below ((Below.refl _ _).alloc (Nat.le_refl _) (.cells #[.slice A4 n4 c4, .slice B4 m4 d4] 24))).below hb5)
  have HW5 := Lib.hid (show W4 w5 A5 n5 c5 B5 m5 d5 s5 l5 from hw5)
  clear hw5 hb5
  clear p0 p1 q0 q1 hz0 hz1 HC4
  have p0 := HC5.out.tail.tail.head
  have p1 := HC5.out.tail.tail.tail.head
  have q0 := HC5.out.tail.tail.tail.tail.head
  have q1 := HC5.out.tail.tail.tail.tail.tail.head
  have hz0 := HC5.out.tail.tail.lt
  have hz1 := HC5.out.tail.tail.tail.tail.lt
  simp only at hz0 hz1
  go_wp2_with fail
  refine (HMi.out _ (HB5.out.alloc HB5.out.size _)).mono ?_
  rintro e w6 ⟨A6, n6, c6, B6, m6, d6, s6, l6, code6, rfl, hw6, HN6, hb6⟩
  have HB6 := Lib.hid ((HB5.out.alloc HB5.out.size _).trans (hb6.mono (HB5.out.alloc HB5.out.size _).size))
  have HC6 := Lib.hid ((HC5.out.box (.slice A5 n5 c5) (.slice B5 m5 d5) 24).below hb6)
  have HW4 := Lib.hid ((HW4.out.below ((Below.refl _ _).alloc (Nat.le_refl _) (.cells #[.slice A5 n5 c5, .slice B5 m5 d5] 24))).below hb6)
  have HW5 := Lib.hid ((HW5.out.below ((Below.refl _ _).alloc (Nat.le_refl _) (.cells #[.slice A5 n5 c5, .slice B5 m5 d5] 24))).below hb6)
  have HW6 := Lib.hid (show W4 w6 A6 n6 c6 B6 m6 d6 s6 l6 from hw6)
  clear hw6 hb6
  clear p0 p1 q0 q1 hz0 hz1 HC5
  have p0 := HC6.out.tail.tail.tail.tail.head
  have p1 := HC6.out.tail.tail.tail.tail.tail.head
  have q0 := HC6.out.tail.tail.tail.tail.tail.tail.head
  have q1 := HC6.out.tail.tail.tail.tail.tail.tail.tail.head
  have hz0 := HC6.out.tail.tail.tail.tail.lt
  have hz1 := HC6.out.tail.tail.tail.tail.tail.tail.lt
  simp only at hz0 hz1
  go_wp2_with fail
  refine (HRm.out _ (HB6.out.alloc HB6.out.size _)).mono ?_
  rintro e w7 ⟨A7, n7, c7, B7, m7, d7, s7, l7, code7, rfl, hw7, HN7, hb7⟩
  have HB7 := Lib.hid ((HB6.out.alloc HB6.out.size _).trans (hb7.mono (HB6.out.alloc HB6.out.size _).size))
  have HC7 := Lib.hid ((HC6.out.box (.slice A6 n6 c6) (.slice B6 m6 d6) 24).below hb7)
  have HW4 := Lib.hid ((HW4.out.below ((Below.refl _ _).alloc (Nat.le_refl _) (.cells #[.slice A6 n6 c6, .slice B6 m6 d6] 24))).below hb7)
  have HW5 := Lib.hid ((HW5.out.below ((Below.refl _ _).alloc (Nat.le_refl _) (.cells #[.slice A6 n6 c6, .slice B6 m6 d6] 24))).below hb7)
  have HW6 := Lib.hid ((HW6.out.below ((Below.refl _ _).alloc (Nat.le_refl _) (.cells #[.slice A6 n6 c6, .slice B6 m6 d6] 24))).below hb7)
  have HW7 := Lib.hid (show W4 w7 A7 n7 c7 B7 m7 d7 s7 l7 from hw7)
  clear hw7 hb7
  clear p0 p1 q0 q1 hz0 hz1 HC6
  obtain ⟨rfl, rfl, rfl⟩ := Fit.unique HN4.out.1 HN5.out.1
  obtain ⟨rfl, rfl, rfl⟩ := FitM.unique HN6.out.1 HN7.out.1
  have hs4 : Hid (s4.length ≤ 100000 ∧ l4.length ≤ 100000) := HN4.out.2
  have hs6 : Hid (s6.length ≤ 100000 ∧ l6.length ≤ 100000) := HN6.out.2
  clear HN4 HN5 HN6 HN7
  have p0 := HC7.out.tail.tail.tail.tail.tail.tail.head
  have p1 := HC7.out.tail.tail.tail.tail.tail.tail.tail.head
  have q0 := HC7.out.tail.tail.tail.tail.tail.tail.tail.tail.head
  have q1 := HC7.out.tail.tail.tail.tail.tail.tail.tail.tail.tail.head
  have hz0 := HC7.out.tail.tail.tail.tail.tail.tail.lt
  have hz1 := HC7.out.tail.tail.tail.tail.tail.tail.tail.tail.lt
  simp only at hz0 hz1
  go_wp2_with fail
  refine (HSp.out _ (HB7.out.alloc HB7.out.size _)).mono ?_
  rintro e w8 ⟨A8, n8, c8, B8, m8, d8, A9, n9, c9, B9, m9, d9, s8, l8, s9, l9, rfl, hw8, hw9, HN8, hb8⟩
  have HB8 := Lib.hid ((HB7.out.alloc HB7.out.size _).trans (hb8.mono (HB7.out.alloc HB7.out.size _).size))
  have HC8 := Lib.hid ((HC7.out.box (.slice A7 n7 c7) (.slice B7 m7 d7) 24).below hb8)
  have HW4 := Lib.hid ((HW4.out.below ((Below.refl _ _).alloc (Nat.le_refl _) (.cells #[.slice A7 n7 c7, .slice B7 m7 d7] 24))).below hb8)
  have HW5 := Lib.hid ((HW5.out.below ((Below.refl _ _).alloc (Nat.le_refl _) (.cells #[.slice A7 n7 c7, .slice B7 m7 d7] 24))).below hb8)
  have HW6 := Lib.hid ((HW6.out.below ((Below.refl _ _).alloc (Nat.le_refl _) (.cells #[.slice A7 n7 c7, .slice B7 m7 d7] 24))).below hb8)
  have HW7 := Lib.hid ((HW7.out.below ((Below.refl _ _).alloc (Nat.le_refl _) (.cells #[.slice A7 n7 c7, .slice B7 m7 d7] 24))).below hb8)
  have HW8 := Lib.hid (show W4 w8 A8 n8 c8 B8 m8 d8 s8 l8 from hw8)
  have HW9 := Lib.hid (show W4 w8 A9 n9 c9 B9 m9 d9 s9 l9 from hw9)
  clear hw8 hw9 hb8
  clear p0 p1 q0 q1 hz0 hz1 HC7
  have p0 := HC8.out.tail.tail.tail.tail.tail.tail.tail.tail.head
  have p1 := HC8.out.tail.tail.tail.tail.tail.tail.tail.tail.tail.head
  have q0 := HC8.out.tail.tail.tail.tail.tail.tail.tail.tail.tail.tail.head
  have q1 := HC8.out.tail.tail.tail.tail.tail.tail.tail.tail.tail.tail.tail.head
  have hz0 := HC8.out.tail.tail.tail.tail.tail.tail.tail.tail.lt
  have hz1 := HC8.out.tail.tail.tail.tail.tail.tail.tail.tail.tail.tail.lt
  simp only at hz0 hz1
  go_wp2_with fail
  have HBL8 := Lib.hid ((HB8.out.alloc HB8.out.size (.cells #[.slice A8 n8 c8, .slice B8 m8 d8] 24)).alloc (Nat.le_trans HB8.out.size (by simp)) (.cells #[.slice A9 n9 c9, .slice B9 m9 d9] 24))
  refine (HRp.out _ HBL8.out).mono ?_
  rintro e w9 ⟨A10, n10, c10, B10, m10, d10, A11, n11, c11, B11, m11, d11, s10, l10, s11, l11, rfl, hw10, hw11, HN10, hb9⟩
  have HB9 := Lib.hid (HBL8.out.trans (hb9.mono HBL8.out.size))
  have HC9 := Lib.hid ((HC8.out.box2 (.slice A8 n8 c8) (.slice B8 m8 d8) (.slice A9 n9 c9) (.slice B9 m9 d9) 24).below hb9)
  have HW4 := Lib.hid ((HW4.out.below (((Below.refl _ _).alloc (Nat.le_refl _) (.cells #[.slice A8 n8 c8, .slice B8 m8 d8] 24)).alloc (by simp) (.cells #[.slice A9 n9 c9, .slice B9 m9 d9] 24))).below hb9)
  have HW5 := Lib.hid ((HW5.out.below (((Below.refl _ _).alloc (Nat.le_refl _) (.cells #[.slice A8 n8 c8, .slice B8 m8 d8] 24)).alloc (by simp) (.cells #[.slice A9 n9 c9, .slice B9 m9 d9] 24))).below hb9)
  have HW6 := Lib.hid ((HW6.out.below (((Below.refl _ _).alloc (Nat.le_refl _) (.cells #[.slice A8 n8 c8, .slice B8 m8 d8] 24)).alloc (by simp) (.cells #[.slice A9 n9 c9, .slice B9 m9 d9] 24))).below hb9)
  have HW7 := Lib.hid ((HW7.out.below (((Below.refl _ _).alloc (Nat.le_refl _) (.cells #[.slice A8 n8 c8, .slice B8 m8 d8] 24)).alloc (by simp) (.cells #[.slice A9 n9 c9, .slice B9 m9 d9] 24))).below hb9)
  have HW8 := Lib.hid ((HW8.out.below (((Below.refl _ _).alloc (Nat.le_refl _) (.cells #[.slice A8 n8 c8, .slice B8 m8 d8] 24)).alloc (by simp) (.cells #[.slice A9 n9 c9, .slice B9 m9 d9] 24))).below hb9)
  have HW9 := Lib.hid ((HW9.out.below (((Below.refl _ _).alloc (Nat.le_refl _) (.cells #[.slice A8 n8 c8, .slice B8 m8 d8] 24)).alloc (by simp) (.cells #[.slice A9 n9 c9, .slice B9 m9 d9] 24))).below hb9)
  have HW10 := Lib.hid (show W4 w9 A10 n10 c10 B10 m10 d10 s10 l10 from hw10)
  have HW11 := Lib.hid (show W4 w9 A11 n11 c11 B11 m11 d11 s11 l11 from hw11)
  obtain ⟨rfl, rfl⟩ := Out.unique HN8.out.1.1 HN10.out.1.1
  obtain ⟨rfl, rfl⟩ := Out.unique HN8.out.2.1 HN10.out.2.1
  have hs8 : Hid (s8.length ≤ 100000 ∧ l8.length ≤ 100000) := HN8.out.1.2
  have hs9 : Hid (s9.length ≤ 100000 ∧ l9.length ≤ 100000) := HN8.out.2.2
  clear hw10 hw11 hb9 p0 p1 q0 q1 hz0 hz1 HC8 HN8 HN10
  go_upto_region 11 with (fail)
  have HBZ := Lib.hid ((HB9.out.alloc HB9.out.size (.cells #[.slice A10 n10 c10, .slice B10 m10 d10] 24)).alloc (Nat.le_trans HB9.out.size (by simp)) (.cells #[.slice A11 n11 c11, .slice B11 m11 d11] 24))
  have HCZ := Lib.hid (HC9.out.box2 (.slice A10 n10 c10) (.slice B10 m10 d10) (.slice A11 n11 c11) (.slice B11 m11 d11) 24)
  have HW4 := Lib.hid (HW4.out.below (((Below.refl _ _).alloc (Nat.le_refl _) (.cells #[.slice A10 n10 c10, .slice B10 m10 d10] 24)).alloc (by simp) (.cells #[.slice A11 n11 c11, .slice B11 m11 d11] 24)))
  have HW5 := Lib.hid (HW5.out.below (((Below.refl _ _).alloc (Nat.le_refl _) (.cells #[.slice A10 n10 c10, .slice B10 m10 d10] 24)).alloc (by simp) (.cells #[.slice A11 n11 c11, .slice B11 m11 d11] 24)))
  have HW6 := Lib.hid (HW6.out.below (((Below.refl _ _).alloc (Nat.le_refl _) (.cells #[.slice A10 n10 c10, .slice B10 m10 d10] 24)).alloc (by simp) (.cells #[.slice A11 n11 c11, .slice B11 m11 d11] 24)))
  have HW7 := Lib.hid (HW7.out.below (((Below.refl _ _).alloc (Nat.le_refl _) (.cells #[.slice A10 n10 c10, .slice B10 m10 d10] 24)).alloc (by simp) (.cells #[.slice A11 n11 c11, .slice B11 m11 d11] 24)))
  have HW8 := Lib.hid (HW8.out.below (((Below.refl _ _).alloc (Nat.le_refl _) (.cells #[.slice A10 n10 c10, .slice B10 m10 d10] 24)).alloc (by simp) (.cells #[.slice A11 n11 c11, .slice B11 m11 d11] 24)))
  have HW9 := Lib.hid (HW9.out.below (((Below.refl _ _).alloc (Nat.le_refl _) (.cells #[.slice A10 n10 c10, .slice B10 m10 d10] 24)).alloc (by simp) (.cells #[.slice A11 n11 c11, .slice B11 m11 d11] 24)))
  have HW10 := Lib.hid (HW10.out.below (((Below.refl _ _).alloc (Nat.le_refl _) (.cells #[.slice A10 n10 c10, .slice B10 m10 d10] 24)).alloc (by simp) (.cells #[.slice A11 n11 c11, .slice B11 m11 d11] 24)))
  have HW11 := Lib.hid (HW11.out.below (((Below.refl _ _).alloc (Nat.le_refl _) (.cells #[.slice A10 n10 c10, .slice B10 m10 d10] 24)).alloc (by simp) (.cells #[.slice A11 n11 c11, .slice B11 m11 d11] 24)))
  generalize (w9.alloc (.cells #[.slice A10 n10 c10, .slice B10 m10 d10] 24)).alloc (.cells #[.slice A11 n11 c11, .slice B11 m11 d11] 24) = Z at *
  clear HC9
  have k0 := Below.refl Z.heap.size Z
  have HCc := Lib.hid (HCZ.out.below k0)
  have x0 := HCc.out.tail.tail.tail.tail.tail.tail.tail.tail.tail.tail.tail.tail.tail.tail.head
  have x1 := HCc.out.tail.tail.tail.tail.tail.tail.tail.tail.tail.tail.tail.tail.tail.tail.tail.head
  have y0 := HCc.out.tail.tail.tail.tail.tail.tail.tail.tail.tail.tail.tail.tail.head
  have y1 := HCc.out.tail.tail.tail.tail.tail.tail.tail.tail.tail.tail.tail.tail.tail.head
  go_wp2_with fail
  refine (is_same A4 B4 A5 B5 n4 c4 m4 d4 n5 c5 m5 d5 s4 l4 code4 _ (HW4.out.below k0).1 (HW4.out.below k0).2.1 (HW5.out.below k0).1 (HW5.out.below k0).2.1 HW4.out.2.2.1 HW4.out.2.2.2 HW5.out.2.2.1 HW5.out.2.2.2 hs4.out.1 hs4.out.2).mono ?_
  rintro e z1 ⟨rfl, b1⟩
  have k1 : Below Z.heap.size Z z1 := k0.trans (b1.mono k0.size)
  clear x0 x1 y0 y1 HCc b1
  have HCc := Lib.hid (HCZ.out.below k1)
  have x0 := HCc.out.tail.tail.tail.tail.tail.tail.tail.tail.tail.tail.head
  have x1 := HCc.out.tail.tail.tail.tail.tail.tail.tail.tail.tail.tail.tail.head
  have y0 := HCc.out.tail.tail.tail.tail.tail.tail.tail.tail.head
  have y1 := HCc.out.tail.tail.tail.tail.tail.tail.tail.tail.tail.head
  go_wp2_with fail
  refine (is_same A6 B6 A7 B7 n6 c6 m6 d6 n7 c7 m7 d7 s6 l6 code6 _ (HW6.out.below k1).1 (HW6.out.below k1).2.1 (HW7.out.below k1).1 (HW7.out.below k1).2.1 HW6.out.2.2.1 HW6.out.2.2.2 HW7.out.2.2.1 HW7.out.2.2.2 hs6.out.1 hs6.out.2).mono ?_
  rintro e z2 ⟨rfl, b2⟩
  have k2 : Below Z.heap.size Z z2 := k1.trans (b2.mono k1.size)
  clear x0 x1 y0 y1 HCc b2
  have HCc := Lib.hid (HCZ.out.below k2)
  have x0 := HCc.out.tail.tail.tail.tail.tail.tail.head
  have x1 := HCc.out.tail.tail.tail.tail.tail.tail.tail.head
  have y0 := HCc.out.tail.tail.head
  have y1 := HCc.out.tail.tail.tail.head
  go_wp2_with fail
  refine (is_same A8 B8 A10 B10 n8 c8 m8 d8 n10 c10 m10 d10 s8 l8 codep _ (HW8.out.below k2).1 (HW8.out.below k2).2.1 (HW10.out.below k2).1 (HW10.out.below k2).2.1 HW8.out.2.2.1 HW8.out.2.2.2 HW10.out.2.2.1 HW10.out.2.2.2 hs8.out.1 hs8.out.2).mono ?_
  rintro e z3 ⟨rfl, b3⟩
  have k3 : Below Z.heap.size Z z3 := k2.trans (b3.mono k2.size)
  clear x0 x1 y0 y1 HCc b3
  have HCc := Lib.hid (HCZ.out.below k3)
  have x0 := HCc.out.tail.tail.tail.tail.head
  have x1 := HCc.out.tail.tail.tail.tail.tail.head
  have y0 := HCc.out.head
  have y1 := HCc.out.tail.head
  go_wp2_with fail
  refine (is_same A9 B9 A11 B11 n9 c9 m9 d9 n11 c11 m11 d11 s9 l9 codep _ (HW9.out.below k3).1 (HW9.out.below k3).2.1 (HW11.out.below k3).1 (HW11.out.below k3).2.1 HW9.out.2.2.1 HW9.out.2.2.2 HW11.out.2.2.1 HW11.out.2.2.2 hs9.out.1 hs9.out.2).mono ?_
  rintro e z4 ⟨rfl, b4⟩
  have k4 : Below Z.heap.size Z z4 := k3.trans (b4.mono k3.size)
  clear x0 x1 y0 y1 HCc b4
  go_wp2_with fail
  refine (awake_any _).mono ?_
  rintro e z5 ⟨rfl, b5⟩
  have k5 : Below Z.heap.size Z z5 := k4.trans (b5.mono k4.size)
  go_wp2_with fail
  go_ret
  exact ⟨rfl, HBZ.out.trans (k5.mono HBZ.out.size)⟩

end Go.Proofs.YteidikkeoaolgaaDoor.Wd
