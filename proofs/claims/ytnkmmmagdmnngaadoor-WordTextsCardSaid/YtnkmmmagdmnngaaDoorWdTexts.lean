/-
  WordTexts of lodesmanlaw01: the walk.
-/
import Derived.Test.YtnkmmmagdmnngaaDoorWdRefParse
import Derived.Test.YtnkmmmagdmnngaaDoorWdDigits
import Derived.Test.YtnkmmmagdmnngaaDoorWdForms
namespace Go.Proofs.YtnkmmmagdmnngaaDoor.Wd
open Go.RowKit
set_option linter.unusedVariables false

set_option maxRecDepth 100000 in
set_option maxHeartbeats 1000000 in
theorem texts_many (A B : Option Addr) (n c m d : Nat) (t : ByteArray) (w : World) (h1 : n ≤ 17592186044416 ∧ m ≤ 17592186044416) (hf : ¬ n + m ≤ 300) :
    Calls Tryd.prog 5 #[.agg #[.slice A n c, .slice B m d], .string t] w fun e w' => e = .returned (.bool true) ∧ Below w.heap.size w w' := by
  have HF := Lib.hid (show decide (n + m ≤ 300) = false by simp; omega)
  have H1 := Lib.hid h1
  clear h1 hf
  go_enter Tryd.func5, Tryd.ntmps5
  go_wp2_with fail
  refine (few_one A B n c m d 300 (w.heap.size + 1) (w.alloc (.cells #[.slice A n c, .slice B m d] 24)) _ (by simp) H1.out (by omega)).mono ?_
  rintro e w1 ⟨rfl, hb1⟩
  rw [HF.out]
  have hw1 : Below w.heap.size w w1 := ((Below.refl _ _).alloc (Nat.le_refl _) _).trans (hb1.mono (by simp))
  clear hb1
  go_wp2_with fail
  refine (awake_any _).mono ?_
  rintro e w2 ⟨rfl, hb2⟩
  go_wp2_with fail
  go_ret
  exact ⟨rfl, hw1.trans (hb2.mono hw1.size)⟩

set_option maxRecDepth 100000 in
set_option maxHeartbeats 1000000 in
theorem texts_long (A B : Option Addr) (n c m d : Nat) (t : ByteArray) (w : World) (hf : n + m ≤ 300) (ht : 20000 < t.size) (hmax : t.size ≤ maxLen) :
    Calls Tryd.prog 5 #[.agg #[.slice A n c, .slice B m d], .string t] w fun e w' => e = .returned (.bool true) ∧ Below w.heap.size w w' := by
  have HF := Lib.hid (show decide (n + m ≤ 300) = true by simp; omega)
  have H1 : Hid (n ≤ 17592186044416 ∧ m ≤ 17592186044416) := ⟨by omega, by omega⟩
  have htt : decide ((20000 : Int) < (t.size : Int)) = true := by simp; omega
  unfold maxLen at hmax
  clear hf
  go_enter Tryd.func5, Tryd.ntmps5
  go_wp2_with fail
  refine (few_one A B n c m d 300 (w.heap.size + 1) (w.alloc (.cells #[.slice A n c, .slice B m d] 24)) _ (by simp) H1.out (by omega)).mono ?_
  rintro e w1 ⟨rfl, hb1⟩
  rw [HF.out]
  have hw1 : Below w.heap.size w w1 := ((Below.refl _ _).alloc (Nat.le_refl _) _).trans (hb1.mono (by simp))
  clear hb1
  go_wp2_with fail
  refine (awake_any _).mono ?_
  rintro e w2 ⟨rfl, hb2⟩
  go_wp2_with fail
  go_ret
  exact ⟨rfl, hw1.trans (hb2.mono hw1.size)⟩

set_option maxRecDepth 100000 in
set_option maxHeartbeats 4000000 in
theorem texts_few (A B : Option Addr) (n c m d : Nat) (s l : List Int) (t : ByteArray) (w : World) (ha : Ints w A n s) (hb : Ints w B m l) (hnc : n ≤ c) (hmd : m ≤ d) (hf : n + m ≤ 300) (ht : t.size ≤ 20000) :
    Calls Tryd.prog 5 #[.agg #[.slice A n c, .slice B m d], .string t] w fun e w' => e = .returned (.bool true) ∧ Below w.heap.size w w' := by
  have HF := Lib.hid (show decide (n + m ≤ 300) = true by simp; omega)
  have H1 : Hid (n ≤ 17592186044416 ∧ m ≤ 17592186044416) := ⟨by omega, by omega⟩
  obtain ⟨tx, code, hcode, htxs, hround, hP, hR⟩ : ∃ (tx : ByteArray) (code : Int), ((code = 1 ∧ tx = ⟨#[]⟩) ∨ (code = 0)) ∧ tx.size ≤ 20000 ∧ (code = 0 → tx.data.toList.length ≤ 16384 ∧ parsed 1000 tx.data.toList = some (s, l)) ∧
      (∀ W, Below w.heap.size w W → Calls Tryd.prog 34 #[.agg #[.slice A n c, .slice B m d]] W fun e w' => e = .returned (.tuple #[.string tx, .int .i64 code]) ∧ Below W.heap.size W w') ∧
      (∀ W, Below w.heap.size w W → Calls Tryd.prog 35 #[.agg #[.slice A n c, .slice B m d]] W fun e w' => e = .returned (.tuple #[.string tx, .int .i64 code]) ∧ Below W.heap.size W w') := by
    cases hv : validB 6 s l
    · exact ⟨⟨#[]⟩, 1, .inl ⟨rfl, rfl⟩, by show 0 ≤ _; omega, (fun h => by cases h), fun W hW => Print_bad A B n c m d s l W (ha.below hW) (hb.below hW) (by omega) (by omega) hv, fun W hW => refPrint_bad A B n c m d s l W (ha.below hW) (hb.below hW) (by omega) (by omega) hv⟩
    · have h1 := lettersText_length (small_of_valid hv).1
      have h2 := lettersText_length (small_of_valid hv).2
      have hx := ha.1
      have hy := hb.1
      have hlen : (wordText s l).length ≤ 2000 := by simp [wordText]; omega
      refine ⟨⟨(wordText s l).toArray⟩, 0, .inr rfl, by rw [text_size]; omega, fun _ => ⟨?_, ?_⟩, fun W hW => Print_good A B n c m d s l W (ha.below hW) (hb.below hW) (by omega) (by omega) hv, fun W hW => refPrint_good A B n c m d s l W (ha.below hW) (hb.below hW) (by omega) (by omega) hv⟩
      · show (wordText s l).toArray.toList.length ≤ _; simp; omega
      · show parsed 1000 (wordText s l).toArray.toList = _
        rw [List.toList_toArray]
        exact parsed_round 1000 (by omega) hv
  have HP := Lib.hid hP
  have HR := Lib.hid hR
  have HRO := Lib.hid hround
  have HPa := Lib.hid (fun W => Parse_any t W ht)
  have HRa := Lib.hid (fun W => refParse_any t W ht)
  have HPx := Lib.hid (fun W => Parse_any tx W htxs)
  have HWo := Lib.hid (fun W (hW : Below w.heap.size w W) => (show IsWord W (.agg #[.slice A n c, .slice B m d]) s l from ⟨A, n, c, B, m, d, rfl, ha.below hW, hb.below hW, hnc, hmd⟩))
  have HLN := Lib.hid (show s.length ≤ 100000 ∧ l.length ≤ 100000 by have := ha.1; have := hb.1; omega)
  have HCO := Lib.hid hcode
  clear hP hR hround ha hb hnc hmd hf htxs hcode
  go_enter Tryd.func5, Tryd.ntmps5
  go_wp2_with fail
  refine (few_one A B n c m d 300 (w.heap.size + 1) (w.alloc (.cells #[.slice A n c, .slice B m d] 24)) _ (by simp) H1.out (by omega)).mono ?_
  rintro e w1 ⟨rfl, hb1⟩
  rw [HF.out]
  have HB1 := Lib.hid (show Below w.heap.size w w1 from ((Below.refl _ _).alloc (Nat.le_refl _) _).trans (hb1.mono (by simp)))
  have HC1 := Lib.hid ((Cells.box (L := []) (W := w) (fun p hp => by cases hp) (.slice A n c) (.slice B m d) 24).below hb1)
  clear hb1
  have p0 := HC1.out.head
  have p1 := HC1.out.tail.head
  have hz := HC1.out.lt
  simp only at hz
  go_wp2_with fail
  refine (HP.out _ HB1.out).mono ?_
  rintro e w2 ⟨rfl, hb2⟩
  have HB2 := Lib.hid (HB1.out.trans (hb2.mono HB1.out.size))
  have HC2 := Lib.hid (HC1.out.below hb2)
  clear hb2 p0 p1 hz HC1
  have p0 := HC2.out.head
  have p1 := HC2.out.tail.head
  have hz := HC2.out.lt
  simp only at hz
  go_wp2_with fail
  refine (HR.out _ HB2.out).mono ?_
  rintro e w3 ⟨rfl, hb3⟩
  have HB3 := Lib.hid (HB2.out.trans (hb3.mono HB2.out.size))
  have HC3 := Lib.hid (HC2.out.below hb3)
  clear hb3 p0 p1 hz HC2
  have p0 := HC3.out.head
  have p1 := HC3.out.tail.head
  have hz := HC3.out.lt
  simp only at hz
  go_wp2_with fail
  refine (HPa.out _).mono ?_
  rintro e w4 ⟨A4, n4, c4, B4, m4, d4, s4, l4, cd, rfl, hw4, HN4, hb4⟩
  have HB4 := Lib.hid (HB3.out.trans (hb4.mono HB3.out.size))
  have HC4 := Lib.hid (HC3.out.below hb4)
  have HW4 := Lib.hid (show W4 w4 A4 n4 c4 B4 m4 d4 s4 l4 from hw4)
  clear hw4 hb4 p0 p1 hz HC3
  have p0 := HC4.out.head
  have p1 := HC4.out.tail.head
  have hz := HC4.out.lt
  simp only at hz
  go_wp2_with fail
  refine (HRa.out _).mono ?_
  rintro e w5 ⟨A5, n5, c5, B5, m5, d5, s5, l5, cd', rfl, hw5, HN5, hb5⟩
  obtain ⟨rfl, rfl, rfl⟩ := OutP.unique HN4.out.1 HN5.out.1
  have HB5 := Lib.hid ((HB4.out.alloc HB4.out.size _).trans (hb5.mono (HB4.out.alloc HB4.out.size _).size))
  have HC5 := Lib.hid ((HC4.out.box (.slice A4 n4 c4) (.slice B4 m4 d4) 24).below hb5)
  have HW4' := Lib.hid ((HW4.out.below ((Below.refl _ _).alloc (Nat.le_refl _) (.cells #[.slice A4 n4 c4, .slice B4 m4 d4] 24))).below hb5)
  have HW5 := Lib.hid (show W4 w5 A5 n5 c5 B5 m5 d5 s4 l4 from hw5)
  clear hw5 hb5 p0 p1 hz HC4 HW4
  have x0 := HC5.out.head
  have x1 := HC5.out.tail.head
  have hx := HC5.out.lt
  have p0 := HC5.out.tail.tail.head
  have p1 := HC5.out.tail.tail.tail.head
  have hz := HC5.out.tail.tail.lt
  simp only at hz hx
  go_wp2_with fail
  have hb6' : Below w5.heap.size w5 (w5.alloc (.cells #[.slice A5 n5 c5, .slice B5 m5 d5] 24)) := (Below.refl _ _).alloc (Nat.le_refl _) _
  refine (is_same A4 B4 A5 B5 n4 c4 m4 d4 n5 c5 m5 d5 s4 l4 cd _ (HW4'.out.below hb6').1 (HW4'.out.below hb6').2.1 (HW5.out.below hb6').1 (HW5.out.below hb6').2.1 HW4'.out.2.2.1 HW4'.out.2.2.2 HW5.out.2.2.1 HW5.out.2.2.2 HN4.out.2.1 HN4.out.2.2).mono ?_
  rintro e w6 ⟨rfl, hb6⟩
  have hb56 : Below w5.heap.size w5 w6 := hb6'.trans (hb6.mono hb6'.size)
  have HB6 := Lib.hid (HB5.out.trans (hb56.mono HB5.out.size))
  have HC6 := Lib.hid ((HC5.out.below hb6').below hb6)
  clear hb6 hb6' hb56 p0 p1 hz x0 x1 hx HC5
  rcases HCO.out with ⟨rfl, rfl⟩ | rfl
  · go_wp2_with fail
    refine (awake_any _).mono ?_
    rintro e w7 ⟨rfl, hb7⟩
    go_wp2_with fail
    go_ret
    exact ⟨rfl, HB6.out.trans (hb7.mono HB6.out.size)⟩
  · have p0 := HC6.out.tail.tail.head
    have p1 := HC6.out.tail.tail.tail.head
    have hz := HC6.out.tail.tail.lt
    simp only at hz
    go_wp2_with fail
    refine (HPx.out _).mono ?_
    rintro e w7 ⟨A7, n7, c7, B7, m7, d7, s7, l7, cd7, rfl, hw7, HN7, hb7⟩
    obtain ⟨rfl, rfl, rfl⟩ := OutP.unique HN7.out.1 (.inr ⟨(HRO.out (by first | rfl | trivial)).1, .inl ⟨(HRO.out (by first | rfl | trivial)).2, rfl⟩⟩)
    have HB7 := Lib.hid (HB6.out.trans (hb7.mono HB6.out.size))
    have HC7 := Lib.hid (HC6.out.below hb7)
    have HW7 := Lib.hid (show W4 w7 A7 n7 c7 B7 m7 d7 s7 l7 from hw7)
    clear hw7 hb7 p0 p1 hz HC6
    have p0 := HC7.out.tail.tail.head
    have p1 := HC7.out.tail.tail.tail.head
    have hz := HC7.out.tail.tail.lt
    simp only at hz
    go_wp2_with fail
    have hb8' : Below w7.heap.size w7 (w7.alloc (.cells #[.slice A7 n7 c7, .slice B7 m7 d7] 24)) := (Below.refl _ _).alloc (Nat.le_refl _) _
    have HX7 := Lib.hid (HW7.out.below hb8')
    have HB7' := Lib.hid (HB7.out.trans (hb8'.mono HB7.out.size))
    refine (written_each _ _ s7 l7 _ ⟨A7, n7, c7, B7, m7, d7, rfl, HX7.out.1, HX7.out.2.1, HX7.out.2.2.1, HX7.out.2.2.2⟩ (HWo.out _ HB7'.out) HLN.out.1 HLN.out.2).mono ?_
    rintro e w8 ⟨rfl, hb8⟩
    have HB8 := Lib.hid (HB7'.out.trans (hb8.mono HB7'.out.size))
    clear hb8 hb8'
    go_wp2_with fail
    refine (awake_any _).mono ?_
    rintro e w9 ⟨rfl, hb9⟩
    go_wp2_with fail
    go_ret
    exact ⟨rfl, HB8.out.trans (hb9.mono HB8.out.size)⟩

end Go.Proofs.YtnkmmmagdmnngaaDoor.Wd
