/-
  WordPositions of lodesmanlaw01: the walk.
-/
import Derived.Test.YtnkmmmagdmnngaaDoorWdPosKit
namespace Go.Proofs.YtnkmmmagdmnngaaDoor.Wd
open Go.RowKit
set_option linter.unusedVariables false

set_option maxRecDepth 100000 in
set_option maxHeartbeats 1000000 in
theorem pos_many (A B A' B' : Option Addr) (n c m d n' c' m' d' : Nat) (x k j : Int) (w : World) (h1 : n ≤ 17592186044416 ∧ m ≤ 17592186044416) (h2 : n' ≤ 17592186044416 ∧ m' ≤ 17592186044416) (hf : ¬ (n + m ≤ 60 ∧ n' + m' ≤ 60)) :
    Calls Tryd.prog 6 #[.agg #[.slice A n c, .slice B m d], .agg #[.slice A' n' c', .slice B' m' d'], .int .i64 x, .int .i64 k, .int .i64 j] w fun e w' => e = .returned (.bool true) ∧ Below w.heap.size w w' := by
  have HF := Lib.hid (show (decide (n + m ≤ 60) && decide (n' + m' ≤ 60)) = false by simp; omega)
  have H1 := Lib.hid h1
  have H2 := Lib.hid h2
  clear h1 h2 hf
  go_enter Tryd.func6, Tryd.ntmps6
  go_wp2_with fail
  refine (few_two A B A' B' n c m d n' c' m' d' 60 (w.heap.size + 1 + 1) ((w.alloc (.cells #[.slice A n c, .slice B m d] 24)).alloc (.cells #[.slice A' n' c', .slice B' m' d'] 24)) _ (by simp) H1.out H2.out (by omega)).mono ?_
  rintro e w1 ⟨rfl, hb1⟩
  rw [HF.out]
  have hw1 : Below w.heap.size w w1 := (((Below.refl _ _).alloc (Nat.le_refl _) _).alloc (by simp) _).trans (hb1.mono (by simp; omega))
  clear hb1
  go_wp2_with fail
  refine (awake_any _).mono ?_
  rintro e w2 ⟨rfl, hb2⟩
  go_wp2_with fail
  go_ret
  exact ⟨rfl, hw1.trans (hb2.mono hw1.size)⟩

set_option maxRecDepth 100000 in
set_option maxHeartbeats 2000000 in
theorem pos_out (A B A' B' : Option Addr) (n c m d n' c' m' d' : Nat) (x k j : Int) (w : World) (hf : n + m ≤ 60 ∧ n' + m' ≤ 60) (hbad : ¬ (0 ≤ j ∧ j ≤ 1099511627776 ∧ 0 ≤ k ∧ k ≤ 1099511627776)) :
    Calls Tryd.prog 6 #[.agg #[.slice A n c, .slice B m d], .agg #[.slice A' n' c', .slice B' m' d'], .int .i64 x, .int .i64 k, .int .i64 j] w fun e w' => e = .returned (.bool true) ∧ Below w.heap.size w w' := by
  have HF := Lib.hid (show (decide (n + m ≤ 60) && decide (n' + m' ≤ 60)) = true by simp; omega)
  have H1 : Hid (n ≤ 17592186044416 ∧ m ≤ 17592186044416) := ⟨by omega, by omega⟩
  have H2 : Hid (n' ≤ 17592186044416 ∧ m' ≤ 17592186044416) := ⟨by omega, by omega⟩
  have hcase : j < 0 ∨ (0 ≤ j ∧ 1099511627776 < j) ∨ (0 ≤ j ∧ j ≤ 1099511627776 ∧ k < 0) ∨ (0 ≤ j ∧ j ≤ 1099511627776 ∧ 0 ≤ k ∧ 1099511627776 < k) := by omega
  clear hf hbad
  rcases hcase with h | ⟨h, h3⟩ | ⟨h, h3, h4⟩ | ⟨h, h3, h4, h5⟩
  all_goals
    go_enter Tryd.func6, Tryd.ntmps6
    go_wp2_with fail
    refine (few_two A B A' B' n c m d n' c' m' d' 60 (w.heap.size + 1 + 1) ((w.alloc (.cells #[.slice A n c, .slice B m d] 24)).alloc (.cells #[.slice A' n' c', .slice B' m' d'] 24)) _ (by simp) H1.out H2.out (by omega)).mono ?_
    rintro e w1 ⟨rfl, hb1⟩
    rw [HF.out]
    have hw1 : Below w.heap.size w w1 := (((Below.refl _ _).alloc (Nat.le_refl _) _).alloc (by simp) _).trans (hb1.mono (by simp; omega))
    clear hb1
    go_wp2_with fail
    refine (awake_any _).mono ?_
    rintro e w2 ⟨rfl, hb2⟩
    go_wp2_with fail
    go_ret
    exact ⟨rfl, hw1.trans (hb2.mono hw1.size)⟩

theorem cells_two {w w1 : World} {a b c d : Value} {t t' : TypeId} (hb : Below ((w.alloc (.cells #[a, b] t)).alloc (.cells #[c, d] t')).heap.size ((w.alloc (.cells #[a, b] t)).alloc (.cells #[c, d] t')) w1) :
    Cells w1 [(⟨w.heap.size, 0, none⟩, a), (⟨w.heap.size, 1, none⟩, b), (⟨w.heap.size + 1, 0, none⟩, c), (⟨w.heap.size + 1, 1, none⟩, d)] := by
  obtain ⟨⟨x0, x1, y0, y1⟩, _, hz⟩ := boxes hb
  intro p hp
  simp only [List.mem_cons, List.not_mem_nil, or_false] at hp
  rcases hp with rfl | rfl | rfl | rfl
  · exact ⟨by show w.heap.size < _; omega, x0⟩
  · exact ⟨by show w.heap.size < _; omega, x1⟩
  · exact ⟨by show w.heap.size + 1 < _; omega, y0⟩
  · exact ⟨by show w.heap.size + 1 < _; omega, y1⟩

set_option maxRecDepth 100000 in
set_option maxHeartbeats 2000000 in
theorem pos_invalid (A B A' B' : Option Addr) (n c m d n' c' m' d' : Nat) (s l : List Int) (x : Int) (k j : Nat) (w : World) (ha : Ints w A n s) (hb : Ints w B m l) (hf : n + m ≤ 60 ∧ n' + m' ≤ 60) (hj : j ≤ 1099511627776) (hk : k ≤ 1099511627776) (hv : validB 6 s l = false) :
    Calls Tryd.prog 6 #[.agg #[.slice A n c, .slice B m d], .agg #[.slice A' n' c', .slice B' m' d'], .int .i64 x, .int .i64 k, .int .i64 j] w fun e w' => e = .returned (.bool true) ∧ Below w.heap.size w w' := by
  have HF := Lib.hid (show (decide (n + m ≤ 60) && decide (n' + m' ≤ 60)) = true by simp; omega)
  have H1 : Hid (n ≤ 17592186044416 ∧ m ≤ 17592186044416) := ⟨by omega, by omega⟩
  have H2 : Hid (n' ≤ 17592186044416 ∧ m' ≤ 17592186044416) := ⟨by omega, by omega⟩
  have HAt := Lib.hid (fun W (hW : Below w.heap.size w W) => At_any A B n c m d s l j W (ha.below hW) (hb.below hW) (by omega) (by omega) (by omega))
  rw [atR_bad hv] at HAt
  clear hf ha hb hv
  go_enter Tryd.func6, Tryd.ntmps6
  go_wp2_with fail
  refine (few_two A B A' B' n c m d n' c' m' d' 60 (w.heap.size + 1 + 1) ((w.alloc (.cells #[.slice A n c, .slice B m d] 24)).alloc (.cells #[.slice A' n' c', .slice B' m' d'] 24)) _ (by simp) H1.out H2.out (by omega)).mono ?_
  rintro e w1 ⟨rfl, hb1⟩
  rw [HF.out]
  have hw1 : Below w.heap.size w w1 := (((Below.refl _ _).alloc (Nat.le_refl _) _).alloc (by simp) _).trans (hb1.mono (by simp; omega))
  have hb1' := ((Below.refl _ _).alloc (Nat.le_refl _) (.cells #[.slice A n c, .slice B m d, .slice A' n' c', .slice B' m' d'] 24) : Below ((w.alloc (.cells #[.slice A n c, .slice B m d] 24)).alloc (.cells #[.slice A' n' c', .slice B' m' d'] 24)).heap.size ((w.alloc (.cells #[.slice A n c, .slice B m d] 24)).alloc (.cells #[.slice A' n' c', .slice B' m' d'] 24)) _)
  have HC := Lib.hid (cells_two hb1)
  clear hb1 hb1'
  have p0 := HC.out.head
  have p1 := HC.out.tail.head
  have hz := HC.out.lt
  simp only at hz
  go_wp2_with fail
  refine (HAt.out _ hw1).mono ?_
  rintro e w2 ⟨rfl, hb2⟩
  have hw2 := hw1.trans (hb2.mono hw1.size)
  clear hb2
  go_wp2_with fail
  refine (awake_any _).mono ?_
  rintro e w3 ⟨rfl, hb3⟩
  go_wp2_with fail
  go_ret
  exact ⟨rfl, hw2.trans (hb3.mono hw2.size)⟩

end Go.Proofs.YtnkmmmagdmnngaaDoor.Wd
