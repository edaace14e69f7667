/-
  Few of the law, for one automaton, given the reference's Valid.
  Walk of the example automaton, and awake of lodesmanlaw05: the chapter's examples hold.
  Few of lodesmanlaw01.
-/
import Derived.Test.YtfblnadmbfhjiaaW04
import Derived.Test.YtfblnadmbfhjiaaW01
namespace Go.Proofs.Ytfblnadmbfhjiaa.Wd
open Go.RowKit
set_option linter.unusedVariables false

/-- Is the automaton small? -/
def few5B (X Y Z P S K M : Int) (st : List Int) (es : List Ed) (n ne : Nat) : Bool := (decide ((ne : Int) ≤ Y) && decide ((n : Int) ≤ X + 1000)) && (!autB P S K M st es || (decide (S ≤ X) && decide (M ≤ Z)))

set_option maxRecDepth 100000 in
set_option maxHeartbeats 4000000 in
theorem few5_any (hV : RefValidOK) (X Y Z P S K M : Int) (A E : Option Addr) (n c ne ce g : Nat) (st : List Int) (es : List Ed) (w : World) (hX : 0 ≤ X) (hX2 : X ≤ 100000) (ha : Ints w A n st) (hn : n ≤ 17592186044416) (he : EdgesAt w E ne es) (hne : ne ≤ 17592186044416) (hbox : Box6 w g P S A n c K M E ne ce) :
    Calls Try.prog 8 #[.int .i64 X, .int .i64 Y, .int .i64 Z, .slice (some ⟨g, 0, none⟩) 1 1] w fun e w' => e = .returned (.bool (few5B X Y Z P S K M st es n ne)) ∧ Below w.heap.size w w' := by
  have HV := Lib.hid (fun W (hW : Below w.heap.size w W) => hV P S K M A E n c ne ce st es W (ha.below hW) hn (he.below hW) hne)
  have HX := Lib.hid (Box6.new w P S A n c K M E ne ce 25)
  obtain ⟨hz, p0, p1, p2, p3, p4, p5⟩ := hbox
  obtain ⟨vb, hvb, HVB⟩ : ∃ vb, autB P S K M st es = vb ∧ Hid (autB P S K M st es = vb) := ⟨_, rfl, rfl⟩
  rw [hvb] at HV
  have HF := Lib.hid (show few5B X Y Z P S K M st es n ne = ((decide ((ne : Int) ≤ Y) && decide ((n : Int) ≤ X + 1000)) && (!vb || (decide (S ≤ X) && decide (M ≤ Z)))) by unfold few5B; rw [hvb])
  clear hvb ha he hV
  generalize few5B X Y Z P S K M st es n ne = R at *
  have hn0 : (0 : Int) ≤ (n : Int) := by omega
  have hne0 : (0 : Int) ≤ (ne : Int) := by omega
  rcases Int.lt_or_le Y (ne : Int) with h1 | h1
  · have HR := Lib.hid (show R = false by rw [HF.out, decide_eq_false (show ¬ (ne : Int) ≤ Y by omega)]; rfl)
    go_enter Try.func8, Try.ntmps8
    go_wp2_with fail
    refine wp_loop_rounds 2 ?_
    rw [rounds_succ]
    go_wp2_with fail
    go_ret
    exact ⟨ret_bool HR.out.symm, (Below.refl _ _).alloc (Nat.le_refl _) _⟩
  rcases Int.lt_or_le (X + 1000) (n : Int) with h2 | h2
  · have HR := Lib.hid (show R = false by rw [HF.out, decide_eq_false (show ¬ (n : Int) ≤ X + 1000 by omega)]; simp)
    have h1' : ¬ Y < (ne : Int) := by omega
    go_enter Try.func8, Try.ntmps8
    go_wp2_with fail
    refine wp_loop_rounds 2 ?_
    rw [rounds_succ]
    go_wp2_with fail
    go_ret
    exact ⟨ret_bool HR.out.symm, (Below.refl _ _).alloc (Nat.le_refl _) _⟩
  rw [decide_eq_true h1, decide_eq_true h2, Bool.true_and, Bool.true_and] at HF
  have h1' : ¬ Y < (ne : Int) := by omega
  have h2' : ¬ X + 1000 < (n : Int) := by omega
  cases vb
  · have HR := Lib.hid (show R = true by rw [HF.out]; rfl)
    go_enter Try.func8, Try.ntmps8
    go_wp2_with fail
    refine wp_loop_rounds 2 ?_
    rw [rounds_succ]
    go_wp2_with fail
    refine (HV.out _ ((Below.refl _ _).alloc (Nat.le_refl _) _)).mono ?_
    rintro r w1 ⟨rfl, hb1⟩
    have HB1 := Lib.hid (boxB hb1)
    clear hb1
    go_wp2_with fail
    rw [rounds_succ]
    go_wp2_with fail
    go_ret
    exact ⟨ret_bool HR.out.symm, HB1.out⟩
  rw [show (!true) = false from rfl, Bool.false_or] at HF
  rcases Int.lt_or_le X S with h3 | h3
  · have HR := Lib.hid (show R = false by rw [HF.out, decide_eq_false (show ¬ S ≤ X by omega)]; rfl)
    go_enter Try.func8, Try.ntmps8
    go_wp2_with fail
    refine wp_loop_rounds 2 ?_
    rw [rounds_succ]
    go_wp2_with fail
    refine (HV.out _ ((Below.refl _ _).alloc (Nat.le_refl _) _)).mono ?_
    rintro r w1 ⟨rfl, hb1⟩
    obtain ⟨hz1, q0, q1, q2, q3, q4, q5⟩ := HX.out.below hb1
    have HB1 := Lib.hid (boxB hb1)
    clear hb1
    go_wp2_with fail
    go_ret
    exact ⟨ret_bool HR.out.symm, HB1.out⟩
  rw [decide_eq_true h3, Bool.true_and] at HF
  have h3' : ¬ X < S := by omega
  rcases Int.lt_or_le Z M with h4 | h4
  · have HR := Lib.hid (show R = false by rw [HF.out, decide_eq_false (show ¬ M ≤ Z by omega)])
    go_enter Try.func8, Try.ntmps8
    go_wp2_with fail
    refine wp_loop_rounds 2 ?_
    rw [rounds_succ]
    go_wp2_with fail
    refine (HV.out _ ((Below.refl _ _).alloc (Nat.le_refl _) _)).mono ?_
    rintro r w1 ⟨rfl, hb1⟩
    obtain ⟨hz1, q0, q1, q2, q3, q4, q5⟩ := HX.out.below hb1
    have HB1 := Lib.hid (boxB hb1)
    clear hb1
    go_wp2_with fail
    go_ret
    exact ⟨ret_bool HR.out.symm, HB1.out⟩
  · have HR := Lib.hid (show R = true by rw [HF.out, decide_eq_true h4])
    have h4' : ¬ Z < M := by omega
    go_enter Try.func8, Try.ntmps8
    go_wp2_with fail
    refine wp_loop_rounds 2 ?_
    rw [rounds_succ]
    go_wp2_with fail
    refine (HV.out _ ((Below.refl _ _).alloc (Nat.le_refl _) _)).mono ?_
    rintro r w1 ⟨rfl, hb1⟩
    obtain ⟨hz1, q0, q1, q2, q3, q4, q5⟩ := HX.out.below hb1
    have HB1 := Lib.hid (boxB hb1)
    clear hb1
    go_wp2_with fail
    rw [rounds_succ]
    go_wp2_with fail
    go_ret
    exact ⟨ret_bool HR.out.symm, HB1.out⟩

end Go.Proofs.Ytfblnadmbfhjiaa.Wd

namespace Go.Proofs.Ytfblnadmbfhjiaa.Wd
open Go.RowKit
set_option linter.unusedVariables false

theorem letters_01 {xs : List Int} (h : lettersB 2 xs = true) : ∀ x ∈ xs, x = 0 ∨ x = 1 := by
  intro x hx
  unfold lettersB at h
  have := List.all_eq_true.1 h x hx
  simp at this
  omega
theorem IntsN.of {r n : Nat} {w : World} {A : Option Addr} {xs : List Int} (h : Ints w A n xs) (hr : w.heap.size ≤ r) : IntsN r w A n xs := ⟨h.1, fun hn => by
  obtain ⟨b, off, e, hb, hc⟩ := h.2 hn
  exact ⟨b, off, e, ⟨hb, by omega⟩, hc⟩⟩
theorem IntsN.of_below {r n : Nat} {w w' : World} {A : Option Addr} {xs : List Int} (h : Ints w A n xs) (hr : w.heap.size ≤ r) (hb : Below w.heap.size w w') : IntsN r w' A n xs := (IntsN.of h hr).below hb

theorem CellsAt.two {w : World} {L : List (Addr × Value)} (h : CellsAt w L) (x0 x1 : Value) (t : TypeId) : CellsAt (w.alloc (.cells #[x0, x1] t)) ((⟨w.heap.size, 0, none⟩, x0) :: (⟨w.heap.size, 1, none⟩, x1) :: L) := by
  intro p hp
  rcases List.mem_cons.1 hp with rfl | hp
  · exact ⟨by simp, by rw [box_last]; rfl⟩
  rcases List.mem_cons.1 hp with rfl | hp
  · exact ⟨by simp, by rw [box_last]; rfl⟩
  · exact h.alloc _ p hp

set_option maxRecDepth 100000 in
set_option maxHeartbeats 4000000 in
theorem Walk_ag (s e : Nat) (A B : Option Addr) (n c m d : Nat) (st lp : List Int) (w : World) (h : CellsAt w (agL s e)) (ha : Ints w A n st) (hb : Ints w B m lp) (hv : validB 1 st lp = true) :
    Calls Try.prog 25 #[agV s e, .agg #[.slice A n c, .slice B m d]] w fun x w' => x = .returned (.tuple #[.int .i64 (oneL lp), .bool false, .int .i64 0]) ∧ Below w.heap.size w w' := by
  have hx := ha.1
  have hy := hb.1
  have hlen : n ≤ 200 ∧ m ≤ 200 := by
    simp only [validB, Bool.and_eq_true, decide_eq_true_eq] at hv
    omega
  have hl : lettersB 2 st = true ∧ lettersB 2 lp = true := by
    simp only [validB, Bool.and_eq_true] at hv
    exact ⟨hv.1.2, hv.2⟩
  have hn : n ≤ 100000 := by omega
  have hm : m ≤ 100000 := by omega
  have HD := Lib.hid (fun W (hW : Below w.heap.size w W) => det_ag s e W (h.below hW))
  have HVl := Lib.hid (fun W (hW : Below w.heap.size w W) => valid_any A B n c m d 1 st lp W (ha.below hW) (hb.below hW) hn hm)
  rw [hv] at HVl
  have HN := Lib.hid (fun W (hW : Below w.heap.size w W) => newWalker_ag s e W (h.below hW))
  have HWk := Lib.hid (fun W r o g k (hW : Below w.heap.size w W) (hr : w.heap.size ≤ r) (hk : Wk W r s e o g k) => walk_ag r s e o g k A B n c m d st lp W hk (IntsN.of_below ha hr hW) (IntsN.of_below hb hr hW) (letters_01 hl.1) (letters_01 hl.2) hn hm)
  have HX := Lib.hid ((bxL_new w s e 25).two (.slice A n c) (.slice B m d) 45)
  clear h ha hb hv hx hy hlen hl hn hm
  unfold agV at *
  go_enter Try.func25, Try.ntmps25
  go_wp2_with fail
  have HB0 := Lib.hid (show Below w.heap.size w ((w.alloc (.cells #[.int .i64 1, .int .i64 1, .slice (some ⟨s, 0, none⟩) 1 1, .int .i64 0, .int .i64 1, .slice (some ⟨e, 0, none⟩) 2 2] 25)).alloc (.cells #[.slice A n c, .slice B m d] 45)) from ((Below.refl _ _).alloc (Nat.le_refl _) _).alloc (by simp) _)
  refine (HD.out _ HB0.out).mono ?_
  rintro x w1 ⟨rfl, hb1⟩
  have HX1 := Lib.hid (HX.out.below hb1)
  have HB1 := Lib.hid (HB0.out.trans (hb1.mono HB0.out.size))
  have x0 : w1.cell? ⟨w.heap.size + 1, 0, none⟩ = some (.slice A n c) := by simpa using HX1.out.head
  have x1 : w1.cell? ⟨w.heap.size + 1, 1, none⟩ = some (.slice B m d) := by simpa using HX1.out.tail.head
  have hzz : w.heap.size + 1 < w1.heap.size := by simpa using HX1.out.lt
  obtain ⟨hz, p0, p1, p2, p3, p4, p5⟩ := bxL_out HX1.out.tail.tail
  clear hb1
  go_wp2_with fail
  refine (HVl.out _ HB1.out).mono ?_
  rintro x w2 ⟨rfl, hb2⟩
  have HX2 := Lib.hid (HX1.out.below hb2)
  have HB2 := Lib.hid (HB1.out.trans (hb2.mono HB1.out.size))
  clear x0 x1 hz hzz p0 p1 p2 p3 p4 p5 hb2 HX1 HB1
  have HS := Lib.hid (show ∀ V, Below w2.heap.size w2 V → (V.cell? ⟨w.heap.size + 1, 0, none⟩ = some (.slice A n c) ∧ V.cell? ⟨w.heap.size + 1, 1, none⟩ = some (.slice B m d)) ∧
      (V.cell? ⟨w.heap.size, 0, none⟩ = some (.int .i64 1) ∧ V.cell? ⟨w.heap.size, 1, none⟩ = some (.int .i64 1) ∧ V.cell? ⟨w.heap.size, 2, none⟩ = some (.slice (some ⟨s, 0, none⟩) 1 1) ∧ V.cell? ⟨w.heap.size, 3, none⟩ = some (.int .i64 0) ∧ V.cell? ⟨w.heap.size, 4, none⟩ = some (.int .i64 1) ∧ V.cell? ⟨w.heap.size, 5, none⟩ = some (.slice (some ⟨e, 0, none⟩) 2 2)) from
    fun V hV => ⟨⟨by simpa using (HX2.out.below hV).head, by simpa using (HX2.out.below hV).tail.head⟩, (bxL_out (HX2.out.below hV).tail.tail).2⟩)
  go_wp2_with fail
  go_region_held3 (fun V => (V.cell? ⟨w.heap.size + 1, 0, none⟩ = some (.slice A n c) ∧ V.cell? ⟨w.heap.size + 1, 1, none⟩ = some (.slice B m d)) ∧
      (V.cell? ⟨w.heap.size, 0, none⟩ = some (.int .i64 1) ∧ V.cell? ⟨w.heap.size, 1, none⟩ = some (.int .i64 1) ∧ V.cell? ⟨w.heap.size, 2, none⟩ = some (.slice (some ⟨s, 0, none⟩) 1 1) ∧ V.cell? ⟨w.heap.size, 3, none⟩ = some (.int .i64 0) ∧ V.cell? ⟨w.heap.size, 4, none⟩ = some (.int .i64 1) ∧ V.cell? ⟨w.heap.size, 5, none⟩ = some (.slice (some ⟨e, 0, none⟩) 2 2)))
    (first
      | exact HS.out _ k2
      | exact HS.out _ k1
      | exact HS.out _ ((Below.refl w2.heap.size w2).drew))
    (first
      | (go_at_call 50; refine (HWk.out _ r o g k (HB2.out.trans (k1.mono HB2.out.size)) (Nat.le_trans HB2.out.size hr) hk).mono ?_; rintro x z2 ⟨rfl, g2⟩; have k2 : Below w2.heap.size w2 z2 := k1.trans (grown_below g2 hr k1.size))
      | (go_at_call 49; refine (HN.out _ HB2.out.drew).mono ?_; rintro x z1 ⟨r, o, g, k, rfl, hr, hk1, hk2, b1⟩; have k1 : Below w2.heap.size w2 z1 := ((Below.refl _ _).drew).trans b1; have hk : Wk z1 r s e o g k := ⟨hk1, hk2⟩)
      | fail)
  go_wp2_with fail
  refine bodyPost_ret (v := .tuple #[.int .i64 (oneL lp), .bool false, .int .i64 0]) (by simp [results, Try.results25, go_sem]) rfl ?_
  exact ⟨rfl, HB2.out.trans (k2.mono HB2.out.size)⟩

theorem agL_of (w : World) (t1 t2 : TypeId) : CellsAt ((w.alloc (.cells #[.int .i64 0] t1)).alloc (.cells #[.int .i64 0, .int .i64 0, .int .i64 1, .int .i64 1, .int .i64 1, .int .i64 0, .int .i64 0, .int .i64 1, .int .i64 0, .int .i64 0] t2)) (agL w.heap.size (w.heap.size + 1)) := by
  have h2 : (w.alloc (.cells #[.int .i64 0] t1)).heap.size = w.heap.size + 1 := by simp
  have hl : ∀ j, ((w.alloc (.cells #[.int .i64 0] t1)).alloc (.cells #[.int .i64 0, .int .i64 0, .int .i64 1, .int .i64 1, .int .i64 1, .int .i64 0, .int .i64 0, .int .i64 1, .int .i64 0, .int .i64 0] t2)).cell? ⟨w.heap.size + 1, j, none⟩ = (#[.int .i64 0, .int .i64 0, .int .i64 1, .int .i64 1, .int .i64 1, .int .i64 0, .int .i64 0, .int .i64 1, .int .i64 0, .int .i64 0] : Array Value)[j]? := fun j => by
    rw [← h2]
    exact box_last _ _ _ _
  intro p hp
  simp only [agL, List.mem_cons, List.not_mem_nil, or_false] at hp
  rcases hp with rfl | rfl | rfl | rfl | rfl | rfl | rfl | rfl | rfl | rfl | rfl
  · exact ⟨by simp; omega, box_first _ _ _ _ 0⟩
  all_goals exact ⟨by simp, hl _⟩

set_option maxRecDepth 100000 in
set_option maxHeartbeats 4000000 in
theorem again_any (w : World) : Calls Try.prog 37 #[] w fun x w' => ∃ s e, x = .returned (agV s e) ∧ CellsAt w' (agL s e) ∧ Below w.heap.size w w' := by
  go_enter Try.func37, Try.ntmps37
  go_wp2_with fail
  refine bodyPost_ret (v := agV (w.heap.size + 1) (w.heap.size + 1 + 1)) (by simp [results, Try.results37, go_sem, agV]) rfl ?_
  refine ⟨w.heap.size + 1, w.heap.size + 1 + 1, rfl, ?_, (((Below.refl _ _).alloc (Nat.le_refl _) _).alloc (by simp) _).alloc (by simp; omega) _⟩
  have := agL_of (w.alloc (.cells #[.int .i64 1, .int .i64 1, .slice (some ⟨w.heap.size + 1, 0, none⟩) 1 1, .int .i64 0, .int .i64 1, .slice (some ⟨w.heap.size + 1 + 1, 0, none⟩) 2 2] 25)) 3 54
  rw [show (w.alloc (.cells #[.int .i64 1, .int .i64 1, .slice (some ⟨w.heap.size + 1, 0, none⟩) 1 1, .int .i64 0, .int .i64 1, .slice (some ⟨w.heap.size + 1 + 1, 0, none⟩) 2 2] 25)).heap.size = w.heap.size + 1 by simp] at this
  exact this

theorem oneL_a : oneL [0, 1] = 1 := by decide
theorem oneL_b : oneL [0] = 0 := by decide
theorem acc_a : AccR 3 4 10 true 0 := .inr (.inr (.inr ⟨by decide, by decide, by decide, by decide, rfl⟩))
theorem acc_b : AccR 4 2 2 false 0 := .inr (.inr (.inr ⟨by decide, by decide, by decide, by decide, rfl⟩))
theorem ints_of (w : World) (xs : List Int) (t : TypeId) : Ints (w.alloc (.cells (xs.map (Value.int .i64)).toArray t)) (some ⟨w.heap.size, 0, none⟩) xs.length xs :=
  ⟨rfl, fun _ => ⟨w.heap.size, 0, rfl, by simp, fun j hj => by
    rw [box_last]
    simp [List.getD_eq_getElem?_getD, List.getElem?_eq_getElem hj]⟩⟩
theorem ints_a (w : World) (t : TypeId) : Ints (w.alloc (.cells #[.int .i64 0, .int .i64 1] t)) (some ⟨w.heap.size, 0, none⟩) 2 [0, 1] := ints_of w [0, 1] t
theorem ints_b (w : World) (t : TypeId) : Ints ((w.alloc (.cells #[.int .i64 1] t)).alloc (.cells #[.int .i64 0] t)) (some ⟨w.heap.size, 0, none⟩) 1 [1] := (ints_of w [1] t).alloc _
theorem ints_c (w : World) (t : TypeId) : Ints ((w.alloc (.cells #[.int .i64 1] t)).alloc (.cells #[.int .i64 0] t)) (some ⟨w.heap.size + 1, 0, none⟩) 1 [0] := by
  have := ints_of (w.alloc (.cells #[.int .i64 1] t)) [0] t
  simpa using this

set_option maxRecDepth 100000 in
set_option maxHeartbeats 4000000 in
theorem awake5_any (w : World) : Calls Try.prog 9 #[] w fun x w' => x = .returned (.bool true) ∧ Below w.heap.size w w' := by
  go_enter Try.func9, Try.ntmps9
  go_wp2_with fail
  refine (again_any _).mono ?_
  rintro x w1 ⟨s, e, rfl, hc, hb⟩
  have HB1 := Lib.hid hb
  have HC := Lib.hid hc
  clear hb hc
  go_wp2_with fail
  refine (Walk_ag s e none (some ⟨w1.heap.size, 0, none⟩) 0 0 2 2 [] [0, 1] _ (HC.out.alloc _) Ints.none_ (ints_a w1 3) (by decide)).mono ?_
  rintro x w2 ⟨rfl, hb2⟩
  rw [oneL_a]
  have HB2 := Lib.hid ((HB1.out.alloc HB1.out.size _).trans (hb2.mono (HB1.out.alloc HB1.out.size _).size))
  clear hb2
  go_wp2_with fail
  refine (again_any _).mono ?_
  rintro x w3 ⟨s', e', rfl, hc, hb⟩
  have HB3 := Lib.hid (HB2.out.trans (hb.mono HB2.out.size))
  have HC3 := Lib.hid hc
  clear hb hc
  go_wp2_with fail
  refine (Walk_ag s' e' (some ⟨w3.heap.size, 0, none⟩) (some ⟨w3.heap.size + 1, 0, none⟩) 1 1 1 1 [1] [0] _ ((HC3.out.alloc _).alloc _) (ints_b w3 3) (ints_c w3 3) (by decide)).mono ?_
  rintro x w4 ⟨rfl, hb4⟩
  rw [oneL_b]
  have HB4 := Lib.hid (((HB3.out.alloc HB3.out.size _).alloc (Nat.le_trans HB3.out.size (by simp)) _).trans (hb4.mono ((HB3.out.alloc HB3.out.size _).alloc (Nat.le_trans HB3.out.size (by simp)) _).size))
  clear hb4
  go_wp2_with fail
  refine (accepts_any 3 4 10 _).mono ?_
  rintro x w5 ⟨r5, c5, rfl, h5, hb5⟩
  obtain ⟨rfl, rfl⟩ := h5.out.unique acc_a
  have HB5 := Lib.hid (HB4.out.trans (hb5.mono HB4.out.size))
  clear hb5 h5
  go_wp2_with fail
  refine (accepts_any 4 2 2 _).mono ?_
  rintro x w6 ⟨r6, c6, rfl, h6, hb6⟩
  obtain ⟨rfl, rfl⟩ := h6.out.unique acc_b
  have HB6 := Lib.hid (HB5.out.trans (hb6.mono HB5.out.size))
  clear hb6 h6
  go_wp2_with fail
  go_ret
  exact ⟨rfl, HB6.out⟩

end Go.Proofs.Ytfblnadmbfhjiaa.Wd

namespace Go.Proofs.Ytfblnadmbfhjiaa.Wd
open Go.RowKit
set_option linter.unusedVariables false

/-- Has each of the first k words at most most letters? -/
def fewB (most : Nat) (N M : Nat → Nat) (k : Nat) : Bool := (List.range k).all fun i => decide (N i + M i ≤ most)
theorem fewB_succ {most : Nat} {N M : Nat → Nat} {k : Nat} (h : fewB most N M k = true) (hk : N k + M k ≤ most) : fewB most N M (k + 1) = true := by
  simp only [fewB, List.all_eq_true, List.mem_range, decide_eq_true_eq] at h ⊢
  intro i hi
  rcases Nat.lt_or_ge i k with hl | hg
  · exact h i hl
  · obtain rfl : i = k := by omega
    exact hk
theorem fewB_bad {most : Nat} {N M : Nat → Nat} {k len : Nat} (hl : k < len) (hk : ¬ N k + M k ≤ most) : fewB most N M len = false := by
  rw [Bool.eq_false_iff]
  simp only [fewB, ne_eq, List.all_eq_true, List.mem_range, decide_eq_true_eq]
  intro h
  exact hk (h k hl)

set_option maxRecDepth 100000 in
set_option maxHeartbeats 1000000 in
theorem Few_any (g len cap most : Nat) (A B : Nat → Option Addr) (N C M D : Nat → Nat) (w : World) (hg : g < w.heap.size) (hl : len ≤ 10) (hm : most ≤ 1000)
    (hN : Hid (∀ i, i < len → N i ≤ 17592186044416 ∧ M i ≤ 17592186044416))
    (hc : Hid (∀ i, i < len → w.cell? ⟨g, i * 2, none⟩ = some (.slice (A i) (N i) (C i)) ∧ w.cell? ⟨g, i * 2 + 1, none⟩ = some (.slice (B i) (M i) (D i)))) :
    Calls Try.prog 24 #[.int .i64 most, .slice (some ⟨g, 0, none⟩) len cap] w fun e w' => e = .returned (.bool (fewB most N M len)) ∧ Below w.heap.size w w' := by
  go_enter Try.func24, Try.ntmps24
  go_wp2_with fail
  go_loopg [6, 9] len (fun q _ i wx => ∃ k : Nat, k + q = len ∧ k ≤ len ∧ i = .int .i64 k ∧ Below w.heap.size w wx ∧ Hid (fewB most N M k = true))
  case atStart => exact ⟨0, by omega, by omega, rfl, Below.refl _ _, by simp [Hid, fewB]⟩
  case round =>
    obtain ⟨k, hkq, hkl, rfl, hbx, HI⟩ := hrel
    by_cases hlt : k < len
    · have c1 := (hbx.cell (p := ⟨g, k * 2, none⟩) hg).trans (hc.out k hlt).1
      have c2 := (hbx.cell (p := ⟨g, k * 2 + 1, none⟩) hg).trans (hc.out k hlt).2
      obtain ⟨hN1, hN2⟩ := hN.out k hlt
      have HB := Lib.hid (fun h => fewB_bad (most := most) (N := N) (M := M) hlt h)
      have HS := Lib.hid (fun h => fewB_succ (most := most) (N := N) (M := M) HI.out h)
      generalize hn1 : N k = n1 at c1 hN1
      generalize hm1 : M k = m1 at c2 hN2
      rw [hn1, hm1] at HB HS
      clear hn1 hm1
      cases gk with
      | zero => exfalso; omega
      | succ q =>
      by_cases hs : n1 + m1 ≤ most
      · go_wp2_with fail
        go_roundg q
        case measure => omega
        case rel => exact ⟨k + 1, by omega, by omega, by go_num, hbx.alloc hbx.size _, HS.out hs⟩
      · go_wp2_with fail
        go_ret
        exact ⟨ret_bool (HB.out hs).symm, hbx.alloc hbx.size _⟩
    · go_wp2_with fail
      go_ret
      obtain rfl : k = len := by omega
      exact ⟨ret_bool HI.out.symm, hbx⟩

end Go.Proofs.Ytfblnadmbfhjiaa.Wd
