/-
  Two lists of ints that are the same, two games that are the same, for the law; how many moves a game has.
-/
import Derived.Test.YtffdbncjndnnaaaGaKit
namespace Go.Proofs.Ytffdbncjndnnaaa.Wd
open Go.RowKit
set_option linter.unusedVariables false

theorem List_same (A B : Option Addr) (n c d : Nat) (xs : List Int) (w : World) (h : Ints w A n xs) (h' : Ints w B n xs) (hn : n ≤ 17592186044416) :
    Calls Try.prog 16 #[.slice A n c, .slice B n d] w fun e w' => e = .returned (.bool true) ∧ ∃ k, w' = w.drewN k := by
  have hnn : ((n : Int) != (n : Int)) = false := by simp
  have hn0 : (0 : Int) ≤ (n : Int) := by omega
  have HA := Lib.hid h
  have HB := Lib.hid h'
  clear h h'
  go_enter Try.func16, Try.ntmps16
  go_wp2_with fail
  go_loopg [13] n (fun g i wx => ∃ j k : Nat, j + g = n ∧ i = .int .i64 j ∧ wx = w.drewN k)
  case atStart => exact ⟨0, 0, by omega, rfl, rfl⟩
  case round =>
    obtain ⟨j, k, hjg, rfl, rfl⟩ := hrel
    have hj0 : (0 : Int) ≤ (j : Int) := by omega
    cases gk with
    | zero =>
      obtain rfl : n = j := by omega
      go_wp2_with fail
      go_ret
      exact ⟨rfl, _, rfl⟩
    | succ g =>
      have hjl : j < n := by omega
      have hjl2 : (j : Int) < (n : Int) := by omega
      obtain ⟨bA, oA, rfl, _, ca⟩ := HA.out.2 (by omega)
      obtain ⟨bB, oB, rfl, _, cb⟩ := HB.out.2 (by omega)
      have c1 := ca j hjl
      have c2 := cb j hjl
      clear ca cb
      generalize xs.getD j 0 = x at *
      have hxx : (x != x) = false := by simp
      go_wp2_with fail
      go_quiet (fail)
      go_wp2_with fail
      go_roundg g
      case measure => omega
      case rel => exact ⟨j + 1, _, by omega, by go_num, rfl⟩

theorem list_same (A B : Option Addr) (n c d : Nat) (xs : List Int) (w : World) (h : Ints w A n xs) (h' : Ints w B n xs) (hn : n ≤ 17592186044416) :
    Calls Try.prog 39 #[.slice A n c, .slice B n d] w fun e w' => e = .returned (.bool true) ∧ ∃ k, w' = w.drewN k := by
  have hnn : ((n : Int) != (n : Int)) = false := by simp
  have hn0 : (0 : Int) ≤ (n : Int) := by omega
  have HA := Lib.hid h
  have HB := Lib.hid h'
  clear h h'
  go_enter Try.func39, Try.ntmps39
  go_wp2_with fail
  go_loopg [13] n (fun g i wx => ∃ j k : Nat, j + g = n ∧ i = .int .i64 j ∧ wx = w.drewN k)
  case atStart => exact ⟨0, 0, by omega, rfl, rfl⟩
  case round =>
    obtain ⟨j, k, hjg, rfl, rfl⟩ := hrel
    have hj0 : (0 : Int) ≤ (j : Int) := by omega
    cases gk with
    | zero =>
      obtain rfl : n = j := by omega
      go_wp2_with fail
      go_ret
      exact ⟨rfl, _, rfl⟩
    | succ g =>
      have hjl : j < n := by omega
      have hjl2 : (j : Int) < (n : Int) := by omega
      obtain ⟨bA, oA, rfl, _, ca⟩ := HA.out.2 (by omega)
      obtain ⟨bB, oB, rfl, _, cb⟩ := HB.out.2 (by omega)
      have c1 := ca j hjl
      have c2 := cb j hjl
      clear ca cb
      generalize xs.getD j 0 = x at *
      have hxx : (x != x) = false := by simp
      go_wp2_with fail
      go_quiet (fail)
      go_wp2_with fail
      go_roundg g
      case measure => omega
      case rel => exact ⟨j + 1, _, by omega, by go_num, rfl⟩

/-- The moves of the first k positions. -/
def movesN (X : List (List Int)) (k : Nat) : Nat := ((List.range k).map fun j => (X.getD j []).length).sum
theorem movesN_succ (X : List (List Int)) (k : Nat) : movesN X (k + 1) = movesN X k + (X.getD k []).length := by
  unfold movesN
  rw [List.range_succ, List.map_append, List.sum_append]
  simp
theorem movesN_le (X : List (List Int)) (hl : ∀ v, (X.getD v []).length ≤ 17592186044416) (k : Nat) : movesN X k ≤ k * 17592186044416 := by
  induction k with
  | zero => simp [movesN]
  | succ k ih =>
    rw [movesN_succ]
    have := hl k
    omega
theorem movesN_mono (X : List (List Int)) {j k : Nat} (h : j ≤ k) : movesN X j ≤ movesN X k := by
  induction k with
  | zero => obtain rfl : j = 0 := by omega
            exact Nat.le_refl _
  | succ k ih =>
    rcases Nat.eq_or_lt_of_le h with e | e
    · rw [e]; exact Nat.le_refl _
    · exact Nat.le_trans (ih (by omega)) (by rw [movesN_succ]; omega)
theorem movesN_one (X : List (List Int)) {j k : Nat} (h : j < k) : (X.getD j []).length ≤ movesN X k := by
  have h1 := movesN_mono X (show j + 1 ≤ k from h)
  rw [movesN_succ] at h1
  omega
/-- Has the game at most these positions and moves? -/
def gfewB (a b : Nat) (G : Gm) : Bool := decide (G.O.length ≤ a) && decide (G.P.length ≤ a) && decide (G.X.length ≤ a) && decide (movesN G.X G.X.length ≤ b)
theorem gfewB_true {a b : Nat} {G : Gm} (h : gfewB a b G = true) : G.O.length ≤ a ∧ G.P.length ≤ a ∧ G.X.length ≤ a ∧ ∀ v, (G.X.getD v []).length ≤ b := by
  unfold gfewB at h
  simp only [Bool.and_eq_true, decide_eq_true_eq] at h
  refine ⟨h.1.1.1, h.1.1.2, h.1.2, fun v => ?_⟩
  by_cases hv : v < G.X.length
  · exact Nat.le_trans (movesN_one G.X hv) h.2
  · simp [List.getD_eq_getElem?_getD, List.getElem?_eq_none (show G.X.length ≤ v by omega)]

set_option maxHeartbeats 2000000 in
theorem gfew_any (s t : Nat) (a p x : Option Addr) (n c m d k e : Nat) (G : Gm) (w : World) (h : GameIn w a n p m x k G) (hs : s ≤ 1000) (ht : t ≤ 100000) (hn : n ≤ 17592186044416) (hm : m ≤ 17592186044416) (hk : k ≤ 17592186044416) (hl : ∀ v, (G.X.getD v []).length ≤ 17592186044416) :
    Calls Try.prog 8 #[.int .i64 s, .int .i64 t, .agg #[.slice a n c, .slice p m d, .slice x k e]] w fun r w' => r = .returned (.bool (gfewB s t G)) ∧ Below w.heap.size w w' := by
  have ho := h.o.1
  have hp := h.p.1
  have hx := h.x.1
  have hk0 : (0 : Int) ≤ (k : Int) := by omega
  have hn0 : (0 : Int) ≤ (n : Int) := by omega
  have hm0 : (0 : Int) ≤ (m : Int) := by omega
  by_cases h1 : s < n
  · have HR := Lib.hid (show gfewB s t G = false by unfold gfewB; rw [decide_eq_false (show ¬ G.O.length ≤ s by omega)]; rfl)
    have h1' : (s : Int) < (n : Int) := by omega
    go_enter Try.func8, Try.ntmps8
    go_wp2_with fail
    go_ret
    exact ⟨ret_bool HR.out.symm, (Below.refl _ _).alloc (Nat.le_refl _) _⟩
  have h1' : ¬ (s : Int) < (n : Int) := by omega
  by_cases h2 : s < m
  · have HR := Lib.hid (show gfewB s t G = false by unfold gfewB; rw [decide_eq_false (show ¬ G.P.length ≤ s by omega)]; simp)
    have h2' : (s : Int) < (m : Int) := by omega
    go_enter Try.func8, Try.ntmps8
    go_wp2_with fail
    go_ret
    exact ⟨ret_bool HR.out.symm, (Below.refl _ _).alloc (Nat.le_refl _) _⟩
  have h2' : ¬ (s : Int) < (m : Int) := by omega
  by_cases h3 : s < k
  · have HR := Lib.hid (show gfewB s t G = false by unfold gfewB; rw [decide_eq_false (show ¬ G.X.length ≤ s by omega)]; simp)
    have h3' : (s : Int) < (k : Int) := by omega
    go_enter Try.func8, Try.ntmps8
    go_wp2_with fail
    go_ret
    exact ⟨ret_bool HR.out.symm, (Below.refl _ _).alloc (Nat.le_refl _) _⟩
  have h3' : ¬ (s : Int) < (k : Int) := by omega
  have HS := Lib.hid (show gfewB s t G = decide (movesN G.X k ≤ t) by unfold gfewB; rw [decide_eq_true (show G.O.length ≤ s by omega), decide_eq_true (show G.P.length ≤ s by omega), decide_eq_true (show G.X.length ≤ s by omega), hx]; rfl)
  have HM := Lib.hid (movesN_le G.X hl)
  have HG := Lib.hid h
  have HLEN := Lib.hid hl
  generalize gfewB s t G = R at *
  clear h hl
  go_enter Try.func8, Try.ntmps8
  go_wp2_with fail
  obtain ⟨W0, hW0⟩ : ∃ W0, w.alloc (.cells #[.slice a n c, .slice p m d, .slice x k e] 25) = W0 := ⟨_, rfl⟩
  have HBW := Lib.hid (show Below w.heap.size w W0 by rw [← hW0]; exact (Below.refl _ _).alloc (Nat.le_refl _) _)
  rw [hW0]
  clear hW0
  go_loopg [7, 32] k (fun g sm i wx => ∃ j : Nat, j + g = k ∧ i = .int .i64 j ∧ wx = W0 ∧ sm = .int .i64 (movesN G.X j : Int))
  case atStart => exact ⟨0, by omega, rfl, rfl, rfl⟩
  case round =>
    obtain ⟨j, hjg, rfl, rfl, rfl⟩ := hrel
    have hj0 : (0 : Int) ≤ (j : Int) := by omega
    cases gk with
    | zero =>
      obtain rfl : k = j := by omega
      generalize movesN G.X k = M at *
      by_cases h4 : M ≤ t
      · have h4' : (M : Int) ≤ (t : Int) := by omega
        have HR := Lib.hid (show R = true by rw [HS.out, decide_eq_true h4])
        go_wp2_with fail
        go_ret
        exact ⟨ret_bool HR.out.symm, HBW.out⟩
      · have h4' : ¬ (M : Int) ≤ (t : Int) := by omega
        have HR := Lib.hid (show R = false by rw [HS.out, decide_eq_false h4])
        go_wp2_with fail
        go_ret
        exact ⟨ret_bool HR.out.symm, HBW.out⟩
    | succ g =>
      have hjl : j < k := by omega
      have hjl2 : (j : Int) < (k : Int) := by omega
      obtain ⟨bx, ox, rfl, hbx, hcx⟩ := (HG.out.below HBW.out).x.2 (by omega)
      obtain ⟨bl, cl, kl, il⟩ := hcx j hjl
      clear hcx il
      have hlen := HLEN.out j
      have hmj := HM.out j
      have HN := Lib.hid (movesN_succ G.X j)
      generalize (G.X.getD j []).length = ll at *
      generalize hMj : movesN G.X j = Mj at *
      have hs1 : j * 17592186044416 ≤ 1000 * 17592186044416 := Nat.mul_le_mul (by omega) (Nat.le_refl _)
      have hs2 : Mj + ll ≤ 17609778230460416 := by omega
      have hs3 : (Mj : Int) + (ll : Int) ≤ 17609778230460416 := by omega
      have hMj0 : (0 : Int) ≤ (Mj : Int) := by omega
      have hll0 : (0 : Int) ≤ (ll : Int) := by omega
      go_wp2_with fail
      go_roundg g
      case measure => omega
      case rel => exact ⟨j + 1, by omega, by go_num, rfl, by rw [HN.out, Int.natCast_add]⟩

/-- Same of two games that are the same. -/
theorem gsame_true (a p x a' p' x' : Option Addr) (n c m d k e c' d' e' : Nat) (G : Gm) (w : World) (h : GameIn w a n p m x k G) (h' : GameIn w a' n p' m x' k G) (hn : n ≤ 100000) (hm : m ≤ 100000) (hk : k ≤ 100000) (hl : ∀ v, (G.X.getD v []).length ≤ 100000) :
    Calls Try.prog 23 #[.agg #[.slice a n c, .slice p m d, .slice x k e], .agg #[.slice a' n c', .slice p' m d', .slice x' k e']] w fun r w' => r = .returned (.bool true) ∧ Below w.heap.size w w' := by
  have hkk : ((k : Int) != (k : Int)) = false := by simp
  have hk0 : (0 : Int) ≤ (k : Int) := by omega
  have HA := Lib.hid h
  have HB := Lib.hid h'
  have HLEN := Lib.hid hl
  clear h h' hl
  obtain ⟨W0, hW0⟩ : ∃ W0, (w.alloc (.cells #[.slice a n c, .slice p m d, .slice x k e] 25)).alloc (.cells #[.slice a' n c', .slice p' m d', .slice x' k e'] 25) = W0 := ⟨_, rfl⟩
  have HBW := Lib.hid (show Below w.heap.size w W0 by rw [← hW0]; exact ((Below.refl _ _).alloc (Nat.le_refl _) _).alloc (by simp) _)
  have q0 : ∀ i, W0.cell? ⟨w.heap.size, i, none⟩ = #[Value.slice a n c, .slice p m d, .slice x k e][i]? := fun i => by rw [← hW0]; exact box_first _ _ _ _ _
  have q1 : ∀ i, W0.cell? ⟨w.heap.size + 1, i, none⟩ = #[Value.slice a' n c', .slice p' m d', .slice x' k e'][i]? := fun i => by
    rw [← hW0]
    have h := box_last (w.alloc (.cells #[.slice a n c, .slice p m d, .slice x k e] 25)) #[.slice a' n c', .slice p' m d', .slice x' k e'] 25 i
    rw [World.size_alloc] at h
    exact h
  have a0 : W0.cell? ⟨w.heap.size, 0, none⟩ = some (.slice a n c) := q0 0
  have a1 : W0.cell? ⟨w.heap.size, 1, none⟩ = some (.slice p m d) := q0 1
  have a2 : W0.cell? ⟨w.heap.size, 2, none⟩ = some (.slice x k e) := q0 2
  have b0 : W0.cell? ⟨w.heap.size + 1, 0, none⟩ = some (.slice a' n c') := q1 0
  have b1 : W0.cell? ⟨w.heap.size + 1, 1, none⟩ = some (.slice p' m d') := q1 1
  have b2 : W0.cell? ⟨w.heap.size + 1, 2, none⟩ = some (.slice x' k e') := q1 2
  clear q0 q1
  have HO := Lib.hid (fun y => list_same a a' n c c' G.O (W0.drewN y) ((HA.out.below HBW.out).o.drewN y) ((HB.out.below HBW.out).o.drewN y) (by omega))
  have HP := Lib.hid (fun y => list_same p p' m d d' G.P (W0.drewN y) ((HA.out.below HBW.out).p.drewN y) ((HB.out.below HBW.out).p.drewN y) (by omega))
  go_enter Try.func23, Try.ntmps23
  go_wp2_with fail
  clear hW0
  refine (HO.out 0).mono ?_
  rintro e1 w1 ⟨rfl, y1, rfl⟩
  go_wp2_with fail
  refine (HP.out _).mono ?_
  rintro e2 w2 ⟨rfl, y2, rfl⟩
  go_wp2_with fail
  go_loopg [32] k (fun g i wx => ∃ j : Nat, j + g = k ∧ i = .int .i64 j ∧ Hid (∃ y, wx = W0.drewN y))
  case atStart => exact ⟨0, by omega, rfl, _, rfl⟩
  case round =>
    obtain ⟨j, hjg, rfl, HW⟩ := hrel
    obtain ⟨y, hy⟩ := HW.out
    have HBR := Lib.hid (show Below W0.heap.size W0 wr by rw [hy]; exact below_drewN (Below.refl _ _) _)
    have r2 : wr.cell? ⟨w.heap.size, 2, none⟩ = some (.slice x k e) := by rw [hy]; exact a2
    have s2 : wr.cell? ⟨w.heap.size + 1, 2, none⟩ = some (.slice x' k e') := by rw [hy]; exact b2
    have HY := Lib.hid hy
    clear hy a2 b2
    have hj0 : (0 : Int) ≤ (j : Int) := by omega
    cases gk with
    | zero =>
      obtain rfl : k = j := by omega
      go_wp2_with fail
      go_ret
      exact ⟨rfl, by rw [HY.out]; exact below_drewN HBW.out _⟩
    | succ g =>
      have hjl : j < k := by omega
      have hjl2 : (j : Int) < (k : Int) := by omega
      obtain ⟨bA, oA, rfl, _, ca⟩ := ((HA.out.below HBW.out).below HBR.out).x.2 (by omega)
      obtain ⟨bB, oB, rfl, _, cb⟩ := ((HB.out.below HBW.out).below HBR.out).x.2 (by omega)
      obtain ⟨ba, cca, c1, i1⟩ := ca j hjl
      obtain ⟨bb, ccb, c2, i2⟩ := cb j hjl
      have hlen := HLEN.out j
      have HL := Lib.hid (fun z => list_same ba bb (G.X.getD j []).length cca ccb (G.X.getD j []) (wr.drewN z) (i1.drewN z) (i2.drewN z) (by omega))
      clear ca cb i1 i2
      generalize (G.X.getD j []).length = ll at *
      go_wp2_with fail
      go_quiet (first | (go_at_call 39; refine Calls.quiet_of (HL.out _)))
      go_wp2_with fail
      go_roundg g
      case measure => omega
      case rel => exact ⟨j + 1, by omega, by go_num, _, by rw [HY.out, World.drewN_drewN]⟩

end Go.Proofs.Ytffdbncjndnnaaa.Wd
