/-
  slices.Equal at []int, and lodesmanref01.List and Written: the lists are equal.
-/
import Derived.Test.YteidikkeoaolgaaDoorWdNormal
namespace Go.Proofs.YteidikkeoaolgaaDoor.Wd
open Go.RowKit

/-- Are the lists equal? -/
def eqB (xs ys : List Int) : Bool := decide (xs = ys)
theorem eqB_len {xs ys : List Int} (h : xs.length ≠ ys.length) : eqB xs ys = false := by
  simp only [eqB, decide_eq_false_iff_not]; intro e; exact h (by rw [e])
theorem eqB_part {xs ys : List Int} {k : Nat} (hk : xs.getD k 0 ≠ ys.getD k 0) : eqB xs ys = false := by
  simp only [eqB, decide_eq_false_iff_not]; intro e; exact hk (by rw [e])
theorem eqB_all {xs ys : List Int} (hl : xs.length = ys.length) (h : ∀ i, i < xs.length → xs.getD i 0 = ys.getD i 0) : eqB xs ys = true := by
  simp only [eqB, decide_eq_true_eq]
  apply List.ext_getElem hl
  intro i h1 h2
  have := h i h1
  simpa [List.getD_eq_getElem?_getD, List.getElem?_eq_getElem h1, List.getElem?_eq_getElem h2] using this
theorem agree_more {xs ys : List Int} {k : Nat} (h : ∀ i, i < k → xs.getD i 0 = ys.getD i 0) (he : xs.getD k 0 = ys.getD k 0) : ∀ i, i < k + 1 → xs.getD i 0 = ys.getD i 0 := by
  intro i hi
  rcases Nat.lt_or_ge i k with hl | hg
  · exact h i hl
  · obtain rfl : i = k := by omega
    exact he

set_option maxHeartbeats 800000 in
theorem equal_any (A B : Option Addr) (n c m d : Nat) (xs ys : List Int) (w : World) (h : Ints w A n xs) (h' : Ints w B m ys) (hn : n ≤ 100000) (hm : m ≤ 100000) :
    Calls Tryd.prog 52 #[.slice A n c, .slice B m d] w fun e w' => ∃ k : Nat, e = .returned (.bool (eqB xs ys)) ∧ w' = w.drewN k := by
  have HX := Lib.hid h.1
  have HY := Lib.hid h'.1
  by_cases hl : n = m
  · subst hl
    have hnn : ((n : Int) != (n : Int)) = false := by simp
    go_enter Tryd.func52, Tryd.ntmps52
    go_wp2_with fail
    go_loopg [5, 13] n (fun g _ i wx => ∃ j k : Nat, j + g = n ∧ j ≤ n ∧ i = .int .i64 j ∧ wx = w.drewN k ∧ Hid (∀ i, i < j → xs.getD i 0 = ys.getD i 0))
    case atStart => exact ⟨0, 0, by omega, by omega, rfl, rfl, fun i hi => by omega⟩
    case round =>
      obtain ⟨j, k, hjg, hjn, rfl, rfl, HI⟩ := hrel
      by_cases hjl : j < n
      · obtain ⟨bA, oA, rfl, hbA, hca⟩ := h.at_ hjl
        obtain ⟨bB, oB, rfl, hbB, hcb⟩ := h'.at_ hjl
        have c1 := hca j hjl
        have c2 := hcb j hjl
        clear hca hcb h h'
        generalize hva : xs.getD j 0 = va at c1
        generalize hvb : ys.getD j 0 = vb at c2
        have HA := Lib.hid hva
        have HB := Lib.hid hvb
        clear hva hvb
        cases gk with
        | zero => exfalso; omega
        | succ g =>
        cases he : (va != vb)
        · have HE := Lib.hid (show va = vb by simpa using he)
          go_wp2_with fail
          go_quiet (fail)
          go_wp2_with fail
          go_roundg g
          case measure => omega
          case rel => exact ⟨j + 1, _, by omega, by omega, by go_num, rfl, agree_more HI.out (by rw [HA.out, HB.out, HE.out])⟩
        · have HE := Lib.hid (show ¬ va = vb by simpa using he)
          go_wp2_with fail
          go_quiet (fail)
          go_wp2_with fail
          go_ret
          exact ⟨_, ret_bool (eqB_part (k := j) (by rw [HA.out, HB.out]; exact HE.out)).symm, World.drewN_drewN _ _ _⟩
      · go_wp2_with fail
        go_ret
        exact ⟨_, ret_bool (eqB_all (by rw [HX.out, HY.out]) (fun i hi => HI.out i (by rw [HX.out] at hi; omega))).symm, rfl⟩
  · have hnn : ((n : Int) != (m : Int)) = true := by simp; omega
    go_enter Tryd.func52, Tryd.ntmps52
    go_wp2_with fail
    go_ret
    exact ⟨0, ret_bool (eqB_len (by rw [HX.out, HY.out]; exact hl)).symm, rfl⟩

set_option maxHeartbeats 800000 in
theorem list_any (A B : Option Addr) (n c m d : Nat) (xs ys : List Int) (w : World) (h : Ints w A n xs) (h' : Ints w B m ys) (hn : n ≤ 100000) (hm : m ≤ 100000) :
    Calls Tryd.prog 98 #[.slice A n c, .slice B m d] w fun e w' => ∃ k : Nat, e = .returned (.bool (eqB xs ys)) ∧ w' = w.drewN k := by
  have HX := Lib.hid h.1
  have HY := Lib.hid h'.1
  by_cases hl : n = m
  · subst hl
    have hnn : ((n : Int) != (n : Int)) = false := by simp
    go_enter Tryd.func98, Tryd.ntmps98
    go_wp2_with fail
    go_loopg [5, 13] n (fun g _ i wx => ∃ j k : Nat, j + g = n ∧ j ≤ n ∧ i = .int .i64 j ∧ wx = w.drewN k ∧ Hid (∀ i, i < j → xs.getD i 0 = ys.getD i 0))
    case atStart => exact ⟨0, 0, by omega, by omega, rfl, rfl, fun i hi => by omega⟩
    case round =>
      obtain ⟨j, k, hjg, hjn, rfl, rfl, HI⟩ := hrel
      by_cases hjl : j < n
      · obtain ⟨bA, oA, rfl, hbA, hca⟩ := h.at_ hjl
        obtain ⟨bB, oB, rfl, hbB, hcb⟩ := h'.at_ hjl
        have c1 := hca j hjl
        have c2 := hcb j hjl
        clear hca hcb h h'
        generalize hva : xs.getD j 0 = va at c1
        generalize hvb : ys.getD j 0 = vb at c2
        have HA := Lib.hid hva
        have HB := Lib.hid hvb
        clear hva hvb
        cases gk with
        | zero => exfalso; omega
        | succ g =>
        cases he : (va != vb)
        · have HE := Lib.hid (show va = vb by simpa using he)
          go_wp2_with fail
          go_quiet (fail)
          go_wp2_with fail
          go_roundg g
          case measure => omega
          case rel => exact ⟨j + 1, _, by omega, by omega, by go_num, rfl, agree_more HI.out (by rw [HA.out, HB.out, HE.out])⟩
        · have HE := Lib.hid (show ¬ va = vb by simpa using he)
          go_wp2_with fail
          go_quiet (fail)
          go_wp2_with fail
          go_ret
          exact ⟨_, ret_bool (eqB_part (k := j) (by rw [HA.out, HB.out]; exact HE.out)).symm, World.drewN_drewN _ _ _⟩
      · go_wp2_with fail
        go_ret
        exact ⟨_, ret_bool (eqB_all (by rw [HX.out, HY.out]) (fun i hi => HI.out i (by rw [HX.out] at hi; omega))).symm, rfl⟩
  · have hnn : ((n : Int) != (m : Int)) = true := by simp; omega
    go_enter Tryd.func98, Tryd.ntmps98
    go_wp2_with fail
    go_ret
    exact ⟨0, ret_bool (eqB_len (by rw [HX.out, HY.out]; exact hl)).symm, rfl⟩

set_option maxHeartbeats 800000 in
theorem written_any (v u : Value) (s l s' l' : List Int) (w : World) (h : IsWord w v s l) (h' : IsWord w u s' l') (h1 : s.length + l.length ≤ 100000) (h2 : s'.length + l'.length ≤ 100000) :
    Calls Tryd.prog 49 #[v, u] w fun e w' => e = .returned (.bool (eqB s s' && eqB l l')) ∧ Below w.heap.size w w' := by
  obtain ⟨A, n, c, B, m, d, rfl, ha, hb, _, _⟩ := h
  obtain ⟨A', n', c', B', m', d', rfl, ha', hb', _, _⟩ := h'
  have e1 := ha.1
  have e2 := hb.1
  have e3 := ha'.1
  have e4 := hb'.1
  have HE := Lib.hid (show n ≤ 100000 ∧ m ≤ 100000 ∧ n' ≤ 100000 ∧ m' ≤ 100000 by omega)
  clear e1 e2 e3 e4 h1 h2
  go_enter Tryd.func49, Tryd.ntmps49
  go_wp2_with fail
  refine (list_any A A' n c n' c' s s' _ ((ha.alloc _).alloc _) ((ha'.alloc _).alloc _) (by have := HE.out; omega) (by have := HE.out; omega)).mono ?_
  rintro e w1 ⟨k, rfl, rfl⟩
  cases hs : eqB s s'
  · go_wp2_with fail
    go_ret
    exact ⟨ret_bool (by rw [hs]; rfl), below_drewN (((Below.refl _ _).alloc (Nat.le_refl _) _).alloc (by simp) _) _⟩
  · go_wp2_with fail
    refine (list_any B B' m d m' d' l l' _ (((hb.alloc _).alloc _).drewN _) (((hb'.alloc _).alloc _).drewN _) (by have := HE.out; omega) (by have := HE.out; omega)).mono ?_
    rintro e w1 ⟨k2, rfl, rfl⟩
    go_wp2_with fail
    go_ret
    refine ⟨ret_bool (by rw [hs]; rfl), ?_⟩
    first
      | exact below_drewN (((Below.refl _ _).alloc (Nat.le_refl _) _).alloc (by simp) _) _
      | exact below_drewN (below_drewN (((Below.refl _ _).alloc (Nat.le_refl _) _).alloc (by simp) _) _) _

end Go.Proofs.YteidikkeoaolgaaDoor.Wd
