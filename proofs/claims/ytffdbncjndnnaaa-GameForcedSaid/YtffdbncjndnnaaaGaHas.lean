/-
  Is a number in a list? slices.Contains and has of the reference.
-/
import Derived.Test.YtffdbncjndnnaaaGaKit
namespace Go.Proofs.Ytffdbncjndnnaaa.Wd
open Go.RowKit
set_option linter.unusedVariables false

/-- Is v in the list? -/
def hasB (xs : List Int) (v : Int) : Bool := !(allB xs.length fun i => decide (¬ xs.getD i 0 = v))
theorem hasB_at {xs : List Int} {v : Int} {j : Nat} (hj : j < xs.length) (h : xs.getD j 0 = v) : hasB xs v = true := by
  unfold hasB
  rw [allB_bad hj (by simpa using h)]
  rfl
theorem hasB_none {xs : List Int} {v : Int} (h : ∀ i, i < xs.length → ¬ xs.getD i 0 = v) : hasB xs v = false := by
  unfold hasB
  rw [allB_good (fun i hi => by simpa using h i hi)]
  rfl
theorem hasB_out {xs : List Int} {v : Int} (h : hasB xs v = true) : ∃ i, i < xs.length ∧ xs.getD i 0 = v := by
  refine Classical.byContradiction fun hn => ?_
  rw [hasB_none (fun i hi e => hn ⟨i, hi, e⟩)] at h
  cases h
theorem hasB_not {xs : List Int} {v : Int} (h : hasB xs v = false) {i : Nat} (hi : i < xs.length) : ¬ xs.getD i 0 = v := fun e => by
  rw [hasB_at hi e] at h
  cases h

theorem index_any (A : Option Addr) (n c : Nat) (xs : List Int) (v : Int) (w : World) (h : Ints w A n xs) (hn : n ≤ 17592186044416) :
    Calls Try.prog 48 #[.slice A n c, .int .i64 v] w fun e w' => ∃ r : Int, e = .returned (.int .i64 r) ∧ decide (0 ≤ r) = hasB xs v ∧ w = w' := by
  have hx := h.1
  have hn0 : (0 : Int) ≤ (n : Int) := by omega
  have HA := Lib.hid h
  clear h
  go_enter Try.func48, Try.ntmps48
  go_wp2_with fail
  go_loopg [8] n (fun g i wx => ∃ j : Nat, j + g = n ∧ i = .int .i64 j ∧ wx = w ∧ Hid (∀ i, i < j → ¬ xs.getD i 0 = v))
  case atStart => exact ⟨0, by omega, rfl, rfl, fun i hi => by omega⟩
  case round =>
    obtain ⟨j, hjg, rfl, rfl, HI⟩ := hrel
    have hj0 : (0 : Int) ≤ (j : Int) := by omega
    cases gk with
    | zero =>
      obtain rfl : n = j := by omega
      have HF := Lib.hid (hasB_none (xs := xs) (v := v) (by rw [hx]; exact HI.out))
      go_wp2_with fail
      go_ret
      exact ⟨-1, rfl, by rw [HF.out]; rfl, rfl⟩
    | succ g =>
      have hjl : j < n := by omega
      have hjl2 : (j : Int) < (n : Int) := by omega
      obtain ⟨b, off, rfl, _, hc⟩ := HA.out.2 (by omega)
      have hcj := hc j hjl
      have HY := Lib.hid (fun (e : xs.getD j 0 = v) => hasB_at (by omega) e)
      have HQ := Lib.hid (fun (e : ¬ xs.getD j 0 = v) => show ∀ i, i < j + 1 → ¬ xs.getD i 0 = v from fun i hi => by
        by_cases hij : i = j
        · subst hij; exact e
        · exact HI.out i (by omega))
      clear hc
      generalize xs.getD j 0 = x at *
      by_cases e : x = v
      · subst e
        have HN := Lib.hid (HY.out rfl)
        have hxx : (x == x) = true := by simp
        go_wp2_with fail
        go_ret
        exact ⟨j, rfl, by rw [HN.out]; simp, rfl⟩
      · have HN := Lib.hid (HQ.out e)
        have hxx : (v == x) = false := by simp; exact fun h => e h.symm
        go_wp2_with fail
        go_roundg g
        case measure => omega
        case rel => exact ⟨j + 1, by omega, by go_num, rfl, HN⟩

theorem contains_any (A : Option Addr) (n c : Nat) (xs : List Int) (v : Int) (w : World) (h : Ints w A n xs) (hn : n ≤ 17592186044416) :
    Calls Try.prog 33 #[.slice A n c, .int .i64 v] w fun e w' => e = .returned (.bool (hasB xs v)) ∧ w = w' := by
  have HI := Lib.hid (index_any A n c xs v w h hn)
  clear h
  go_enter Try.func33, Try.ntmps33
  go_wp2_with fail
  refine HI.out.mono ?_
  rintro e w' ⟨r, rfl, hr, rfl⟩
  have HR := Lib.hid hr
  clear hr
  go_wp2_with fail
  go_ret
  exact ⟨ret_bool HR.out, rfl⟩

theorem has_in (A : Option Addr) (n c : Nat) (xs : List Int) (v : Int) (w : World) (h : Ints w A n xs) (hn : n ≤ 17592186044416) :
    Calls Try.prog 36 #[.slice A n c, .int .i64 v] w fun e w' => e = .returned (.bool (hasB xs v)) ∧ w = w' := by
  have hx := h.1
  have hn0 : (0 : Int) ≤ (n : Int) := by omega
  have HA := Lib.hid h
  clear h
  go_enter Try.func36, Try.ntmps36
  go_wp2_with fail
  go_loopg [9] n (fun g i wx => ∃ j : Nat, j + g = n ∧ i = .int .i64 j ∧ wx = w ∧ Hid (∀ i, i < j → ¬ xs.getD i 0 = v))
  case atStart => exact ⟨0, by omega, rfl, rfl, fun i hi => by omega⟩
  case round =>
    obtain ⟨j, hjg, rfl, rfl, HI⟩ := hrel
    have hj0 : (0 : Int) ≤ (j : Int) := by omega
    cases gk with
    | zero =>
      obtain rfl : n = j := by omega
      have HF := Lib.hid (hasB_none (xs := xs) (v := v) (by rw [hx]; exact HI.out))
      go_wp2_with fail
      go_ret
      exact ⟨ret_bool HF.out.symm, rfl⟩
    | succ g =>
      have hjl : j < n := by omega
      have hjl2 : (j : Int) < (n : Int) := by omega
      obtain ⟨b, off, rfl, _, hc⟩ := HA.out.2 (by omega)
      have hcj := hc j hjl
      have HY := Lib.hid (fun (e : xs.getD j 0 = v) => hasB_at (by omega) e)
      have HQ := Lib.hid (fun (e : ¬ xs.getD j 0 = v) => show ∀ i, i < j + 1 → ¬ xs.getD i 0 = v from fun i hi => by
        by_cases hij : i = j
        · subst hij; exact e
        · exact HI.out i (by omega))
      clear hc
      generalize xs.getD j 0 = x at *
      by_cases e : x = v
      · subst e
        have HN := Lib.hid (HY.out rfl)
        have hxx : (x == x) = true := by simp
        go_wp2_with fail
        go_ret
        exact ⟨ret_bool HN.out.symm, rfl⟩
      · have HN := Lib.hid (HQ.out e)
        have hxx : (x == v) = false := by simpa using e
        go_wp2_with fail
        go_roundg g
        case measure => omega
        case rel => exact ⟨j + 1, by omega, by go_num, rfl, HN⟩

end Go.Proofs.Ytffdbncjndnnaaa.Wd
