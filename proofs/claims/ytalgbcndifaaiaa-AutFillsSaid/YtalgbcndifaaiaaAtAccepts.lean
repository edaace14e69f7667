/-
  Accepts of package aut.
-/
import Derived.Test.YtalgbcndifaaiaaAtAcc
import Derived.Laws.EntriesVeiled
namespace Go.Proofs.Ytalgbcndifaaiaa.Wd
open Go.RowKit Go.Shelf
set_option linter.unusedVariables false

shelf_lay Lays.n125 Nm 125 at Try as Try.lays125
theorem len_any (x : Nat) (w : World) (hx : x < 2 ^ 62) : Calls Try.prog 77 #[.int .u64 x] w fun e w' => e = .returned (.int .i64 (Lib.bitLen x)) ∧ w = w' :=
  (Any.bits_Len Try.lays125 (x : Int) w (by omega) (by omega)).mono fun _ _ ⟨he, hw⟩ => ⟨by simpa using he, hw.symm⟩

theorem meetsEven_any (m : Int) (x : Nat) (w : World) (hx : x < 2 ^ 62) : Calls Try.prog 67 #[.int .i64 m, .int .i64 x] w fun e w' => e = .returned (.bool (evenB x)) ∧ w = w' := by
  have HL := Lib.hid (fun w => len_any x w hx)
  have hx2 : (x : Int) < 4611686018427387904 := by omega
  have hx1 : (0 : Int) ≤ (x : Int) := by omega
  clear hx
  obtain ⟨L, hL⟩ : ∃ L, Lib.bitLen x = L := ⟨_, rfl⟩
  rw [hL] at HL
  have HE := Lib.hid (show evenB x = decide (L % 2 = 1) by unfold evenB; rw [hL])
  clear hL
  go_enter Try.func67, Try.ntmps67
  go_wp2_with fail
  refine (HL.out _).mono ?_
  rintro e w' ⟨rfl, rfl⟩
  go_wp2_with fail
  go_ret
  exact ⟨ret_bool (by rw [HE.out]; show decide ((L : Int) % 2 = 1) = _; rw [decide_eq_decide]; omega), rfl⟩

set_option maxHeartbeats 1000000 in
theorem of_kind0 (w : World) : Calls Try.prog 37 #[.int .i64 0] w fun e w' => e = .returned (.tuple #[.agg #[(.func (.func 56) #[] #[]), (.func (.func 57) #[] #[]), (.func (.func 58) #[] #[])], .bool true]) ∧ Below w.heap.size w w' := by
  go_enter Try.func37, Try.ntmps37
  go_wp2_with fail
  exact bodyPost_ret (v := .tuple #[.agg #[(.func (.func 56) #[] #[]), (.func (.func 57) #[] #[]), (.func (.func 58) #[] #[])], .bool true]) (by simp [results, Try.results37, go_sem]) rfl ⟨rfl, by first | exact (Below.refl _ _).alloc (Nat.le_refl _) _ | exact ((((Below.refl _ _).alloc (Nat.le_refl _) _).setCell (by simp) _).setCell (by simp) _).setCell (by simp) _⟩

set_option maxHeartbeats 1000000 in
theorem of_kind1 (w : World) : Calls Try.prog 37 #[.int .i64 1] w fun e w' => e = .returned (.tuple #[.agg #[(.func (.func 59) #[] #[]), (.func (.func 57) #[] #[]), (.func (.func 60) #[] #[])], .bool true]) ∧ Below w.heap.size w w' := by
  go_enter Try.func37, Try.ntmps37
  go_wp2_with fail
  exact bodyPost_ret (v := .tuple #[.agg #[(.func (.func 59) #[] #[]), (.func (.func 57) #[] #[]), (.func (.func 60) #[] #[])], .bool true]) (by simp [results, Try.results37, go_sem]) rfl ⟨rfl, by first | exact (Below.refl _ _).alloc (Nat.le_refl _) _ | exact ((((Below.refl _ _).alloc (Nat.le_refl _) _).setCell (by simp) _).setCell (by simp) _).setCell (by simp) _⟩

set_option maxHeartbeats 1000000 in
theorem of_kind2 (w : World) : Calls Try.prog 37 #[.int .i64 2] w fun e w' => e = .returned (.tuple #[.agg #[(.func (.func 56) #[] #[]), (.func (.func 61) #[] #[]), (.func (.func 62) #[] #[])], .bool true]) ∧ Below w.heap.size w w' := by
  go_enter Try.func37, Try.ntmps37
  go_wp2_with fail
  exact bodyPost_ret (v := .tuple #[.agg #[(.func (.func 56) #[] #[]), (.func (.func 61) #[] #[]), (.func (.func 62) #[] #[])], .bool true]) (by simp [results, Try.results37, go_sem]) rfl ⟨rfl, by first | exact (Below.refl _ _).alloc (Nat.le_refl _) _ | exact ((((Below.refl _ _).alloc (Nat.le_refl _) _).setCell (by simp) _).setCell (by simp) _).setCell (by simp) _⟩

set_option maxHeartbeats 1000000 in
theorem of_kind3 (w : World) : Calls Try.prog 37 #[.int .i64 3] w fun e w' => e = .returned (.tuple #[.agg #[(.func (.func 63) #[] #[]), (.func (.func 64) #[] #[]), (.func (.func 58) #[] #[])], .bool true]) ∧ Below w.heap.size w w' := by
  go_enter Try.func37, Try.ntmps37
  go_wp2_with fail
  exact bodyPost_ret (v := .tuple #[.agg #[(.func (.func 63) #[] #[]), (.func (.func 64) #[] #[]), (.func (.func 58) #[] #[])], .bool true]) (by simp [results, Try.results37, go_sem]) rfl ⟨rfl, by first | exact (Below.refl _ _).alloc (Nat.le_refl _) _ | exact ((((Below.refl _ _).alloc (Nat.le_refl _) _).setCell (by simp) _).setCell (by simp) _).setCell (by simp) _⟩

set_option maxHeartbeats 1000000 in
theorem of_kind4 (w : World) : Calls Try.prog 37 #[.int .i64 4] w fun e w' => e = .returned (.tuple #[.agg #[(.func (.func 63) #[] #[]), (.func (.func 65) #[] #[]), (.func (.func 66) #[] #[])], .bool true]) ∧ Below w.heap.size w w' := by
  go_enter Try.func37, Try.ntmps37
  go_wp2_with fail
  exact bodyPost_ret (v := .tuple #[.agg #[(.func (.func 63) #[] #[]), (.func (.func 65) #[] #[]), (.func (.func 66) #[] #[])], .bool true]) (by simp [results, Try.results37, go_sem]) rfl ⟨rfl, by first | exact (Below.refl _ _).alloc (Nat.le_refl _) _ | exact ((((Below.refl _ _).alloc (Nat.le_refl _) _).setCell (by simp) _).setCell (by simp) _).setCell (by simp) _⟩

set_option maxHeartbeats 1000000 in
theorem of_kind5 (w : World) : Calls Try.prog 37 #[.int .i64 5] w fun e w' => e = .returned (.tuple #[.agg #[(.func (.func 59) #[] #[]), (.func (.func 67) #[] #[]), (.func (.func 58) #[] #[])], .bool true]) ∧ Below w.heap.size w w' := by
  go_enter Try.func37, Try.ntmps37
  go_wp2_with fail
  exact bodyPost_ret (v := .tuple #[.agg #[(.func (.func 59) #[] #[]), (.func (.func 67) #[] #[]), (.func (.func 58) #[] #[])], .bool true]) (by simp [results, Try.results37, go_sem]) rfl ⟨rfl, by first | exact (Below.refl _ _).alloc (Nat.le_refl _) _ | exact ((((Below.refl _ _).alloc (Nat.le_refl _) _).setCell (by simp) _).setCell (by simp) _).setCell (by simp) _⟩

set_option maxHeartbeats 1000000 in
theorem of_none (k : Int) (w : World) (hk : k < 0 ∨ 5 < k) : Calls Try.prog 37 #[.int .i64 k] w fun e w' => e = .returned (.tuple #[.agg #[.nilFunc, .nilFunc, .nilFunc], .bool false]) ∧ Below w.heap.size w w' := by
  have h0 : (k == 0) = false := by simp; omega
  have h1 : (k == 1) = false := by simp; omega
  have h2 : (k == 2) = false := by simp; omega
  have h3 : (k == 3) = false := by simp; omega
  have h4 : (k == 4) = false := by simp; omega
  have h5 : (k == 5) = false := by simp; omega
  clear hk
  go_enter Try.func37, Try.ntmps37
  go_wp2_with fail
  exact bodyPost_ret (v := .tuple #[.agg #[.nilFunc, .nilFunc, .nilFunc], .bool false]) (by simp [results, Try.results37, go_sem]) rfl ⟨rfl, by first | exact (Below.refl _ _).alloc (Nat.le_refl _) _ | exact ((((Below.refl _ _).alloc (Nat.le_refl _) _).setCell (by simp) _).setCell (by simp) _).setCell (by simp) _⟩

end Go.Proofs.Ytalgbcndifaaiaa.Wd
