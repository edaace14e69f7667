/-
  slices.Repeat of a list of one number, and slices.Clone.
-/
import Derived.Test.YtffdbncjndnnaaaGaCopied
import Derived.Shelf.Bits.Mul64
import Derived.Shelf.Lay
import Derived.Laws.CopyOwn
import Derived.Deep.RegionLaw
namespace Go.Proofs.Ytffdbncjndnnaaa.Wd
open Go.RowKit Go.Shelf
set_option linter.unusedVariables false
set_option linter.unusedSimpArgs false

shelf_lay Lays.n212 Nm 212 at Try as Try.lays212
theorem mul_one (n : Nat) (hn : n ≤ 20000) (w : World) : Calls Try.prog 47 #[.int .u64 1, .int .u64 n] w fun e w' => e = .returned (.tuple #[.int .u64 0, .int .u64 n]) ∧ w = w' :=
  (Any.bits_Mul Try.lays212 1 n (by omega) (by omega) w).mono fun e w' ⟨he, hw⟩ => ⟨by
    rw [he, show 1 * n / 18446744073709551616 = 0 by omega, show 1 * n % 18446744073709551616 = n by omega]
    rfl, hw.symm⟩

/-- k times x, then zeros, n in all. -/
def repL (n k : Nat) (x : Int) : List Value := List.replicate k (.int .i64 x) ++ List.replicate (n - k) (.int .i64 0)
theorem repL_len {n k : Nat} (x : Int) (h : k ≤ n) : (repL n k x).length = n := by
  unfold repL
  rw [List.length_append, List.length_replicate, List.length_replicate]
  omega
theorem repL_splice {n k j : Nat} (x : Int) (h : k + j ≤ n) : splice (repL n k x) k (List.replicate j (.int .i64 x)) = repL n (k + j) x := by
  unfold splice repL
  rw [List.take_left' (by simp), List.length_replicate, List.drop_append, List.length_replicate]
  have e1 : List.drop (k + j) (List.replicate k (Value.int .i64 x)) = [] := List.drop_eq_nil_of_le (by simp)
  rw [e1, List.nil_append, show k + j - k = j by omega, List.drop_replicate, ← List.append_assoc, List.replicate_append_replicate, show n - k - j = n - (k + j) by omega]
theorem repL_made (n : Nat) : (madeCells #[.int .i64 0] n).toList = repL n 0 0 := by
  unfold repL
  apply List.ext_getElem?
  intro i
  by_cases h : i < n
  · simp [madeCells, h, Nat.mod_one]
  · have h1 : (madeCells #[Value.int .i64 0] n).toList[i]? = none := List.getElem?_eq_none (by rw [Array.length_toList, size_madeCells]; omega)
    rw [h1]
    exact (List.getElem?_eq_none (by simp; omega)).symm
theorem repL_row {w : World} {b n : Nat} {x : Int} (h : w.heap[b]? = some (.cells (repL n n x).toArray 3 (0, 0))) : w.rowIs b 3 n (fun _ => .int .i64 x) :=
  ⟨_, h, by simp [repL], fun i hi => by simp [repL, hi]⟩

set_option maxRecDepth 100000 in
set_option maxHeartbeats 4000000 in
theorem repeat_any (A : Option Addr) (c n : Nat) (x : Int) (w : World) (h : Ints w A 1 [x]) (hn : n ≤ 20000) :
    Calls Try.prog 29 #[.slice A 1 c, .int .i64 n] w fun e w' => ∃ b, e = .returned (.slice (some ⟨b, 0, none⟩) n n) ∧ w.heap.size ≤ b ∧ w'.rowIs b 3 n (fun _ => .int .i64 x) ∧ Below w.heap.size w w' := by
  have hn0 : (0 : Int) ≤ (n : Int) := by omega
  have hmk := run_make_row' (P := Try.prog) 22 3 (.int .i64 0) 8 Try.underlying22 g_ints_info rfl .i64 .i64 n (by omega) (by omega)
  obtain ⟨bA, oA, rfl, hbA, hcA⟩ := h.2 (by omega)
  have hc0 := hcA 0 (by omega)
  rw [Nat.add_zero] at hc0
  have HC0 := Lib.hid hc0
  clear hcA hc0 h
  have HM := Lib.hid (fun w => mul_one n hn w)
  have hn1 : (n : Int) ≤ 20000 := by omega
  have hw1 : IntKind.u64.wrap (n : Int) = (n : Int) := by rw [IntKind.wrap_u64]; omega
  go_enter Try.func29, Try.ntmps29
  go_wp2_with fail
  refine (HM.out _).mono ?_
  rintro r w1 ⟨rfl, rfl⟩
  obtain ⟨k0, hk0, HK0⟩ : ∃ k0, Nat.min 1 n = k0 ∧ Hid (k0 ≤ n ∧ (n = 0 ∨ k0 = 1)) := ⟨_, rfl, Nat.min_le_right 1 n, by
    rcases Nat.eq_zero_or_pos n with h | h
    · exact .inl h
    · exact .inr (Nat.min_eq_left h)⟩
  have HKQ := Lib.hid hk0
  clear hk0
  obtain ⟨cs, hcs, HCS⟩ : ∃ cs, List.replicate k0 (Value.int .i64 x) = cs ∧ Hid (List.replicate k0 (Value.int .i64 x) = cs) := ⟨_, rfl, rfl⟩
  have HCL := Lib.hid (show cs.length = k0 by rw [← hcs]; simp)
  clear hcs
  have HGG := Lib.hid (show (w.alloc (.cells (madeCells #[.int .i64 0] n) 3)).heap[w.heap.size]? = some (.cells (repL n 0 x).toArray 3 (0, 0)) by rw [al_at, if_pos rfl, show repL n 0 x = repL n 0 0 from by simp [repL], ← repL_made])
  have HSRC := Lib.hid (show ∀ j v, cs[j]? = some v → (w.alloc (.cells (madeCells #[.int .i64 0] n) 3)).cell? ((⟨bA, oA, none⟩ : Addr).add j) = some v from fun j v hj => by
      have hjl := (List.getElem?_eq_some_iff.1 hj).1
      rw [HCL.out] at hjl
      have hj0 : j = 0 := by have := HK0.out; omega
      subst hj0
      rw [← HCS.out] at hj
      have hv : v = .int .i64 x := by
        have hk1 : k0 = 1 := by have := HK0.out; omega
        rw [hk1] at hj
        simpa using hj.symm
      rw [hv, Addr.add_lit, Nat.add_zero]
      refine (Below.cell (p := ⟨bA, oA, none⟩) ((Below.refl w.heap.size w).alloc (Nat.le_refl _) _) hbA).trans (HC0.out.trans rfl))
  have HFIT := Lib.hid (show 0 + cs.length ≤ (repL n 0 x).length by rw [HCL.out, repL_len x (Nat.zero_le n)]; have := HK0.out.1; omega)
  have HONE := Lib.hid (show ∀ u ∈ cs, u.oneCell' = true from fun u hu => by rw [← HCS.out] at hu; rw [List.eq_of_mem_replicate hu]; rfl)
  go_wp2_with (refine wpList_copy_splice rfl _ _ 22 22 rfl 3 Try.underlying22 (by kernel_rfl) (some ⟨w.heap.size, 0, none⟩) (some ⟨bA, oA, none⟩) n n 1 c (by rfl) (by rfl) w.heap.size 0 (repL n 0 x) 3 HGG.out cs (by rw [HCL.out, HKQ.out]) (fun _ => ⟨rfl, _, rfl, HSRC.out⟩) HFIT.out HONE.out w.heap.size w ((Below.refl _ _).alloc (Nat.le_refl _) _) (Nat.le_refl _) ?_; intro w2 HG2 hB2; have HB2 := Lib.hid hB2; rw [HCL.out]; clear hB2)
  have HR2 := Lib.hid (show w2.heap[w.heap.size]? = some (.cells (repL n k0 x).toArray 3 (0, 0)) from by
    have h := HG2.out
    rw [← HCS.out, repL_splice x (by have := HK0.out.1; omega), Nat.zero_add] at h
    exact h)
  clear HG2 HCS HCL HGG HSRC HFIT HONE HM hmk
  obtain ⟨b, hb, HB⟩ : ∃ b, w.heap.size = b ∧ Hid (w.heap.size = b) := ⟨_, rfl, rfl⟩
  rw [hb] at HR2
  simp only [hb]
  have hk00 : (0 : Int) ≤ (k0 : Int) := by omega
  clear hb
  go_loopg [8] (n - k0) (fun g i wx => ∃ k : Nat, k + g = n ∧ (n = 0 ∨ 1 ≤ k) ∧ i = .int .i64 k ∧ Hid (wx.heap[b]? = some (.cells (repL n k x).toArray 3 (0, 0))) ∧ Hid (Below w.heap.size w wx))
  case atStart => exact ⟨k0, by have := HK0.out.1; omega, by have := HK0.out.2; omega, rfl, HR2.out, HB2.out⟩
  case round =>
    obtain ⟨k, hkg, hk1, rfl, HRX, HBX⟩ := hrel
    have hk0' : (0 : Int) ≤ (k : Int) := by omega
    cases gk with
    | zero =>
      obtain rfl : n = k := by omega
      go_wp2_with fail
      go_ret
      exact ⟨b, rfl, by rw [HB.out]; exact Nat.le_refl _, repL_row HRX.out, HBX.out⟩
    | succ g =>
      have hkn : k < n := by omega
      have hkn2 : (k : Int) < (n : Int) := by omega
      obtain ⟨j, hjj, HJ⟩ : ∃ j, Nat.min k (n - k) = j ∧ Hid (j ≤ k ∧ j ≤ n - k ∧ (n = 0 ∨ 1 ≤ j)) := ⟨_, rfl, Nat.min_le_left _ _, Nat.min_le_right _ _, by
        have : 1 ≤ Nat.min k (n - k) := by rw [Nat.le_min]; omega
        omega⟩
      have HJQ := Lib.hid hjj
      clear hjj
      obtain ⟨ds, hds, HDS⟩ : ∃ ds, List.replicate j (Value.int .i64 x) = ds ∧ Hid (List.replicate j (Value.int .i64 x) = ds) := ⟨_, rfl, rfl⟩
      have HDL := Lib.hid (show ds.length = j by rw [← hds]; simp)
      clear hds
      have HSRC := Lib.hid (show ∀ i v, ds[i]? = some v → wr.cell? ((⟨b, 0, none⟩ : Addr).add i) = some v from fun i v hi => by
        have hil := (List.getElem?_eq_some_iff.1 hi).1
        rw [HDL.out] at hil
        have hjk := HJ.out
        rw [← HDS.out] at hi
        rw [Addr.add_lit, Nat.zero_add, cell_of_heap HRX.out]
        rw [List.getElem?_replicate, if_pos hil] at hi
        rw [← hi]
        simp [repL, List.getElem?_append_left (show i < (List.replicate k (Value.int IntKind.i64 x)).length by simp; omega), List.getElem?_replicate, show i < k by omega])
      have HFIT := Lib.hid (show k + ds.length ≤ (repL n k x).length by rw [HDL.out, repL_len x (by omega)]; have := HJ.out; omega)
      have HONE := Lib.hid (show ∀ u ∈ ds, u.oneCell' = true from fun u hu => by rw [← HDS.out] at hu; rw [List.eq_of_mem_replicate hu]; rfl)
      have hkn3 : ¬ n = k := by omega
      have hkn4 : k ≤ n := by omega
      have hj0 : (0 : Int) ≤ (j : Int) := by omega
      have hwk : IntKind.i64.wrap ((k : Int) + (j : Int)) = ((k + j : Nat) : Int) := by have := HJ.out; rw [IntKind.wrap_i64]; omega
      have hjn : (j : Int) ≤ 20000 := by have := HJ.out; omega
      go_wp2_with fail
      go_region_law (refine step_copy_splice rfl _ _ 22 22 rfl 3 Try.underlying22 (by kernel_rfl) (some ⟨b, k, none⟩) (some ⟨b, 0, none⟩) (n - k) (n - k) k n (by rfl) (by rfl) b k (repL n k x) 3 HRX.out ds (by rw [HDL.out, HJQ.out]) (fun _ => ⟨rfl, _, rfl, HSRC.out⟩) HFIT.out HONE.out w.heap.size w (HBX.out.drew) (by rw [HB.out]; exact Nat.le_refl _) ?_; intro w4 HG4 hB4; have HB4 := Lib.hid hB4; rw [HDL.out]; clear hB4)
      all_goals
        go_wp2_with fail
        go_roundg (n - (k + j))
        case measure => have := HJ.out; omega
        case rel =>
          have hjj := HJ.out
          exact ⟨k + j, by omega, by omega, by first | rfl | (rw [hwk]) | go_num, by
            have h := HG4.out
            rw [← HDS.out, repL_splice x (by omega)] at h
            exact h, HB4.out⟩

end Go.Proofs.Ytffdbncjndnnaaa.Wd
