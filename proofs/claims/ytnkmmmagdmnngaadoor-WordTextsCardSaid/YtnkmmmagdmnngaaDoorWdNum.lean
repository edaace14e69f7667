/-
  isDigit, digitsEnd and number of package word.
-/
import Derived.Test.YtnkmmmagdmnngaaDoorWdRd
import Derived.Laws.RangeString
namespace Go.Proofs.YtnkmmmagdmnngaaDoor.Wd
open Go.RowKit
set_option linter.unusedVariables false

theorem isDigit_any (c : UInt8) (b : Bool) (w : World) (hb : isDig c = b) :
    Calls Tryd.prog 122 #[.int .u8 c.toNat] w fun e w' => e = .returned (.bool b) ∧ w = w' := by
  subst hb
  by_cases h1 : 48 ≤ (c.toNat : Int)
  · have hd : isDig c = decide ((c.toNat : Int) ≤ 57) := by simp [isDig, h1]
    have HD := Lib.hid hd
    clear hd
    go_enter Tryd.func122, Tryd.ntmps122
    go_wp2
    go_ret
    exact ⟨ret_bool HD.out.symm, rfl⟩
  · have hd : isDig c = false := by simp [isDig, h1]
    have HD := Lib.hid hd
    clear hd
    go_enter Tryd.func122, Tryd.ntmps122
    go_wp2
    go_ret
    exact ⟨ret_bool HD.out.symm, rfl⟩

/-- The digits that stand at a place of a text. -/
def runAt (s : ByteArray) (k : Nat) : List UInt8 := (s.data.toList.drop k).takeWhile isDig

theorem take_lt {p : UInt8 → Bool} {l : List UInt8} {j : Nat} (h : j < (l.takeWhile p).length) (h' : j < l.length) : p l[j] = true := by
  induction l generalizing j with
  | nil => simp at h
  | cons a l ih =>
    by_cases ha : p a = true
    · rw [List.takeWhile_cons_of_pos ha] at h
      cases j with
      | zero => exact ha
      | succ j => exact ih (by simpa using h) (by simpa using h')
    · rw [List.takeWhile_cons_of_neg ha] at h
      simp at h
theorem take_end {p : UInt8 → Bool} {l : List UInt8} (h : (l.takeWhile p).length < l.length) : p l[(l.takeWhile p).length] = false := by
  induction l with
  | nil => simp at h
  | cons a l ih =>
    by_cases ha : p a = true
    · have e : (List.takeWhile p (a :: l)).length = (List.takeWhile p l).length + 1 := by rw [List.takeWhile_cons_of_pos ha]; rfl
      have h2 : (List.takeWhile p l).length < l.length := by rw [e] at h; simpa using h
      have := ih h2
      simp only [e, List.getElem_cons_succ]
      exact this
    · have e : (List.takeWhile p (a :: l)).length = 0 := by rw [List.takeWhile_cons_of_neg ha]; rfl
      simp only [e, List.getElem_cons_zero]
      simpa using ha
theorem byte_at (s : ByteArray) (k j : Nat) (h : k + j < s.size) : (s.data.toList.drop k)[j]'(by simp; show j < s.size - k; omega) = s[k + j] := by
  simp
  rfl
theorem runAt_le (s : ByteArray) (k : Nat) : (runAt s k).length ≤ s.size - k := by
  unfold runAt
  have := (List.takeWhile_sublist isDig (l := s.data.toList.drop k)).length_le
  simp at this
  exact this
theorem runAt_lt {s : ByteArray} {k j : Nat} (h : j < (runAt s k).length) (h' : k + j < s.size) : isDig s[k + j] = true := by
  rw [← byte_at s k j h']
  exact take_lt h _
theorem runAt_end {s : ByteArray} {k : Nat} (h : k + (runAt s k).length < s.size) : isDig s[k + (runAt s k).length] = false := by
  have := take_end (p := isDig) (l := s.data.toList.drop k) (by show (runAt s k).length < _; simp; show _ < s.size - k; omega)
  rw [← byte_at s k _ h]
  exact this

set_option maxHeartbeats 400000 in
theorem digitsEnd_any (s : ByteArray) (k : Nat) (w : World) (hs : s.size ≤ 100000) (hk : k ≤ s.size) :
    Calls Tryd.prog 123 #[.string s, .int .i64 k] w fun e w' => e = .returned (.int .i64 ((k + (runAt s k).length : Nat) : Int)) ∧ w = w' := by
  have hr := runAt_le s k
  have H1 := Lib.hid (fun j h h' => runAt_lt (s := s) (k := k) (j := j) h h')
  have H2 := Lib.hid (fun h => runAt_end (s := s) (k := k) h)
  generalize hq : (runAt s k).length = q at *
  clear hq
  go_enter Tryd.func123, Tryd.ntmps123
  go_wp2
  go_loop [1] (fun i => ∃ j : Nat, j ≤ q ∧ i = .int .i64 ((k + j : Nat) : Int)) (fun i => s.size - (intOf i).toNat)
  case atStart => exact ⟨0, by omega, rfl⟩
  case round =>
    obtain ⟨j, hj, rfl⟩ := hrel
    generalize hi : k + j = i at *
    by_cases hjq : j < q
    · have hlt : i < s.size := by omega
      have hd := H1.out j hjq (by omega)
      simp only [hi] at hd
      go_wp2_with fail
      refine (isDigit_any s[i] true _ hd).mono ?_
      rintro e w1 ⟨rfl, rfl⟩
      go_wp2_with fail
      go_round
      case rel => exact ⟨j + 1, by omega, by rw [← hi]; go_num⟩
      case measure => simp [intOf]; omega
    · obtain rfl : j = q := by omega
      by_cases hlt : i < s.size
      · have hd := H2.out (by omega)
        simp only [hi] at hd
        go_wp2_with fail
        refine (isDigit_any s[i] false _ hd).mono ?_
        rintro e w1 ⟨rfl, rfl⟩
        go_wp2_with fail
        go_ret
        exact ⟨ret_int (by omega), rfl⟩
      · go_wp2_with fail
        go_ret
        exact ⟨ret_int (by omega), rfl⟩

theorem numFrom_snoc (m v : Int) (l : List UInt8) (c : UInt8) : numFrom m v (l ++ [c]) = min (10 * numFrom m v l + ((c.toNat : Int) - 48)) m := by
  unfold numFrom
  rw [List.foldl_append]
  rfl
theorem numOf_small (l : List UInt8) (h : ∀ d ∈ l, isDig d = true) : 0 ≤ numOf 64 l ∧ numOf 64 l ≤ 64 := by
  have h1 := numFrom_cap l 0 (by omega) h
  unfold numOf
  have e : numFrom 64 0 l = cap (numFrom 1000 0 l) := h1.1
  rw [e]
  unfold cap
  omega
theorem take_snoc' (s : ByteArray) (k : Nat) (h : k < s.size) : s.data.toList.take (k + 1) = s.data.toList.take k ++ [s[k]] := by
  rw [List.take_succ_eq_append_getElem (by simpa using h)]; rfl

set_option maxHeartbeats 400000 in
theorem number_any (s : ByteArray) (w : World) (hs : s.size ≤ 100000) (hd : Hid (∀ d ∈ s.data.toList, isDig d = true)) :
    Calls Tryd.prog 124 #[.string s] w fun e w' => e = .returned (.int .i64 (numOf 64 s.data.toList)) ∧ Below w.heap.size w w' := by
  go_enter Tryd.func124, Tryd.ntmps124
  go_wp2
  go_loopw [3] (fun n w' => ∃ (pos : Nat), pos ≤ s.size ∧ w' = w.iter s pos ∧ n = .int .i64 (numOf 64 (s.data.toList.take pos))) (fun _ w' => s.size - w'.iterPos w.heap.size)
  case atStart => exact ⟨0, by omega, rfl, rfl⟩
  case round =>
    obtain ⟨pos, hle, rfl, rfl⟩ := hrel
    have hb := numOf_small (s.data.toList.take pos) (fun d hm => hd.out d (List.mem_of_mem_take hm))
    by_cases hp : pos < s.size
    · have hc := isDig_iff.1 (hd.out s[pos] (by rw [show s[pos] = s.data.toList[pos]'(by simpa using hp) from rfl]; exact List.getElem_mem _))
      have HN := Lib.hid (numFrom_snoc 64 0 (s.data.toList.take pos) s[pos])
      have HT := Lib.hid (take_snoc' s pos hp)
      have hnx := fun ty => run_next_ascii (P := Tryd.prog) w s pos ty hp (by omega)
      generalize hv : numOf 64 (s.data.toList.take pos) = v at *
      have HV := Lib.hid hv
      clear hv
      go_wp2
      go_roundw
      case rel =>
        refine ⟨pos + 1, by omega, rfl, ?_⟩
        rw [HT.out]
        unfold numOf
        rw [HN.out]
        show _ = Value.int .i64 (min (10 * numOf 64 _ + _) _)
        rw [HV.out]
        congr 1
        split <;> omega
      case measure => simp; omega
    · have hnx := fun ty => run_next_end (P := Tryd.prog) w s pos ty hp
      go_wp2
      go_ret
      refine ⟨ret_int ?_, ?_⟩
      · rw [List.take_of_length_le (by simp; show s.size ≤ pos; omega)]
      · exact (Below.refl _ _).alloc (Nat.le_refl _) _

end Go.Proofs.YtnkmmmagdmnngaaDoor.Wd
