/-
  Valid of the reference of layer 5, for all automata.
  slices.Clone at []int, and rotated of package word.
  rotated of package word.
  period of package word: the least period of a list.
  The normal form that package word reckons: the loop cut to its period, turned back by as many letters as the stem gives up. No program in it.
  normal of package word: it returns the normal form.
  slices.Equal at []int, and lodesmanref01.List and Written: the lists are equal.
  Letters of the reference, Normal and Same of package word.
  At of package word and of lodesmanlaw01's reference; Letter, Valid and Is of the reference.
  Letter, Valid, Is and At of the reference.
-/
import Derived.Test.YtfblnadmbfhjiaaW06
import Derived.Test.YtfblnadmbfhjiaaW07
import Derived.Test.YtfblnadmbfhjiaaW08
import Derived.Test.YtfblnadmbfhjiaaW09
import Derived.Test.YtfblnadmbfhjiaaW10
import Derived.Test.YtfblnadmbfhjiaaW04
import Derived.Test.YtfblnadmbfhjiaaW01
import Derived.Deep.RegionHeld3
import Derived.BigRegion
import Derived.Deep.RegionLaw
namespace Go.Proofs.Ytfblnadmbfhjiaa.Wd
open Go.RowKit
set_option linter.unusedVariables false

theorem refValid_ok : RefValidOK := by
  intro P S K M A E n c ne ce st es w ha hn hE hne
  by_cases h : headP P S K
  · cases hq : marksB K M
    · exact refValid_marks P S K M A E n c ne ce st es w h hq
    · by_cases hm : 40000 < ne
      · exact refValid_many P S K M A E n c ne ce st es w h hq hE.1 hne hm
      · have hfew := autB_few (P := P) (S := S) (st := st) (es := es) h hq (by have := hE.1; omega)
        rw [hfew]
        obtain ⟨h1, h2, h3, h4, h5, h6⟩ := h
        obtain ⟨p, rfl⟩ := Int.eq_ofNat_of_zero_le h1
        obtain ⟨hm0, hm4⟩ := marksB_few hq
        obtain ⟨m, rfl⟩ := Int.eq_ofNat_of_zero_le hm0
        rw [Int.toNat_natCast, Int.toNat_natCast]
        rcases wrong_ways p m S es ne hE.1 with hw | hw | hw | hw | hw
        · exact refValid_a p m S K A E n c ne ce st es w (by omega) (by omega) h3 h4 h5 h6 hq ha hn hE (by omega) hw
        · exact refValid_b p m S K A E n c ne ce st es w (by omega) (by omega) h3 h4 h5 h6 hq ha hn hE (by omega) hw
        · exact refValid_c p m S K A E n c ne ce st es w (by omega) (by omega) h3 h4 h5 h6 hq ha hn hE (by omega) hw
        · exact refValid_d p m S K A E n c ne ce st es w (by omega) (by omega) h3 h4 h5 h6 hq ha hn hE (by omega) hw
        · exact refValid_e p m S K A E n c ne ce st es w (by omega) (by omega) h3 h4 h5 h6 hq ha hn hE (by omega) hw
  · exact refValid_head P S K M A E n c ne ce st es w h

end Go.Proofs.Ytfblnadmbfhjiaa.Wd

namespace Go.Proofs.Ytfblnadmbfhjiaa.Wd
open Go.RowKit

theorem int_info : (Try.prog.info? 3).map (fun i => (i.zero, i.size, i.bytes)) = some (some (.int .i64 0), 1, 8) := by kernel_rfl

set_option maxRecDepth 100000 in
set_option maxHeartbeats 800000 in
theorem clone_any (A : Option Addr) (n c : Nat) (xs : List Int) (w : World) (h : Ints w A n xs) (hn : n ≤ 100000) :
    Calls Try.prog 81 #[.slice A n c] w fun e w' => ∃ v, e = .returned v ∧ w'.ownsRow w.heap.size 3 1 v n (xs.map (Value.int .i64)) ∧ Below w.heap.size w w' := by
  obtain ⟨i0, hi, hz0, hz1, hz2⟩ := info_parts int_info
  have q22 : ∀ (w : World) (a : Option Addr) (n c n' c' : Nat), (binOp .eql 22 (.slice a n c) (.slice none n' c')).run Try.prog w = .ok (.bool a.isNone) w := fun w a n c n' c' => Lib.run_eql_slice_nil w _ _ a n c n' c' Try.underlying22
  have u22 : ∀ w, Sem.run Try.prog (underlying 22) w = .ok (TypeDesc.slice 3) w := run_underlying Try.underlying22
  cases A with
  | none =>
    obtain rfl : n = 0 := by
      rcases Nat.eq_zero_or_pos n with h0 | h0
      · exact h0
      · obtain ⟨b, off, e, _⟩ := h.2 h0
        cases e
    obtain rfl : xs = [] := List.eq_nil_of_length_eq_zero h.1
    go_enter Try.func81, Try.ntmps81
    go_wp2
    go_ret
    exact ⟨_, rfl, ⟨by simp, .inl ⟨rfl, rfl⟩⟩, Below.refl _ _⟩
  | some a =>
    have hx := h.1
    have HA : Aside (∀ W : World, (W = w.alloc (.cells #[] 3)) → ∀ j u, (xs.map (Value.int .i64))[j]? = some u → W.cell? (a.add j) = some u) := by
      rintro W rfl j u hu
      have hj : j < n := by
        have := (List.getElem?_eq_some_iff.1 hu).1
        simp at this; omega
      obtain ⟨b, off, e, hb, hc⟩ := (h.alloc (.cells #[] 3)).at_ hj
      injection e with e
      subst e
      exact Ints.news hx hc j u hu
    clear h
    go_enter Try.func81, Try.ntmps81
    go_wp2_with (at_builtin; refine wpList_append_own _ rfl _ _ 22 rfl w.heap.size 3 i0 (.int .i64 0) 1 8 Try.underlying22 hi hz0 hz1 hz2 rfl (by decide) _ _ _ rfl (World.ownsRow_made w #[] 0 (Nat.le_refl _) (Nat.zero_le _) rfl) a n c (xs.map (Value.int .i64)) rfl ?qc1 ?qc2 ?qc3 ?qc4 ?qc5 ?qc6 ?_)
    case qc1 => simp; omega
    case qc2 => exact HA.out _ rfl
    case qc3 => exact ones xs
    case qc4 => unfold maxLen; omega
    case qc5 => omega
    case qc6 => simp
    intro v' w1 hown hgrow hnil
    go_wp2
    go_ret
    exact ⟨v', rfl, by simpa using hown, ((Below.refl _ w).alloc (Nat.le_refl _) _).grown hgrow (by simp) (by intro k hk; simp [Value.ownBlock] at hk; omega)⟩

/-- The same, the result written as a slice. -/
theorem clone_slice (A : Option Addr) (n c : Nat) (xs : List Int) (w : World) (h : Ints w A n xs) (hn : n ≤ 100000) :
    Calls Try.prog 81 #[.slice A n c] w fun e w' => ∃ A' c', e = .returned (.slice A' n c') ∧ w'.ownsRow w.heap.size 3 1 (.slice A' n c') n (xs.map (Value.int .i64)) ∧ n ≤ c' ∧ Below w.heap.size w w' :=
  (clone_any A n c xs w h hn).mono fun _ _ ⟨v, he, ho, hb⟩ => by
    obtain ⟨A', c', rfl, hc⟩ := own_slice ho
    exact ⟨A', c', he, ho, hc, hb⟩

end Go.Proofs.Ytfblnadmbfhjiaa.Wd

namespace Go.Proofs.Ytfblnadmbfhjiaa.Wd
open Go.RowKit

end Go.Proofs.Ytfblnadmbfhjiaa.Wd

namespace Go.Proofs.Ytfblnadmbfhjiaa.Wd
open Go.RowKit

theorem per_test {xs : List Int} {p : Nat} (h : ((xs.length : Int) % (p : Int) != 0) = false) : xs.length % p = 0 := by
  have h2 : ((xs.length : Int) % (p : Int)) = 0 := by simpa using h
  omega

theorem per_test' {n p : Nat} (h : ((n : Int) % (p : Int) != 0) = true) : ¬ n % p = 0 := by
  have h2 : ¬ ((n : Int) % (p : Int)) = 0 := by simpa using h
  omega
theorem per_more {xs : List Int} {p j : Nat} (h : ∀ t, p ≤ t → t < j → xs.getD t 0 = xs.getD (t - p) 0) (he : xs.getD j 0 = xs.getD (j - p) 0) :
    ∀ t, p ≤ t → t < j + 1 → xs.getD t 0 = xs.getD (t - p) 0 := by
  intro t h1 h2
  rcases Nat.lt_or_ge t j with hl | hg
  · exact h t h1 hl
  · obtain rfl : t = j := by omega
    exact he
theorem per_next {xs : List Int} {p : Nat} (h : ∀ q, 1 ≤ q → q < p → ¬ Per xs q) (hp : ¬ Per xs p) : ∀ q, 1 ≤ q → q < p + 1 → ¬ Per xs q := by
  intro q h1 h2
  rcases Nat.lt_or_ge q p with hl | hg
  · exact h q h1 hl
  · obtain rfl : q = p := by omega
    exact hp

end Go.Proofs.Ytfblnadmbfhjiaa.Wd

namespace Go.Proofs.Ytfblnadmbfhjiaa.Wd

theorem turn_mod (y j p : Nat) (hp : 0 < p) : ((y + j) % p + (p - j % p)) % p = y % p := by
  rw [Nat.mod_add_mod]
  have h1 := Nat.div_add_mod j p
  have h2 := Nat.mod_lt j hp
  have : y + j + (p - j % p) = y + p * (j / p + 1) := by
    rw [Nat.mul_add, Nat.mul_one]; omega
  rw [this, Nat.add_mul_mod_self_left]
theorem turn_mod' (i j p : Nat) (hp : 0 < p) (hi : i < j) : ((j - 1 - i) % p + (p - j % p)) % p = p - 1 - i % p := by
  rw [Nat.mod_add_mod]
  have h1 := Nat.div_add_mod j p
  have h2 := Nat.mod_lt j hp
  have h3 := Nat.div_add_mod i p
  have h4 := Nat.mod_lt i hp
  have hq : i / p ≤ j / p := Nat.div_le_div_right (by omega)
  obtain ⟨d, hd⟩ : ∃ d, j / p = i / p + d := ⟨j / p - i / p, by omega⟩
  have : j - 1 - i + (p - j % p) = (p - 1 - i % p) + p * d := by
    rw [hd, Nat.mul_add] at h1
    omega
  rw [this, Nat.add_mul_mod_self_left, Nat.mod_eq_of_lt (by omega)]

/-- The list turned to begin at s. -/
def rot (l : List Int) (s : Nat) : List Int := l.drop s ++ l.take s

theorem rot_length (l : List Int) (s : Nat) : (rot l s).length = l.length := by unfold rot; rw [List.length_append, List.length_drop, List.length_take]; omega
theorem rot_getD {l : List Int} {s i : Nat} (hs : s < l.length) (hi : i < l.length) : (rot l s).getD i 0 = l.getD ((i + s) % l.length) 0 := by
  unfold rot
  simp only [List.getD_eq_getElem?_getD]
  rcases Nat.lt_or_ge i (l.length - s) with h | h
  · rw [List.getElem?_append_left (by rw [List.length_drop]; exact h), List.getElem?_drop, Nat.mod_eq_of_lt (by omega), Nat.add_comm]
  · rw [List.getElem?_append_right (by rw [List.length_drop]; exact h), List.length_drop, List.getElem?_take, if_pos (by omega)]
    rw [show (i + s) % l.length = i - (l.length - s) from by
      rw [Nat.mod_eq_sub_mod (by omega), Nat.mod_eq_of_lt (by omega)]; omega]

theorem at_turn {xs L : List Int} {j : Nat} (hp : 0 < L.length) (hj : j ≤ xs.length)
    (hm : ∀ i, i < j → xs.getD (xs.length - 1 - i) 0 = L.getD (L.length - 1 - i % L.length) 0) (k : Nat) :
    at_ (xs.take (xs.length - j)) (rot L ((L.length - j % L.length) % L.length)) k = at_ xs L k := by
  have hs : (L.length - j % L.length) % L.length < L.length := Nat.mod_lt _ hp
  have hlen : (xs.take (xs.length - j)).length = xs.length - j := by rw [List.length_take]; omega
  rcases Nat.lt_or_ge k (xs.length - j) with h1 | h1
  · rw [at_lt (by omega), at_lt (by omega)]
    simp only [List.getD_eq_getElem?_getD, List.getElem?_take]
    rw [if_pos h1]
  · rw [at_ge (by omega), rot_length, rot_getD hs (Nat.mod_lt _ hp), Nat.add_mod_mod, hlen]
    rcases Nat.lt_or_ge k xs.length with h2 | h2
    · rw [at_lt h2]
      have := hm (xs.length - 1 - k) (by omega)
      rw [show xs.length - 1 - (xs.length - 1 - k) = k from by omega] at this
      rw [this, show k - (xs.length - j) = j - 1 - (xs.length - 1 - k) from by omega, turn_mod' _ _ _ hp (by omega)]
    · rw [at_ge h2, show k - (xs.length - j) = (k - xs.length) + j from by omega, turn_mod _ _ _ hp]

theorem nf_normal {xs ys : List Int} {p j : Nat} (hP : Least ys p) (hj : j ≤ xs.length)
    (hm : ∀ i, i < j → xs.getD (xs.length - 1 - i) 0 = ys.getD (p - 1 - i % p) 0) (hend : j = xs.length ∨ xs.getD (xs.length - 1 - j) 0 ≠ ys.getD (p - 1 - j % p) 0) :
    NF (at_ xs ys) (xs.take (xs.length - j)) (rot (ys.take p) ((p - j % p) % p)) := by
  have hp1 := hP.1
  have hp2 := hP.2.1
  have hlen : (ys.take p).length = p := by rw [List.length_take]; omega
  have hget : ∀ i, i < p → (ys.take p).getD i 0 = ys.getD i 0 := fun i hi => by simp [List.getD_eq_getElem?_getD, hi]
  have hf : ∀ k, at_ (xs.take (xs.length - j)) (rot (ys.take p) ((p - j % p) % p)) k = at_ xs ys k := by
    intro k
    have := at_turn (xs := xs) (L := ys.take p) (j := j) (by omega) hj (fun i hi => by
      rw [hlen, hget _ (by omega)]; exact hm i hi) k
    rw [hlen] at this
    rw [this, at_take hP]
  refine nf_of hf (by rw [rot_length, hlen]; omega) (fun m q h => by rw [rot_length, hlen]; exact least_ev hP m q h) ?_
  rcases hend with h | h
  · left; rw [h]; simp
  · rcases Nat.lt_or_ge j xs.length with h1 | h1
    · right
      have hl : (xs.take (xs.length - j)).length = xs.length - j := by rw [List.length_take]; omega
      rw [hl, rot_length, hlen, rot_getD (by rw [hlen]; exact Nat.mod_lt _ (by omega)) (by omega), hlen, Nat.add_mod_mod]
      have hlt := Nat.mod_lt j (show 0 < p by omega)
      rw [show (p - 1 + (p - j % p)) % p = p - 1 - j % p from by
        rw [Nat.mod_eq_sub_mod (by omega), Nat.mod_eq_of_lt (by omega)]; omega]
      rw [hget _ (by omega)]
      have : (xs.take (xs.length - j)).getD (xs.length - j - 1) 0 = xs.getD (xs.length - 1 - j) 0 := by
        rw [show xs.length - j - 1 = xs.length - 1 - j from by omega]
        simp only [List.getD_eq_getElem?_getD, List.getElem?_take]
        rw [if_pos (by omega)]
      rw [this]
      exact h
    · left
      rw [show xs.length - j = 0 from by omega]; simp

end Go.Proofs.Ytfblnadmbfhjiaa.Wd

namespace Go.Proofs.Ytfblnadmbfhjiaa.Wd
open Go.RowKit
set_option linter.unusedVariables false

/-- The value v is a word of the stem s and the loop l, which lie in the world w. -/
def IsWord (w : World) (v : Value) (s l : List Int) : Prop :=
  ∃ (A : Option Addr) (n c : Nat) (B : Option Addr) (m d : Nat), v = .agg #[.slice A n c, .slice B m d] ∧ Ints w A n s ∧ Ints w B m l ∧ n ≤ c ∧ m ≤ d

theorem IsWord.below {w w' : World} {v : Value} {s l : List Int} (h : IsWord w v s l) (hb : Below w.heap.size w w') : IsWord w' v s l := by
  obtain ⟨A, n, c, B, m, d, rfl, h1, h2, h3, h4⟩ := h
  exact ⟨A, n, c, B, m, d, rfl, h1.below hb, h2.below hb, h3, h4⟩

theorem back_more {xs ys : List Int} {n p j : Nat} (h : ∀ i, i < j → xs.getD (n - 1 - i) 0 = ys.getD (p - 1 - i % p) 0) (he : xs.getD (n - 1 - j) 0 = ys.getD (p - 1 - j % p) 0) :
    ∀ i, i < j + 1 → xs.getD (n - 1 - i) 0 = ys.getD (p - 1 - i % p) 0 := by
  intro i hi
  rcases Nat.lt_or_ge i j with hl | hg
  · exact h i hl
  · obtain rfl : i = j := by omega
    exact he

theorem start_turn (j p : Nat) (hp : 0 < p) : ∃ s : Nat, -((j : Int) % (p : Int)) % (p : Int) = (s : Int) ∧ (p - j % p) % p = s := ⟨_, by
  have := Nat.mod_lt j hp
  have e : -((j : Int) % (p : Int)) % (p : Int) = ((p : Int) - (j : Int) % (p : Int)) % (p : Int) := by simp
  rw [e, Int.natCast_emod, Int.ofNat_sub (by omega), Int.natCast_emod], rfl⟩

end Go.Proofs.Ytfblnadmbfhjiaa.Wd

namespace Go.Proofs.Ytfblnadmbfhjiaa.Wd
open Go.RowKit

/-- Are the lists equal? -/
def eqB (xs ys : List Int) : Bool := decide (xs = ys)
theorem eqB_len {xs ys : List Int} (h : xs.length ≠ ys.length) : eqB xs ys = false := by
  simp only [eqB, decide_eq_false_iff_not]; intro e; exact h (by rw [e])
theorem eqB_part {xs ys : List Int} {k : Nat} (hk : xs.getD k 0 ≠ ys.getD k 0) : eqB xs ys = false := by
  simp only [eqB, decide_eq_false_iff_not]; intro e; exact hk (by rw [e])
theorem eqB_all {xs ys : List Int} (hl : xs.length = ys.length) (h : ∀ i, i < xs.length → xs.getD i 0 = ys.getD i 0) : eqB xs ys = true := by
  simp only [eqB, decide_eq_true_eq]
  apply List.ext_getElem hl
  intro i h1 h2
  have := h i h1
  simpa [List.getD_eq_getElem?_getD, List.getElem?_eq_getElem h1, List.getElem?_eq_getElem h2] using this
theorem agree_more {xs ys : List Int} {k : Nat} (h : ∀ i, i < k → xs.getD i 0 = ys.getD i 0) (he : xs.getD k 0 = ys.getD k 0) : ∀ i, i < k + 1 → xs.getD i 0 = ys.getD i 0 := by
  intro i hi
  rcases Nat.lt_or_ge i k with hl | hg
  · exact h i hl
  · obtain rfl : i = k := by omega
    exact he

set_option maxHeartbeats 800000 in
theorem list_any (A B : Option Addr) (n c m d : Nat) (xs ys : List Int) (w : World) (h : Ints w A n xs) (h' : Ints w B m ys) (hn : n ≤ 100000) (hm : m ≤ 100000) :
    Calls Try.prog 21 #[.slice A n c, .slice B m d] w fun e w' => ∃ k : Nat, e = .returned (.bool (eqB xs ys)) ∧ w' = w.drewN k := by
  have HX := Lib.hid h.1
  have HY := Lib.hid h'.1
  by_cases hl : n = m
  · subst hl
    have hnn : ((n : Int) != (n : Int)) = false := by simp
    go_enter Try.func21, Try.ntmps21
    go_wp2_with fail
    go_loopg [5, 13] n (fun g _ i wx => ∃ j k : Nat, j + g = n ∧ j ≤ n ∧ i = .int .i64 j ∧ wx = w.drewN k ∧ Hid (∀ i, i < j → xs.getD i 0 = ys.getD i 0))
    case atStart => exact ⟨0, 0, by omega, by omega, rfl, rfl, fun i hi => by omega⟩
    case round =>
      obtain ⟨j, k, hjg, hjn, rfl, rfl, HI⟩ := hrel
      by_cases hjl : j < n
      · obtain ⟨bA, oA, rfl, hbA, hca⟩ := h.at_ hjl
        obtain ⟨bB, oB, rfl, hbB, hcb⟩ := h'.at_ hjl
        have c1 := hca j hjl
        have c2 := hcb j hjl
        clear hca hcb h h'
        generalize hva : xs.getD j 0 = va at c1
        generalize hvb : ys.getD j 0 = vb at c2
        have HA := Lib.hid hva
        have HB := Lib.hid hvb
        clear hva hvb
        cases gk with
        | zero => exfalso; omega
        | succ g =>
        cases he : (va != vb)
        · have HE := Lib.hid (show va = vb by simpa using he)
          go_wp2_with fail
          go_quiet (fail)
          go_wp2_with fail
          go_roundg g
          case measure => omega
          case rel => exact ⟨j + 1, _, by omega, by omega, by go_num, rfl, agree_more HI.out (by rw [HA.out, HB.out, HE.out])⟩
        · have HE := Lib.hid (show ¬ va = vb by simpa using he)
          go_wp2_with fail
          go_quiet (fail)
          go_wp2_with fail
          go_ret
          exact ⟨_, ret_bool (eqB_part (k := j) (by rw [HA.out, HB.out]; exact HE.out)).symm, World.drewN_drewN _ _ _⟩
      · go_wp2_with fail
        go_ret
        exact ⟨_, ret_bool (eqB_all (by rw [HX.out, HY.out]) (fun i hi => HI.out i (by rw [HX.out] at hi; omega))).symm, rfl⟩
  · have hnn : ((n : Int) != (m : Int)) = true := by simp; omega
    go_enter Try.func21, Try.ntmps21
    go_wp2_with fail
    go_ret
    exact ⟨0, ret_bool (eqB_len (by rw [HX.out, HY.out]; exact hl)).symm, rfl⟩

end Go.Proofs.Ytfblnadmbfhjiaa.Wd

namespace Go.Proofs.Ytfblnadmbfhjiaa.Wd
open Go.RowKit
set_option linter.unusedVariables false

theorem mod_toNat {k n m : Nat} (h : n ≤ k) : (((k : Int) - (n : Int)) % (m : Int)).toNat = (k - n) % m := by
  rw [show (k : Int) - n = ((k - n : Nat) : Int) by omega, ← Int.natCast_emod, Int.toNat_natCast]

set_option maxRecDepth 100000 in
set_option maxHeartbeats 800000 in
theorem letters_any (v : Value) (s l : List Int) (k : Nat) (w : World) (h : IsWord w v s l) (h1 : s.length + l.length ≤ 100000) (h0 : 0 < l.length) (hk : k ≤ 1000000) :
    Calls Try.prog 51 #[v, .int .i64 k] w fun e w' => e = .returned (.int .i64 (at_ s l k)) ∧ Below w.heap.size w w' := by
  obtain ⟨A, n, c, B, m, d, rfl, ha, hb, _, _⟩ := h
  have e1 := ha.1
  have e2 := hb.1
  by_cases hkn : k < n
  · obtain ⟨bA, oA, rfl, hbA, hca⟩ := ha.at_ hkn
    have c1 := hca k hkn
    generalize hva : s.getD k 0 = va at c1
    have HA := Lib.hid (show at_ s l k = va by rw [at_lt (by omega), hva])
    clear hva hca ha hb e1 e2 h1 h0
    go_enter Try.func51, Try.ntmps51
    go_wp2_with fail
    go_ret
    exact ⟨ret_int HA.out.symm, (Below.refl _ _).alloc (Nat.le_refl _) _⟩
  · obtain ⟨bB, oB, rfl, hbB, hcb⟩ := hb.at_ (show 0 < m by omega)
    have hm0 : 0 < m := by omega
    have hmod := Nat.mod_lt (k - n) hm0
    have c1 := hcb ((k - n) % m) hmod
    generalize hva : l.getD ((k - n) % m) 0 = va at c1
    have HA := Lib.hid (show at_ s l k = va by rw [at_ge (by omega), e1, e2, hva])
    have HE := Lib.hid (show (n : Int) ≤ k ∧ n ≤ 100000 ∧ m ≤ 100000 by omega)
    clear hva hcb ha hb e1 e2 h1 h0
    have b1 : (0 : Int) ≤ (k : Int) - n := by have := HE.out; omega
    have b2 : n ≤ 100000 := by have := HE.out; omega
    have b3 : m ≤ 100000 := by have := HE.out; omega
    have b4 : (0 : Int) ≤ ((k : Int) - n) % (m : Int) := Int.emod_nonneg _ (by omega)
    have b5 : ((k : Int) - n) % (m : Int) < (m : Int) := Int.emod_lt_of_pos _ (by omega)
    have hd : decide ((k : Int) < (n : Int)) = false := by simp; omega
    go_enter Try.func51, Try.ntmps51
    go_wp2_with fail
    have e1 : IntKind.i64.wrap ((k : Int) - (n : Int)) = (k : Int) - n := IntWalk.i64_in _ (by omega)
    have e2 : ((k : Int) - (n : Int)).tmod (m : Int) = ((k : Int) - n) % (m : Int) := Int.tmod_eq_emod_of_nonneg (by omega)
    have e3 : (((k : Int) - (n : Int)) % (m : Int)).toNat = (k - n) % m := mod_toNat (by omega)
    go_quiet (fail)
    clear e1 e2 e3
    go_wp2_with fail
    go_ret
    exact ⟨ret_int HA.out.symm, below_drewN ((Below.refl _ _).alloc (Nat.le_refl _) _) _⟩

theorem valid6 {s l : List Int} (h : validB 6 s l = true) : 0 < l.length ∧ s.length + l.length ≤ 200 := by
  simp [validB] at h
  omega

end Go.Proofs.Ytfblnadmbfhjiaa.Wd

namespace Go.Proofs.Ytfblnadmbfhjiaa.Wd
open Go.RowKit
set_option linter.unusedVariables false

set_option maxRecDepth 100000 in
set_option maxHeartbeats 800000 in
theorem letters_big (v : Value) (s l : List Int) (k : Nat) (w : World) (h : IsWord w v s l) (h1 : s.length + l.length ≤ 100000) (h0 : 0 < l.length) (hk : k ≤ 9223372036854775807) :
    Calls Try.prog 51 #[v, .int .i64 k] w fun e w' => e = .returned (.int .i64 (at_ s l k)) ∧ Below w.heap.size w w' := by
  obtain ⟨A, n, c, B, m, d, rfl, ha, hb, _, _⟩ := h
  have e1 := ha.1
  have e2 := hb.1
  by_cases hkn : k < n
  · obtain ⟨bA, oA, rfl, hbA, hca⟩ := ha.at_ hkn
    have c1 := hca k hkn
    generalize hva : s.getD k 0 = va at c1
    have HA := Lib.hid (show at_ s l k = va by rw [at_lt (by omega), hva])
    clear hva hca ha hb e1 e2 h1 h0
    go_enter Try.func51, Try.ntmps51
    go_wp2_with fail
    go_ret
    exact ⟨ret_int HA.out.symm, (Below.refl _ _).alloc (Nat.le_refl _) _⟩
  · obtain ⟨bB, oB, rfl, hbB, hcb⟩ := hb.at_ (show 0 < m by omega)
    have hm0 : 0 < m := by omega
    have hmod := Nat.mod_lt (k - n) hm0
    have c1 := hcb ((k - n) % m) hmod
    generalize hva : l.getD ((k - n) % m) 0 = va at c1
    have HA := Lib.hid (show at_ s l k = va by rw [at_ge (by omega), e1, e2, hva])
    have HE := Lib.hid (show (n : Int) ≤ k ∧ n ≤ 100000 ∧ m ≤ 100000 by omega)
    clear hva hcb ha hb e1 e2 h1 h0
    have b1 : (0 : Int) ≤ (k : Int) - n := by have := HE.out; omega
    have b2 : n ≤ 100000 := by have := HE.out; omega
    have b3 : m ≤ 100000 := by have := HE.out; omega
    have b4 : (0 : Int) ≤ ((k : Int) - n) % (m : Int) := Int.emod_nonneg _ (by omega)
    have b5 : ((k : Int) - n) % (m : Int) < (m : Int) := Int.emod_lt_of_pos _ (by omega)
    have hd : decide ((k : Int) < (n : Int)) = false := by simp; omega
    go_enter Try.func51, Try.ntmps51
    go_wp2_with fail
    have e1 : IntKind.i64.wrap ((k : Int) - (n : Int)) = (k : Int) - n := IntWalk.i64_in _ (by omega)
    have e2 : ((k : Int) - (n : Int)).tmod (m : Int) = ((k : Int) - n) % (m : Int) := Int.tmod_eq_emod_of_nonneg (by omega)
    have e3 : (((k : Int) - (n : Int)) % (m : Int)).toNat = (k - n) % m := mod_toNat (by omega)
    go_quiet (fail)
    clear e1 e2 e3
    go_wp2_with fail
    go_ret
    exact ⟨ret_int HA.out.symm, below_drewN ((Below.refl _ _).alloc (Nat.le_refl _) _) _⟩

/-- What At answers: the letter and the error. -/
def atR (s l : List Int) (k : Int) : Int × Int := if validB 6 s l = true then (if k < 0 then (0, 6) else (at_ s l k.toNat, 0)) else (0, 1)
theorem atR_bad {s l : List Int} {k : Int} (h : validB 6 s l = false) : atR s l k = (0, 1) := by simp [atR, h]
theorem atR_neg {s l : List Int} {k : Int} (h : validB 6 s l = true) (hk : k < 0) : atR s l k = (0, 6) := by simp [atR, h, hk]
theorem atR_pos {s l : List Int} {k : Nat} (h : validB 6 s l = true) : atR s l k = (at_ s l k, 0) := by simp [atR, h]
theorem ret_pair {p : Int × Int} {a b : Int} (h : p = (a, b)) : Ending.returned (.tuple #[.int .i64 a, .int .i64 b]) = .returned (.tuple #[.int .i64 p.1, .int .i64 p.2]) := by rw [h]

end Go.Proofs.Ytfblnadmbfhjiaa.Wd

namespace Go.Proofs.Ytfblnadmbfhjiaa.Wd
open Go.RowKit
set_option linter.unusedVariables false

set_option maxHeartbeats 400000 in
theorem letter_any (x : Int) (k : Nat) (w : World) (hk : k ≤ 6) :
    Calls Try.prog 43 #[.int .i64 x, .int .i64 k] w fun e w' => e = .returned (.bool (decide (0 ≤ x) && decide (x < (2 : Int) ^ k))) ∧ w = w' := by
  have hp := wrap_pow hk
  by_cases h0 : 0 ≤ x
  · have hd : decide (0 ≤ x) = true := by simpa using h0
    go_enter Try.func43, Try.ntmps43
    go_wp2_with fail
    go_ret
    exact ⟨ret_bool (by rw [hd]; rfl), rfl⟩
  · have hd : decide (0 ≤ x) = false := by simpa using h0
    go_enter Try.func43, Try.ntmps43
    go_wp2_with fail
    go_ret
    exact ⟨ret_bool (by simp), rfl⟩

theorem lettersB_append (b : Int) (xs ys : List Int) : lettersB b (xs ++ ys) = (lettersB b xs && lettersB b ys) := by simp [lettersB]

set_option maxRecDepth 100000 in
set_option maxHeartbeats 1000000 in
theorem refValid_else (A B : Option Addr) (n c m d : Nat) (j : Nat) (s l : List Int) (w : World) (ha : Ints w A n s) (hb : Ints w B m l) (hj : j ≤ 6) (hm0 : 0 < m) (hl : n + m ≤ 200) :
    Calls Try.prog 33 #[.agg #[.slice A n c, .slice B m d], .int .i64 j] w fun e w' => e = .returned (.bool (lettersB ((2 : Int) ^ j) (s ++ l))) ∧ Below w.heap.size w w' := by
  obtain ⟨i0, hi, hz0, hz1, hz2⟩ := info_parts int_info
  obtain ⟨t, ht⟩ : ∃ t, s ++ l = t := ⟨_, rfl⟩
  rw [ht]
  have HT0 := Lib.hid ht
  clear ht
  have HX := Lib.hid ha.1
  have HY := Lib.hid hb.1
  have hb0 : ((m : Int) == 0) = false := by simp; omega
  have hb2 : decide (200 < (n : Int) + m) = false := by simp; omega
  go_enter Try.func33, Try.ntmps33
  go_wp2_with fail
  have q0 : (w.alloc (.cells #[.slice A n c, .slice B m d] 45)).cell? ⟨w.heap.size, 0, none⟩ = some (.slice A n c) := by rw [box_last]; rfl
  have q1 : (w.alloc (.cells #[.slice A n c, .slice B m d] 45)).cell? ⟨w.heap.size, 1, none⟩ = some (.slice B m d) := by rw [box_last]; rfl
  have HA := Lib.hid (ha.alloc (.cells #[.slice A n c, .slice B m d] 45))
  have HB := Lib.hid (hb.alloc (.cells #[.slice A n c, .slice B m d] 45))
  generalize hW : w.alloc (.cells #[.slice A n c, .slice B m d] 45) = W at *
  have hbw : Below w.heap.size w W := by rw [← hW]; exact (Below.refl _ _).alloc (Nat.le_refl _) _
  have hlt : w.heap.size < W.heap.size := by rw [← hW]; simp
  clear hW
  have hown0 : (W.alloc (.cells #[] 3)).drew.ownsRow W.heap.size 3 1 (.slice (some ⟨W.heap.size, 0, none⟩) 0 0) 0 [] := World.ownsRow_made W #[] 0 (Nat.le_refl _) (Nat.zero_le _) rfl
  have hbd : Below W.heap.size W (W.alloc (.cells #[] 3)).drew := ((Below.refl W.heap.size W).alloc (Nat.le_refl _) (.cells #[] 3)).drew
  go_region_held3 (fun X => X.cell? ⟨w.heap.size, 0, none⟩ = some (.slice A n c) ∧ X.cell? ⟨w.heap.size, 1, none⟩ = some (.slice B m d))
    (first
      | go_keep
      | (refine ⟨?_, ?_⟩
         · rw [hba.cell (by simp; omega)]; exact q0
         · rw [hba.cell (by simp; omega)]; exact q1)
      | (refine ⟨?_, ?_⟩
         · rw [hbb.cell (by simp; omega)]; exact q0
         · rw [hbb.cell (by simp; omega)]; exact q1))
    (first
      | ((refine step_append_ints _ (by rfl) _ _ _ (by rfl) W.heap.size 3 i0 _ Try.underlying22 hi hz0 hz1 hz2 rfl (.slice (some ⟨W.heap.size, 0, none⟩) 0 0) 0 [] (by rfl) hown0 _ n c s (by rfl) (by exact HA.out.below hbd) (by omega) hbd.size ?_; intro va wa howna hgrowa hata; have hba : Below W.heap.size W wa := hbd.trans (below_own (base := W.heap.size) hown0 hgrowa hbd.size)))
      | ((refine step_append_ints _ (by rfl) _ _ _ (by rfl) W.heap.size 3 i0 _ Try.underlying22 hi hz0 hz1 hz2 rfl va (0 + n) ([] ++ s.map (Value.int .i64)) (by rfl) (by exact howna) _ m d l (by rfl) (by exact HB.out.below hba) (by omega) hba.size ?_; intro vb wb hownb hgrowb hatb; have hbb : Below W.heap.size W wb := hba.trans (below_own howna hgrowb hba.size); have hvb := own_slice hownb; obtain ⟨A2, k2, hvb, hk2⟩ := hvb; rw [hvb]))
      | fail)
  rw [hvb] at hownb
  rw [List.nil_append, ← List.map_append] at hownb
  generalize hnm : 0 + n + m = nm at *
  have HI := Lib.hid (Ints.of_own hownb)
  have HS := Lib.hid (show (s ++ l).length = nm by rw [List.length_append, HX.out, HY.out]; omega)
  have HW := Lib.hid (hbw.trans (hbb.mono hbw.size))
  rw [HT0.out] at HI HS
  clear HT0
  have hp := wrap_pow hj
  clear ha hb hvb hownb hgrowb hatb hba hbb howna hgrowa hata hown0 hbd q0 q1 HA HB HX HY hbw
  go_wp2_with fail
  go_loop [6, 37] (fun _ i => ∃ k : Nat, k ≤ nm ∧ i = .int .i64 k ∧ lettersB ((2 : Int) ^ j) (t.take k) = true) (fun _ i => nm - (intOf i).toNat)
  case atStart => exact ⟨0, Nat.zero_le _, rfl, by simp [lettersB]⟩
  case round =>
    obtain ⟨k, hk, rfl, hall⟩ := hrel
    by_cases hlt : k < nm
    · have h := HI.out
      obtain ⟨b, off, rfl, hb, hc⟩ := h.at_ hlt
      have hcj := hc k hlt
      have hlen := HS.out
      clear h hc
      generalize hx : t.getD k 0 = x at hcj
      cases he : (decide (0 ≤ x) && decide (x < (2 : Int) ^ j))
      · have HR := Lib.hid (show lettersB ((2 : Int) ^ j) t = false from lettersB_bad (k := k) (by omega) (by rw [hx]; intro h; simp [h.1, h.2] at he))
        have HE := Lib.hid he
        clear he hall hx hp
        go_wp2_with fail
        refine (letter_any x j _ hj).mono ?_
        rintro e w2 ⟨rfl, rfl⟩
        rw [HE.out]
        go_wp2_with fail
        go_ret
        exact ⟨ret_bool HR.out.symm, HW.out⟩
      · have HT := Lib.hid (show lettersB ((2 : Int) ^ j) (t.take (k + 1)) = true by rw [lettersB_take (by omega) hall, hx]; exact he)
        have HE := Lib.hid he
        clear he hall hx hp
        go_wp2_with fail
        refine (letter_any x j _ hj).mono ?_
        rintro e w2 ⟨rfl, rfl⟩
        rw [HE.out]
        go_wp2_with fail
        go_round
        case rel => exact ⟨k + 1, by omega, by go_num, HT.out⟩
        case measure => simp [intOf]; omega
    · have HA := Lib.hid hall
      clear hall
      go_wp2
      go_ret
      exact ⟨ret_bool (by rw [← HA.out, List.take_of_length_le (by rw [HS.out]; omega)]), HW.out⟩


set_option maxRecDepth 100000 in
set_option maxHeartbeats 1000000 in
theorem refValid_any (A B : Option Addr) (n c m d : Nat) (k : Int) (s l : List Int) (w : World) (ha : Ints w A n s) (hb : Ints w B m l) (hn : n ≤ 100000) (hm : m ≤ 100000) :
    Calls Try.prog 33 #[.agg #[.slice A n c, .slice B m d], .int .i64 k] w fun e w' => e = .returned (.bool (validB k s l)) ∧ Below w.heap.size w w' := by
  have hx := ha.1
  have hy := hb.1
  by_cases h0 : k < 0
  · have HV := Lib.hid (valid_lo (xs := s) (ys := l) h0)
    go_enter Try.func33, Try.ntmps33
    go_wp2_with fail
    go_ret
    exact ⟨ret_bool HV.out.symm, (Below.refl _ _).alloc (Nat.le_refl _) _⟩
  by_cases h6 : 6 < k
  · have HV := Lib.hid (valid_hi (xs := s) (ys := l) h6)
    go_enter Try.func33, Try.ntmps33
    go_wp2_with fail
    go_ret
    exact ⟨ret_bool HV.out.symm, (Below.refl _ _).alloc (Nat.le_refl _) _⟩
  by_cases hm0 : m = 0
  · have HV := Lib.hid (valid_none (k := k) (xs := s) (ys := l) (by omega))
    have hb0 : ((m : Int) == 0) = true := by simp; omega
    go_enter Try.func33, Try.ntmps33
    go_wp2_with fail
    go_ret
    exact ⟨ret_bool HV.out.symm, (Below.refl _ _).alloc (Nat.le_refl _) _⟩
  obtain ⟨j, rfl⟩ := Int.eq_ofNat_of_zero_le (show 0 ≤ k by omega)
  have hj : j ≤ 6 := by omega
  by_cases hz : 200 < n + m
  · have HV := Lib.hid (valid_long (k := j) (xs := s) (ys := l) (by omega))
    have hb0 : ((m : Int) == 0) = false := by simp; omega
    have hb2 : decide (200 < (n : Int) + m) = true := by simp; omega
    go_enter Try.func33, Try.ntmps33
    go_wp2_with fail
    go_ret
    exact ⟨ret_bool HV.out.symm, (Below.refl _ _).alloc (Nat.le_refl _) _⟩
  refine (refValid_else A B n c m d j s l w ha hb hj (by omega) (by omega)).mono ?_
  rintro e w1 ⟨rfl, hb1⟩
  refine ⟨ret_bool ?_, hb1⟩
  rw [valid_else hj (by omega) (by omega), lettersB_append]

end Go.Proofs.Ytfblnadmbfhjiaa.Wd
