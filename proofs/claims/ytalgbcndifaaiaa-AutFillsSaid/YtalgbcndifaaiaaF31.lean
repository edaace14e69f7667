/-
  Bits of small numbers: or, and not. No program is looked at here.
  cycles: the nodes on closed paths that meet a condition.
  Streett's condition by parts: what of a part is taken away, and what is left. No program is looked at here.
  streett, walked.
-/
import Derived.Test.YtalgbcndifaaiaaF27
import Derived.Laws.BitsLemmas
import Derived.Test.YtalgbcndifaaiaaF30
namespace Go.Proofs.Ytalgbcndifaaiaa.Wd
open Go
set_option linter.unusedVariables false

theorem or_small (a b : Nat) (ha : a < 2 ^ 62) (hb : b < 2 ^ 62) : bits .or .i64 (a : Int) (b : Int) = ((a ||| b : Nat) : Int) :=
  (bits_nat .i64 62 (by decide) (fun n h0 h1 => by rw [IntKind.wrap_i64]; omega) a b ha hb).2

/-- What is left of x without y. -/
def lessN (x y : Nat) : Nat := (BitVec.ofNat 64 x &&& ~~~ BitVec.ofNat 64 y).toNat
theorem lessN_bit {x y i : Nat} (hx : x < 2 ^ 62) : (lessN x y).testBit i = (x.testBit i && !y.testBit i) := by
  unfold lessN
  rw [BitVec.testBit_toNat, BitVec.getLsbD_and, BitVec.getLsbD_not, BitVec.getLsbD_ofNat, BitVec.getLsbD_ofNat]
  by_cases h : i < 64
  · simp [h]
  · have : x.testBit i = false := Nat.testBit_lt_two_pow (Nat.lt_of_lt_of_le hx (Nat.pow_le_pow_right (by decide) (by omega)))
    simp [h, this]
theorem lessN_le {x y : Nat} (hx : x < 2 ^ 62) : lessN x y < 2 ^ 62 := by
  apply Nat.lt_pow_two_of_testBit
  intro i hi
  rw [lessN_bit hx, Nat.testBit_lt_two_pow (Nat.lt_of_lt_of_le hx (Nat.pow_le_pow_right (by decide) hi)), Bool.false_and]
theorem andNot_i64 (x y : Nat) (hx : x < 2 ^ 62) : bits .andNot .i64 (x : Int) (y : Int) = ((lessN x y : Nat) : Int) := by
  show IntKind.i64.wrap (((BitVec.ofInt 64 (x : Int) &&& ~~~ BitVec.ofInt 64 (y : Int)).toNat : Nat) : Int) = _
  rw [BitVec.ofInt_natCast, BitVec.ofInt_natCast]
  show IntKind.i64.wrap ((lessN x y : Nat) : Int) = _
  have := lessN_le (y := y) hx
  rw [IntKind.wrap_i64]
  omega
theorem lessN_zero {x y : Nat} (hx : x < 2 ^ 62) : lessN x y = 0 ↔ inB x y := by
  constructor
  · intro h b hb
    have h1 := lessN_bit (y := y) (i := b) hx
    rw [h, Nat.zero_testBit, hb, Bool.true_and] at h1
    simpa using h1.symm
  · intro h
    apply Nat.eq_of_testBit_eq
    intro i
    rw [lessN_bit hx, Nat.zero_testBit]
    cases hb : x.testBit i
    · rfl
    · rw [h i hb]; rfl
theorem mk_le {l : List Ac} (h : ∀ a ∈ l, a.m < 2 ^ 62) : mk l < 2 ^ 62 := by
  induction l with
  | nil => show 0 < 2 ^ 62; decide
  | cons a l ih => exact Nat.or_lt_two_pow (h a (by simp)) (ih fun x hx => h x (by simp [hx]))
theorem mo_le {l : List Ac} (h : ∀ a ∈ l, a.o < 2 ^ 62) : mo l < 2 ^ 62 := by
  induction l with
  | nil => show 0 < 2 ^ 62; decide
  | cons a l ih => exact Nat.or_lt_two_pow (h a (by simp)) (ih fun x hx => h x (by simp [hx]))
theorem mk_one (a : Ac) : mk [a] = a.m := by show a.m ||| 0 = a.m; exact Nat.or_zero _
theorem mo_one (a : Ac) : mo [a] = a.o := by show a.o ||| 0 = a.o; exact Nat.or_zero _

end Go.Proofs.Ytalgbcndifaaiaa.Wd

namespace Go.Proofs.Ytalgbcndifaaiaa.Wd
open Go.RowKit Go.Deep
set_option linter.unusedVariables false
set_option linter.unusedSimpArgs false

/-- By the arcs within the part. -/
theorem cy_part {c : Cd} {l : List Ac} {n m : Nat} {O : Nat → Nat} (h : PSpec (sub c l) n O m) (hl : SmallA n l) {j : Nat} (hj : j < n) :
    Cy l c j ↔ 0 < (innL c O l (O j) l.length).length ∧ inB c.a (mk (innL c O l (O j) l.length)) ∧ inB c.a' (mo (innL c O l (O j) l.length)) := by
  have key : ∀ a, Inn (sub c l) j a ↔ a ∈ innL c O l (O j) l.length := fun a => by
    rw [innL_mem (Nat.le_refl _)]
    constructor
    · rintro ⟨h1, h2, h3⟩
      obtain ⟨h4, h5, _⟩ := hl a (mem_sub.1 h1).1
      exact ⟨h1, ((h.eqv j a.f hj h4).2 h2).symm, ((h.eqv j a.t hj h5).2 h3).symm⟩
    · rintro ⟨h1, h2, h3⟩
      obtain ⟨h4, h5, _⟩ := hl a (mem_sub.1 h1).1
      exact ⟨h1, (h.eqv j a.f hj h4).1 h2.symm, (h.eqv j a.t hj h5).1 h3.symm⟩
  rw [cy_iff]
  simp only [key]
  constructor
  · rintro ⟨⟨a, ha⟩, h2, h3⟩
    exact ⟨List.length_pos_of_mem ha, fun b hb => mk_bit.2 (h2 b hb), fun b hb => mo_bit.2 (h3 b hb)⟩
  · rintro ⟨h1, h2, h3⟩
    obtain ⟨a, ha⟩ := List.exists_mem_of_length_pos h1
    exact ⟨⟨a, ha⟩, fun b hb => mk_bit.1 (h2 b hb), fun b hb => mo_bit.1 (h3 b hb)⟩

/-- Is the part p good? -/
def partB (c : Cd) (L : List Ac) : Bool := decide (0 < L.length) && (decide (lessN c.a (mk L) = 0) && decide (lessN c.a' (mo L) = 0))
theorem partB_iff {c : Cd} {L : List Ac} (hc : SmallC c) : partB c L = true ↔ 0 < L.length ∧ inB c.a (mk L) ∧ inB c.a' (mo L) := by
  unfold partB
  rw [Bool.and_eq_true, Bool.and_eq_true, decide_eq_true_iff, decide_eq_true_iff, decide_eq_true_iff, lessN_zero hc.2.1, lessN_zero hc.2.2.2]
/-- The flags when the first k parts have been looked at. -/
def cycF (c : Cd) (O : Nat → Nat) (l : List Ac) (k : Nat) (i : Nat) : Bool := decide (O i < k) && partB c (innL c O l (O i) l.length)
theorem cycF_zero (c : Cd) (O : Nat → Nat) (l : List Ac) (i : Nat) : cycF c O l 0 i = false := by unfold cycF; rw [decide_eq_false (Nat.not_lt_zero _)]; rfl
theorem cycF_no {c : Cd} {O : Nat → Nat} {l : List Ac} {k : Nat} (h : partB c (innL c O l k l.length) = false) (i : Nat) : cycF c O l (k + 1) i = cycF c O l k i := by
  unfold cycF
  by_cases e : O i = k
  · rw [e, h, Bool.and_false, Bool.and_false]
  · by_cases h1 : O i < k
    · rw [decide_eq_true h1, decide_eq_true (by omega : O i < k + 1)]
    · rw [decide_eq_false h1, decide_eq_false (by omega : ¬ O i < k + 1)]
/-- .. and when of the part k, a good one, the first u nodes have been set. -/
def cycG (c : Cd) (O : Nat → Nat) (l : List Ac) (k u : Nat) (i : Nat) : Bool := cycF c O l k i || (decide (i < u) && decide (O i = k))
theorem cycG_zero (c : Cd) (O : Nat → Nat) (l : List Ac) (k i : Nat) : cycG c O l k 0 i = cycF c O l k i := by unfold cycG; rw [decide_eq_false (Nat.not_lt_zero _), Bool.false_and, Bool.or_false]
theorem cycG_all {c : Cd} {O : Nat → Nat} {l : List Ac} {k n i : Nat} (h : partB c (innL c O l k l.length) = true) (hi : i < n) : cycG c O l k n i = cycF c O l (k + 1) i := by
  unfold cycG
  rw [decide_eq_true hi, Bool.true_and]
  unfold cycF
  by_cases e : O i = k
  · rw [e, h, decide_eq_true (rfl : k = k), decide_eq_true (by omega : k < k + 1), Bool.or_true, Bool.true_and]
  · rw [decide_eq_false e, Bool.or_false]
    by_cases h1 : O i < k
    · rw [decide_eq_true h1, decide_eq_true (by omega : O i < k + 1)]
    · rw [decide_eq_false h1, decide_eq_false (by omega : ¬ O i < k + 1)]
theorem cycG_step (c : Cd) (O : Nat → Nat) (l : List Ac) (k u j : Nat) : cycG c O l k (u + 1) j = if j = u then (cycF c O l k u || decide (O u = k)) else cycG c O l k u j := by
  unfold cycG
  by_cases e : j = u
  · subst e
    rw [if_pos rfl, decide_eq_true (by omega : j < j + 1), Bool.true_and]
  · rw [if_neg e]
    by_cases h : j < u
    · rw [decide_eq_true h, decide_eq_true (by omega : j < u + 1)]
    · rw [decide_eq_false h, decide_eq_false (by omega : ¬ j < u + 1)]
theorem cycG_at (c : Cd) (O : Nat → Nat) (l : List Ac) (k u : Nat) : cycG c O l k u u = cycF c O l k u := by unfold cycG; rw [decide_eq_false (Nat.lt_irrefl _), Bool.false_and, Bool.or_false]

set_option maxRecDepth 100000 in
set_option maxHeartbeats 8000000 in
theorem cycles_walk (n na ca : Nat) (A : Option Addr) (l : List Ac) (c : Cd) (w : World) (ha : ArcsAt w A na l) (hn : n ≤ 100000) (hna : na ≤ 900000) (hl : SmallA n l) (hc : SmallC c) :
    Calls Try.prog 75 #[.int .i64 n, .slice A na ca, cdV c] w fun e w' =>
      ∃ g F, e = .returned (.slice (some ⟨g, 0, none⟩) n n) ∧ FlagsIn w' g n F ∧ w.heap.size ≤ g ∧ (∀ i, i < n → (F i = true ↔ Cy l c i)) ∧ Below w.heap.size w w' := by
  have hmkb := run_make_row' (P := Try.prog) 64 4 (.bool false) 1 Try.underlying64 bool_info rfl .i64 .i64 n (by omega) (by omega)
  have HPC := Lib.hid (fun W (hW : Below w.heap.size w W) => parts_walk n na ca A l c W (ha.below hW) hn hna hl hc)
  have HL := Lib.hid hl
  have HC := Lib.hid hc
  have HLL := Lib.hid (show l.length ≤ 900000 by rw [ha.1]; exact hna)
  clear ha hl hc
  unfold cdV at HPC ⊢
  go_enter Try.func75, Try.ntmps75
  go_wp2_with fail
  obtain ⟨W1, hW1⟩ : ∃ W1, (w.alloc (.cells #[.int .i64 c.n, .int .i64 c.a, .int .i64 c.n', .int .i64 c.a'] 97)).alloc (.cells (madeCells #[.bool false] n) 4) = W1 := ⟨_, rfl⟩
  have HP := Lib.hid (show ∀ i, W1.cell? ⟨w.heap.size, i, none⟩ = #[Value.int .i64 c.n, .int .i64 c.a, .int .i64 c.n', .int .i64 c.a'][i]? from fun i => by rw [← hW1]; exact box_first w _ _ _ i)
  have HF0 := Lib.hid (show FlagsIn W1 (w.heap.size + 1) n (fun _ => false) by
    have h := FlagsIn.made (w.alloc (.cells #[.int .i64 c.n, .int .i64 c.a, .int .i64 c.n', .int .i64 c.a'] 97)) n
    rw [show (w.alloc (.cells #[.int .i64 c.n, .int .i64 c.a, .int .i64 c.n', .int .i64 c.a'] 97)).heap.size = w.heap.size + 1 from by simp] at h
    rw [← hW1]; exact h)
  have HB1 := Lib.hid (show Below w.heap.size w W1 by rw [← hW1]; exact ((Below.refl _ _).alloc (Nat.le_refl _) _).alloc (by simp) _)
  have HZ1 := Lib.hid (show W1.heap.size = w.heap.size + 2 by rw [← hW1]; simp)
  rw [hW1]
  clear hW1
  refine (HPC.out _ HB1.out).mono ?_
  rintro e w2 ⟨bo, av, m, mc, O, rfl, hof, hwi, HPS, hb2⟩
  rw [HZ1.out] at hof hwi
  obtain ⟨z2, hz2, HZ2⟩ : ∃ z2, w2.heap.size = z2 ∧ Hid (w2.heap.size = z2) := ⟨_, rfl, rfl⟩
  rw [hz2] at hof hwi
  have HOF := Lib.hid hof
  have HWI := Lib.hid hwi
  have HF2 := Lib.hid (HF0.out.below hb2)
  have HB2 := Lib.hid (HB1.out.trans (hb2.mono HB1.out.size))
  have HP2 := Lib.hid (fun i => (hb2.cell (p := ⟨w.heap.size, i, none⟩) (by show w.heap.size < _; have := HZ1.out; omega)).trans (HP.out i))
  have hzz : w.heap.size + 2 ≤ z2 := by rw [← hz2, ← HZ1.out]; exact hb2.size
  have hmn := HPS.out.few
  clear hof hwi hb2 hz2 HF0 HP HPC HB1 hmkb
  go_wp2_with fail
  go_loopg [28] m (fun g i wx => ∃ t : Nat, t + g = m ∧ i = .int .i64 t ∧ Hid (FlagsIn wx (w.heap.size + 1) n (cycF c O l t)) ∧ Hid (Below w.heap.size w wx) ∧ Hid (∀ j, j ≠ w.heap.size + 1 → j < z2 → wx.heap[j]? = w2.heap[j]?) ∧ Hid (z2 ≤ wx.heap.size))
  case atStart => exact ⟨0, by omega, rfl, HF2.out.congr (fun i _ => (cycF_zero c O l i).symm), HB2.out, (fun _ _ _ => rfl), Nat.le_of_eq HZ2.out.symm⟩
  case round =>
    clear HF2 HB2 HZ2
    obtain ⟨t, htg, rfl, HF, HBx, HKP, HZx⟩ := hrel
    have hti : (0 : Int) ≤ (t : Int) := by omega
    cases gk with
    | zero =>
      obtain rfl : m = t := by omega
      go_wp2_with fail
      go_ret
      refine ⟨w.heap.size + 1, _, rfl, HF.out, by omega, fun i hi => ?_, HBx.out⟩
      rw [cy_part HPS.out HL.out hi, ← partB_iff HC.out]
      unfold cycF
      rw [decide_eq_true (HPS.out.range i hi), Bool.true_and]
    | succ q =>
      have ht1 : t < m := by omega
      have hti2 : (t : Int) < (m : Int) := by omega
      have HKQ := Lib.hid (show KeptIn (w.heap.size + 2) z2 w2 wr from fun j h1 h2 => HKP.out j (by omega) h2)
      obtain ⟨bw, rfl, hbw1, hbw2, hcell⟩ := (HWI.out.kept HKQ.out) (by omega)
      obtain ⟨Ak, ck, hk, hA⟩ := hcell t ht1
      have HX := Lib.hid (show ∀ L, innL c O l t l.length = L → partB c L = false → ∀ i, cycF c O l (t + 1) i = cycF c O l t i from fun L e h i => cycF_no (by rw [e]; exact h) i)
      have HY := Lib.hid (show ∀ L, innL c O l t l.length = L → partB c L = true → ∀ i, i < n → cycG c O l t n i = cycF c O l (t + 1) i from fun L e h i hi => cycG_all (by rw [e]; exact h) hi)
      have HSM := Lib.hid (show ∀ L, innL c O l t l.length = L → ∀ a ∈ L, a.m < 2 ^ 62 ∧ a.o < 2 ^ 62 from fun L e a ha => by
        rw [← e, innL_mem (Nat.le_refl _), mem_sub] at ha
        exact ⟨(HL.out a ha.1.1).2.2.1, (HL.out a ha.1.1).2.2.2⟩)
      have hLlen := innL_len c O l t l.length
      obtain ⟨L, hLe, HLE⟩ : ∃ L, innL c O l t l.length = L ∧ Hid (innL c O l t l.length = L) := ⟨_, rfl, rfl⟩
      simp only [hLe] at hk hA hLlen
      clear hLe hcell
      obtain ⟨nL, hnL, HNL⟩ : ∃ nL, L.length = nL ∧ Hid (L.length = nL) := ⟨_, rfl, rfl⟩
      rw [hnL] at hk hA hLlen
      clear hnL
      have hnL9 : nL ≤ 900000 := by have := HLL.out; omega
      have HAR := Lib.hid (fun W (hW : Below wr.heap.size wr W) => ArcsAt.below (hA.wide (Nat.zero_le _) HZx.out) hW)
      have HK0 := Lib.hid (fun W (hW : Below wr.heap.size wr W) => (⟨fun j h1 h2 => (hW.block j (by have := HZx.out; omega)).trans (HKP.out j h1 h2), HF.out.below hW⟩ : (∀ j, j ≠ w.heap.size + 1 → j < z2 → W.heap[j]? = w2.heap[j]?) ∧ FlagsIn W (w.heap.size + 1) n (cycF c O l t)))
      have q1 := (World.cell?_of_block (a := ⟨w.heap.size, 1, none⟩) (HKP.out w.heap.size (by omega) (by omega))).trans (HP2.out 1)
      have q3 := (World.cell?_of_block (a := ⟨w.heap.size, 3, none⟩) (HKP.out w.heap.size (by omega) (by omega))).trans (HP2.out 3)
      have Q13 := Lib.hid (And.intro q1 q3)
      have HZr := Lib.hid (show z2 ≤ wr.heap.size from HZx.out)
      clear hA q1 q3 hLlen
      go_wp2_with fail
      go_loopg [12, 13, 35] nL (fun g x y i wx => ∃ u : Nat, u + g = nL ∧ i = .int .i64 u ∧ x = .int .i64 (mk (L.take u) : Nat) ∧ y = .int .i64 (mo (L.take u) : Nat) ∧ Hid (Below wr.heap.size wr wx))
      case atStart => exact ⟨0, by omega, rfl, rfl, rfl, Below.refl _ _⟩
      case round =>
        obtain ⟨u, hug, rfl, rfl, rfl, HBy⟩ := hrel
        have hu0 : (0 : Int) ≤ (u : Int) := by omega
        cases gk with
        | zero =>
          obtain rfl : nL = u := by omega
          have HTK := Lib.hid (show L.take nL = L from List.take_of_length_le (by rw [HNL.out]; exact Nat.le_refl _))
          obtain ⟨x, hx, HXM⟩ : ∃ x, mk (L.take nL) = x ∧ Hid (mk L = x) := ⟨_, rfl, by show _ = _; rw [HTK.out]⟩
          obtain ⟨y, hy, HYM⟩ : ∃ y, mo (L.take nL) = y ∧ Hid (mo L = y) := ⟨_, rfl, by show _ = _; rw [HTK.out]⟩
          rw [hx, hy]
          clear hx hy
          have q1 := (HBy.out.cell (p := ⟨w.heap.size, 1, none⟩) (by show w.heap.size < _; have := HZr.out; omega)).trans Q13.out.1
          have q3 := (HBy.out.cell (p := ⟨w.heap.size, 3, none⟩) (by show w.heap.size < _; have := HZr.out; omega)).trans Q13.out.2
          obtain ⟨hkp', hf'⟩ := HK0.out _ HBy.out
          have HKP' := Lib.hid hkp'
          have HF' := Lib.hid hf'
          have HBx' := Lib.hid (HBx.out.trans (HBy.out.mono HBx.out.size))
          have HZx' := Lib.hid (Nat.le_trans HZx.out HBy.out.size)
          have e1 : bits .andNot .i64 (c.a : Int) (x : Int) = ((lessN c.a x : Nat) : Int) := andNot_i64 _ _ HC.out.2.1
          have e2 : bits .andNot .i64 (c.a' : Int) (y : Int) = ((lessN c.a' y : Nat) : Int) := andNot_i64 _ _ HC.out.2.2.2
          have HPB := Lib.hid (show partB c L = (decide (0 < nL) && (decide (lessN c.a x = 0) && decide (lessN c.a' y = 0))) by unfold partB; rw [HXM.out, HYM.out, HNL.out])
          obtain ⟨r1, hr1, HR1⟩ : ∃ r1, lessN c.a x = r1 ∧ Hid (lessN c.a x = r1) := ⟨_, rfl, rfl⟩
          obtain ⟨r2, hr2, HR2⟩ : ∃ r2, lessN c.a' y = r2 ∧ Hid (lessN c.a' y = r2) := ⟨_, rfl, rfl⟩
          rw [hr1] at e1 HPB
          rw [hr2] at e2 HPB
          clear hr1 hr2 hkp' hf' HBy HAR HK0 HKP HF HBx HZx HKQ HSM
          by_cases hb : 0 < nL ∧ r1 = 0 ∧ r2 = 0
          · obtain ⟨hb1, rfl, rfl⟩ := hb
            have hb2 : (0 : Int) < (nL : Int) := by omega
            have HGD := Lib.hid (HY.out L HLE.out (by rw [HPB.out, decide_eq_true hb1]; rfl))
            clear HX HY HPB hug
            have hof1 := HOF.out.1
            have hof2 := HOF.out.2.1
            go_wp2_with fail
            have HF0' := Lib.hid (HF'.out.congr (fun i _ => (cycG_zero c O l t i).symm))
            have HKP0 := HKP'
            have HBx0 := HBx'
            have HZx0 := HZx'
            clear HF' HKP' HBx' HZx' q1 q3 e1 e2
            go_loopg [69] n (fun g i wx => ∃ u : Nat, u + g = n ∧ i = .int .i64 u ∧ Hid (FlagsIn wx (w.heap.size + 1) n (cycG c O l t u)) ∧ Hid (Below w.heap.size w wx) ∧ Hid (∀ j, j ≠ w.heap.size + 1 → j < z2 → wx.heap[j]? = w2.heap[j]?) ∧ Hid (z2 ≤ wx.heap.size))
            case atStart => exact ⟨0, by omega, rfl, HF0', HBx0, HKP0, HZx0⟩
            case round =>
              clear HF0' HBx0 HKP0 HZx0
              obtain ⟨u, hug, rfl, HF', HBx', HKP', HZx'⟩ := hrel
              have hu0 : (0 : Int) ≤ (u : Int) := by omega
              cases gk with
              | zero =>
                obtain rfl : n = u := by omega
                go_wp2_with fail
                go_roundg q
                case measure => omega
                case rel => exact ⟨t + 1, by omega, by go_num, HF'.out.congr HGD.out, HBx', HKP', HZx'⟩
              | succ p =>
                have hu1 : u < n := by omega
                have hu2 : (u : Int) < (n : Int) := by omega
                have hcl := HF'.out.cell hu1
                have hfz := HF'.out.free u
                have ko := (HOF.out.kept (w' := wr) (fun j h1 h2 => HKP'.out j (by omega) h2)).2.2 u hu1
                have HST := Lib.hid (fun j => cycG_step c O l t u j)
                have hzr : w.heap.size + 1 < wr.heap.size := by have := HZx'.out; omega
                rw [cycG_at] at hcl
                have hran := HPS.out.range u hu1
                obtain ⟨o, ho, HOU⟩ : ∃ o, O u = o ∧ Hid (O u = o) := ⟨_, rfl, rfl⟩
                rw [ho] at ko hran
                clear ho
                have hnd : ∀ v : Bool, (cycF c O l t u || decide (O u = t)) = v → Hid (FlagsIn (wr.setCell ⟨w.heap.size + 1, u, none⟩ (.bool v)) (w.heap.size + 1) n (cycG c O l t (u + 1))) := fun v hv =>
                  (HF'.out.set u v).congr (fun j _ => by rw [HST.out j, hv])
                have HND := Lib.hid hnd
                have HBS := Lib.hid (fun v => HBx'.out.setCell (p := ⟨w.heap.size + 1, u, none⟩) (by show w.heap.size ≤ w.heap.size + 1; omega) v)
                clear hnd
                cases hF : cycF c O l t u
                · rw [hF] at hcl HND
                  by_cases hot : o = t
                  · subst hot
                    have HNE := Lib.hid (HND.out true (by rw [HOU.out, decide_eq_true rfl]; rfl))
                    clear hF HND HST
                    go_wp2_with fail
                    go_roundg p
                    case measure => omega
                    case rel => exact ⟨u + 1, by omega, by go_num, HNE, HBS.out _, (fun j h1 h2 => (blk_setCell_other _ _ _ _ h1).trans (HKP'.out j h1 h2)), by show _ ≤ _; have := HZx'.out; simpa using this⟩
                  · have HNE := Lib.hid (HND.out false (by rw [HOU.out, decide_eq_false hot]; rfl))
                    have hot1 : ((o : Int) == (t : Int)) = false := by rw [beq_eq_false_iff_ne]; omega
                    have hot2 : decide (o = t) = false := decide_eq_false hot
                    clear hF HND HST
                    go_wp2_with fail
                    go_roundg p
                    case measure => omega
                    case rel => exact ⟨u + 1, by omega, by go_num, HNE, HBS.out _, (fun j h1 h2 => (blk_setCell_other _ _ _ _ h1).trans (HKP'.out j h1 h2)), by show _ ≤ _; have := HZx'.out; simpa using this⟩
                · rw [hF] at hcl HND
                  have HNE := Lib.hid (HND.out true rfl)
                  clear hF HND HST
                  go_wp2_with fail
                  go_roundg p
                  case measure => omega
                  case rel => exact ⟨u + 1, by omega, by go_num, HNE, HBS.out _, (fun j h1 h2 => (blk_setCell_other _ _ _ _ h1).trans (HKP'.out j h1 h2)), by show _ ≤ _; have := HZx'.out; simpa using this⟩
          · have HGD := Lib.hid (HX.out L HLE.out (by
              rw [HPB.out, Bool.eq_false_iff]
              intro h
              rw [Bool.and_eq_true, Bool.and_eq_true, decide_eq_true_iff, decide_eq_true_iff, decide_eq_true_iff] at h
              exact hb h))
            have HBD := Lib.hid hb
            clear HX HY HPB hug hb
            have hcase : nL = 0 ∨ (0 < nL ∧ ¬ r1 = 0) ∨ (0 < nL ∧ r1 = 0 ∧ ¬ r2 = 0) := by have := HBD.out; omega
            rcases hcase with h | ⟨h1, h2⟩ | ⟨h1, h2, h3⟩
            · subst h
              go_wp2_with fail
              go_roundg q
              case measure => omega
              case rel => exact ⟨t + 1, by omega, by go_num, HF'.out.congr (fun i _ => (HGD.out i).symm), HBx', HKP', HZx'⟩
            · have h4 : (0 : Int) < (nL : Int) := by omega
              have h5 : ((r1 : Int) == 0) = false := by simpa using h2
              clear h2
              go_wp2_with fail
              go_roundg q
              case measure => omega
              case rel => exact ⟨t + 1, by omega, by go_num, HF'.out.congr (fun i _ => (HGD.out i).symm), HBx', HKP', HZx'⟩
            · subst h2
              have h4 : (0 : Int) < (nL : Int) := by omega
              have h5 : ((r2 : Int) == 0) = false := by simpa using h3
              clear h3
              go_wp2_with fail
              go_roundg q
              case measure => omega
              case rel => exact ⟨t + 1, by omega, by go_num, HF'.out.congr (fun i _ => (HGD.out i).symm), HBx', HKP', HZx'⟩
        | succ p =>
          have hu1 : u < nL := by omega
          have hu2 : (u : Int) < (nL : Int) := by omega
          obtain ⟨b2, rfl, _, hb2z, hc2⟩ := (HAR.out _ HBy.out).2 (by omega)
          obtain ⟨c0, c1, c2, c3⟩ := hc2 u hu1
          obtain ⟨hxm, hxo⟩ := HSM.out L HLE.out _ (acsD_mem (l := L) (by rw [HNL.out]; exact hu1))
          have HXK := Lib.hid (show mk (L.take (u + 1)) = mk (L.take u) ||| (L.getD u ac0).m by rw [take_snocA (by rw [HNL.out]; exact hu1), mk_app, mk_one])
          have HXO := Lib.hid (show mo (L.take (u + 1)) = mo (L.take u) ||| (L.getD u ac0).o by rw [take_snocA (by rw [HNL.out]; exact hu1), mo_app, mo_one])
          have hmk : mk (L.take u) < 2 ^ 62 := mk_le fun a ha => (HSM.out L HLE.out a (List.mem_of_mem_take ha)).1
          have hmo : mo (L.take u) < 2 ^ 62 := mo_le fun a ha => (HSM.out L HLE.out a (List.mem_of_mem_take ha)).2
          generalize L.getD u ac0 = x at *
          obtain ⟨xf, xt, xm, xo⟩ := x
          simp only at c0 c1 c2 c3 hxm hxo HXK HXO
          have e1 := or_small _ _ hmk hxm
          have e2 := or_small _ _ hmo hxo
          rw [← HXK.out] at e1
          rw [← HXO.out] at e2
          obtain ⟨x1, hx1, HX1⟩ : ∃ x1, mk (L.take (u + 1)) = x1 ∧ Hid (mk (L.take (u + 1)) = x1) := ⟨_, rfl, rfl⟩
          obtain ⟨y1, hy1, HY1⟩ : ∃ y1, mo (L.take (u + 1)) = y1 ∧ Hid (mo (L.take (u + 1)) = y1) := ⟨_, rfl, rfl⟩
          rw [hx1] at e1
          rw [hy1] at e2
          clear hx1 hy1 HXK HXO
          generalize mk (L.take u) = x0 at *
          generalize mo (L.take u) = y0 at *
          clear hc2 hmk hmo hxm hxo
          go_wp2_with fail
          go_roundg p
          case measure => omega
          case rel => exact ⟨u + 1, by omega, by go_num, by rw [HX1.out], by rw [HY1.out], HBy.out.alloc HBy.out.size _⟩

end Go.Proofs.Ytalgbcndifaaiaa.Wd

namespace Go.Proofs.Ytalgbcndifaaiaa.Wd
set_option linter.unusedVariables false

theorem quad (x i : Nat) : x / 2 ^ i % 4 = 2 ↔ x.testBit i = false ∧ x.testBit (i + 1) = true := by
  rw [Nat.testBit_eq_decide_div_mod_eq, Nat.testBit_eq_decide_div_mod_eq, decide_eq_false_iff_not, decide_eq_true_iff, Nat.pow_succ, ← Nat.div_div_eq_div_mul]
  generalize x / 2 ^ i = y
  omega
/-- The second marks of the first k pairs whose first mark is not there. -/
def badN (x : Nat) : Nat → Nat
  | 0 => 0
  | k + 1 => if x / 2 ^ (2 * k) % 4 = 2 then badN x k ||| 2 ^ (2 * k + 1) else badN x k
theorem badN_bit {x k b : Nat} : (badN x k).testBit b = true ↔ ∃ j, j < k ∧ b = 2 * j + 1 ∧ x.testBit (2 * j) = false ∧ x.testBit (2 * j + 1) = true := by
  induction k with
  | zero => simp [badN]
  | succ k ih =>
    unfold badN
    split
    · rename_i h
      rw [quad] at h
      rw [Nat.testBit_or, Bool.or_eq_true, ih, Nat.testBit_two_pow, decide_eq_true_iff]
      constructor
      · rintro (⟨j, h1, h2⟩ | rfl)
        · exact ⟨j, by omega, h2⟩
        · exact ⟨k, by omega, rfl, h⟩
      · rintro ⟨j, h1, h2, h3⟩
        by_cases e : j = k
        · subst e; exact .inr h2.symm
        · exact .inl ⟨j, by omega, h2, h3⟩
    · rename_i h
      rw [quad] at h
      rw [ih]
      constructor
      · rintro ⟨j, h1, h2⟩; exact ⟨j, by omega, h2⟩
      · rintro ⟨j, h1, h2, h3⟩
        by_cases e : j = k
        · subst e; exact absurd h3 h
        · exact ⟨j, by omega, h2, h3⟩
theorem badN_lt {x k : Nat} (hk : k ≤ 20) : badN x k < 2 ^ 41 := by
  apply Nat.lt_pow_two_of_testBit
  intro b hb
  rw [Bool.eq_false_iff]
  intro h
  obtain ⟨j, h1, h2, _⟩ := badN_bit.1 h
  omega
/-- Does the set of marks satisfy the k pairs? -/
def StrP (k x : Nat) : Prop := ∀ j, j < k → x.testBit (2 * j + 1) = true → x.testBit (2 * j) = true
theorem badN_zero {x k : Nat} : badN x k = 0 ↔ StrP k x := by
  constructor
  · intro h j hj h1
    cases h2 : x.testBit (2 * j)
    · have := badN_bit.2 ⟨j, hj, rfl, h2, h1⟩
      rw [h, Nat.zero_testBit] at this
      cases this
    · rfl
  · intro h
    apply Nat.eq_of_testBit_eq
    intro b
    rw [Nat.zero_testBit, Bool.eq_false_iff]
    intro hb
    obtain ⟨j, h1, h2, h3, h4⟩ := badN_bit.1 hb
    rw [h j h1 h4] at h3
    cases h3
/-- A node on a closed path that satisfies them. -/
def Sy (l : List Ac) (k j : Nat) : Prop := ∃ x y, Lp l j x y ∧ StrP k x

theorem mk_same {p q : List Ac} (h : ∀ a, a ∈ p ↔ a ∈ q) : mk p = mk q := by
  apply Nat.eq_of_testBit_eq
  intro b
  rw [Bool.eq_iff_iff, mk_bit, mk_bit]
  exact ⟨fun ⟨a, h1, h2⟩ => ⟨a, (h a).1 h1, h2⟩, fun ⟨a, h1, h2⟩ => ⟨a, (h a).2 h1, h2⟩⟩

section
variable {l : List Ac} {n m k : Nat} {O : Nat → Nat}
/-- The arcs of a part. -/
def inL (O : Nat → Nat) (l : List Ac) (p : Nat) : List Ac := innL cd0 O l p l.length
theorem inL_mem {O : Nat → Nat} {l : List Ac} {p : Nat} {a : Ac} : a ∈ inL O l p ↔ a ∈ l ∧ O a.f = p ∧ O a.t = p := by
  unfold inL
  rw [innL_mem (Nat.le_refl _), sub_cd0]
theorem inL_inn (h : PSpec l n O m) (hl : SmallA n l) {j : Nat} (hj : j < n) (a : Ac) : a ∈ inL O l (O j) ↔ Inn l j a := by
  rw [inL_mem]
  constructor
  · rintro ⟨h1, h2, h3⟩
    obtain ⟨h4, h5, _⟩ := hl a h1
    exact ⟨h1, (h.eqv j a.f hj h4).1 h2.symm, (h.eqv j a.t hj h5).1 h3.symm⟩
  · rintro ⟨h1, h2, h3⟩
    obtain ⟨h4, h5, _⟩ := hl a h1
    exact ⟨h1, ((h.eqv j a.f hj h4).2 h2).symm, ((h.eqv j a.t hj h5).2 h3).symm⟩
theorem sy_good (h : PSpec l n O m) (hl : SmallA n l) {j : Nat} (hj : j < n) (hL : 0 < (inL O l (O j)).length) (hb : badN (mk (inL O l (O j))) k = 0) : Sy l k j := by
  obtain ⟨p, hp, h1, h2⟩ := inn_loop (l := l) (i := j) (q := inL O l (O j)) fun a ha => (inL_inn h hl hj a).1 ha
  have he : ∀ a, a ∈ p ↔ a ∈ inL O l (O j) := fun a => ⟨fun ha => (inL_inn h hl hj a).2 (h2 a ha), h1 a⟩
  obtain ⟨a, ha⟩ := List.exists_mem_of_length_pos hL
  refine ⟨mk p, mo p, ⟨p, fun e => ?_, hp, rfl, rfl⟩, ?_⟩
  · have := h1 a ha
    rw [e] at this
    cases this
  · rw [mk_same he]; exact badN_zero.1 hb
theorem sy_none (h : PSpec l n O m) (hl : SmallA n l) {j : Nat} (hj : j < n) (hL : (inL O l (O j)).length = 0) : ¬ Sy l k j := by
  rintro ⟨x, y, ⟨p, hp0, hp, _, _⟩, _⟩
  cases p with
  | nil => exact hp0 rfl
  | cons a p =>
    have := (inL_inn h hl hj a).2 (loop_inn hp (Rc.refl _ _) a (by simp))
    rw [List.eq_nil_of_length_eq_zero hL] at this
    cases this
/-- What is left of the part. -/
def restL (b : Nat) (L : List Ac) : List Ac := L.filter fun a => a.m &&& b == 0
theorem restL_mem {b : Nat} {L : List Ac} {a : Ac} : a ∈ restL b L ↔ a ∈ L ∧ a.m &&& b = 0 := by
  unfold restL
  rw [List.mem_filter, beq_iff_eq]
theorem sy_rest (h : PSpec l n O m) (hl : SmallA n l) {j : Nat} (hj : j < n) : Sy l k j ↔ Sy (restL (badN (mk (inL O l (O j))) k) (inL O l (O j))) k j := by
  constructor
  · rintro ⟨x, y, ⟨p, hp0, hp, rfl, rfl⟩, hs⟩
    have hin := loop_inn hp (Rc.refl _ _)
    refine ⟨mk p, mo p, ⟨p, hp0, hp.mono fun a ha => restL_mem.2 ⟨(inL_inn h hl hj a).2 (hin a ha), ?_⟩, rfl, rfl⟩, hs⟩
    rw [disj_iff]
    intro b hab
    rw [Bool.eq_false_iff]
    intro hb
    obtain ⟨i, h1, rfl, h3, h4⟩ := badN_bit.1 hb
    have h5 := hs i h1 (mk_bit.2 ⟨a, ha, hab⟩)
    obtain ⟨a', ha', hab'⟩ := mk_bit.1 h5
    have h6 := mk_bit.2 ⟨a', (inL_inn h hl hj a').2 (hin a' ha'), hab'⟩
    rw [h3] at h6
    cases h6
  · rintro ⟨x, y, ⟨p, hp0, hp, hx, hy⟩, hs⟩
    exact ⟨x, y, ⟨p, hp0, hp.mono fun a ha => (inL_mem.1 (restL_mem.1 (hp.mem a ha)).1).1, hx, hy⟩, hs⟩
theorem sy_part {b p j : Nat} (h : Sy (restL b (inL O l p)) k j) : O j = p := by
  obtain ⟨x, y, ⟨q, hq0, hq, _, _⟩, _⟩ := h
  cases q with
  | nil => exact absurd rfl hq0
  | cons a q =>
    obtain ⟨h1, h2, _⟩ := hq
    rw [← h2]
    exact (inL_mem.1 (restL_mem.1 h1).1).2.1
theorem restL_less {L : List Ac} (h : badN (mk L) k ≠ 0) : (restL (badN (mk L) k) L).length < L.length := by
  have hex : ∃ a ∈ L, a.m &&& badN (mk L) k ≠ 0 := by
    apply Classical.byContradiction
    intro hn
    apply h
    rw [badN_zero]
    intro j hj h1
    cases h2 : (mk L).testBit (2 * j)
    · obtain ⟨a, ha, hab⟩ := mk_bit.1 h1
      exfalso
      apply hn
      refine ⟨a, ha, fun e => ?_⟩
      have := disj_iff.1 e _ hab
      rw [badN_bit.2 ⟨j, hj, rfl, h2, h1⟩] at this
      cases this
    · rfl
  obtain ⟨a, ha, hab⟩ := hex
  refine Nat.lt_of_le_of_ne (List.length_filter_le _ _) fun e => ?_
  have h2 := List.length_filter_eq_length_iff.1 e a ha
  rw [beq_iff_eq] at h2
  exact hab h2
theorem restL_small (hl : SmallA n l) {b p : Nat} : SmallA n (restL b (inL O l p)) := fun a ha => hl a (inL_mem.1 (restL_mem.1 ha).1).1
end

/-- Of the first t arcs those that are left. -/
def restT (b : Nat) (L : List Ac) (t : Nat) : List Ac := restL b (L.take t)
theorem restT_yes {b : Nat} {L : List Ac} {t : Nat} {x : Ac} (hk : t < L.length) (hx : L.getD t ac0 = x) (h : x.m &&& b = 0) : restT b L (t + 1) = restT b L t ++ [x] := by
  unfold restT restL
  rw [take_snocA hk, hx, List.filter_append]
  simp [h]
theorem restT_no {b : Nat} {L : List Ac} {t : Nat} {x : Ac} (hk : t < L.length) (hx : L.getD t ac0 = x) (h : x.m &&& b ≠ 0) : restT b L (t + 1) = restT b L t := by
  unfold restT restL
  rw [take_snocA hk, hx, List.filter_append]
  simp [h]
theorem restT_len (b : Nat) (L : List Ac) (t : Nat) : (restT b L t).length ≤ t := by
  unfold restT restL
  exact Nat.le_trans (List.length_filter_le _ _) (by rw [List.length_take]; omega)

end Go.Proofs.Ytalgbcndifaaiaa.Wd

namespace Go.Proofs.Ytalgbcndifaaiaa.Wd
open Go.RowKit Go.Deep
set_option linter.unusedVariables false
set_option linter.unusedSimpArgs false

/-- All that was there is as it was, but for the block g. -/
structure But (g : Nat) (w w' : World) : Prop where
  os : w'.os = w.os
  tape : w'.tape = w.tape
  output : w'.output = w.output
  size : w.heap.size ≤ w'.heap.size
  block : ∀ k, k < w.heap.size → k ≠ g → w'.heap[k]? = w.heap[k]?
namespace But
variable {g : Nat} {w w' w'' : World}
theorem refl (g : Nat) (w : World) : But g w w := ⟨rfl, rfl, rfl, Nat.le_refl _, fun _ _ _ => rfl⟩
theorem trans (h : But g w w') (h' : But g w' w'') : But g w w'' := ⟨h'.os.trans h.os, h'.tape.trans h.tape, h'.output.trans h.output, Nat.le_trans h.size h'.size, fun k h1 h2 => (h'.block k (Nat.lt_of_lt_of_le h1 h.size) h2).trans (h.block k h1 h2)⟩
theorem of_below (h : Below w.heap.size w w') : But g w w' := ⟨h.os, h.tape, h.output, h.size, fun k h1 _ => h.block k h1⟩
theorem setCell (h : But g w w') (i : Nat) (v : Value) : But g w (w'.setCell ⟨g, i, none⟩ v) := h.trans ⟨rfl, rfl, rfl, by simp, fun k _ h2 => blk_setCell_other _ _ _ _ h2⟩
theorem kept (h : But g w w') {lo hi : Nat} (hg : g < lo) (hh : hi ≤ w.heap.size) : KeptIn lo hi w w' := fun j h1 h2 => h.block j (by omega) (by omega)
end But
/-- Arcs and flags lie in different blocks. -/
theorem ArcsAt.but {w w' : World} {A : Option Addr} {na n g : Nat} {l : List Ac} {F : Nat → Bool} (h : ArcsAt w A na l) (hf : FlagsIn w g n F) (hl : SmallA n l) (hb : But g w w') : ArcsAt w' A na l := ⟨h.1, fun hn => by
  obtain ⟨b, e, h1, h2, hc⟩ := h.2 hn
  have hne : b ≠ g := by
    intro hbg
    subst hbg
    have h3 := (hc 0 hn).1
    have h4 := (hl _ (acsD_mem (l := l) (t := 0) (by rw [h.1]; exact hn))).1
    rw [Nat.zero_mul, hf.cell (by omega)] at h3
    cases h3
  have hbk := hb.block b h2 hne
  refine ⟨b, e, h1, Nat.lt_of_lt_of_le h2 hb.size, fun j hj => ?_⟩
  obtain ⟨c0, c1, c2, c3⟩ := hc j hj
  exact ⟨(World.cell?_of_block (a := ⟨b, _, none⟩) hbk).trans c0, (World.cell?_of_block (a := ⟨b, _, none⟩) hbk).trans c1, (World.cell?_of_block (a := ⟨b, _, none⟩) hbk).trans c2, (World.cell?_of_block (a := ⟨b, _, none⟩) hbk).trans c3⟩⟩

/-- The flags when t parts have been looked at. -/
def StrI (l : List Ac) (K : Nat) (O : Nat → Nat) (F0 : Nat → Bool) (n t : Nat) (F : Nat → Bool) : Prop := ∀ i, i < n → (F i = true ↔ F0 i = true ∨ (O i < t ∧ Sy l K i))
section
variable {l : List Ac} {n m K t : Nat} {O : Nat → Nat} {F0 F F' : Nat → Bool}
theorem StrI.none (h : StrI l K O F0 n t F) (hp : PSpec l n O m) (hl : SmallA n l) (hL : (inL O l t).length = 0) : StrI l K O F0 n (t + 1) F := by
  intro i hi
  rw [h i hi]
  refine or_congr Iff.rfl ⟨fun ⟨h1, h2⟩ => ⟨by omega, h2⟩, fun ⟨h1, h2⟩ => ⟨?_, h2⟩⟩
  refine Nat.lt_of_le_of_ne (by omega) fun e => ?_
  exact sy_none hp hl hi (by rw [e]; exact hL) h2
theorem StrI.good (h : StrI l K O F0 n t F) (hp : PSpec l n O m) (hl : SmallA n l) (hL : 0 < (inL O l t).length) (hb : badN (mk (inL O l t)) K = 0) (hF : ∀ i, i < n → F' i = (F i || decide (O i = t))) : StrI l K O F0 n (t + 1) F' := by
  intro i hi
  rw [hF i hi, Bool.or_eq_true, decide_eq_true_iff, h i hi]
  constructor
  · rintro ((h1 | ⟨h1, h2⟩) | h1)
    · exact .inl h1
    · exact .inr ⟨by omega, h2⟩
    · exact .inr ⟨by omega, sy_good hp hl hi (by rw [h1]; exact hL) (by rw [h1]; exact hb)⟩
  · rintro (h1 | ⟨h1, h2⟩)
    · exact .inl (.inl h1)
    · by_cases e : O i = t
      · exact .inr e
      · exact .inl (.inr ⟨by omega, h2⟩)
theorem StrI.rest (h : StrI l K O F0 n t F) (hp : PSpec l n O m) (hl : SmallA n l) (hF : ∀ i, i < n → (F' i = true ↔ F i = true ∨ Sy (restL (badN (mk (inL O l t)) K) (inL O l t)) K i)) : StrI l K O F0 n (t + 1) F' := by
  intro i hi
  rw [hF i hi, h i hi]
  constructor
  · rintro ((h1 | ⟨h1, h2⟩) | h1)
    · exact .inl h1
    · exact .inr ⟨by omega, h2⟩
    · have e := sy_part h1
      subst e
      exact .inr ⟨by omega, (sy_rest hp hl hi).2 h1⟩
  · rintro (h1 | ⟨h1, h2⟩)
    · exact .inl (.inl h1)
    · by_cases e : O i = t
      · subst e
        exact .inr ((sy_rest hp hl hi).1 h2)
      · exact .inl (.inr ⟨by omega, h2⟩)
end
/-- .. and when of the part k, a good one, the first u nodes have been set. -/
def goodG (F : Nat → Bool) (O : Nat → Nat) (k u i : Nat) : Bool := F i || (decide (i < u) && decide (O i = k))
theorem goodG_zero (F : Nat → Bool) (O : Nat → Nat) (k i : Nat) : goodG F O k 0 i = F i := by unfold goodG; rw [decide_eq_false (Nat.not_lt_zero _), Bool.false_and, Bool.or_false]
theorem goodG_all {F : Nat → Bool} {O : Nat → Nat} {k n i : Nat} (hi : i < n) : goodG F O k n i = (F i || decide (O i = k)) := by unfold goodG; rw [decide_eq_true hi, Bool.true_and]
theorem goodG_at (F : Nat → Bool) (O : Nat → Nat) (k u : Nat) : goodG F O k u u = F u := by unfold goodG; rw [decide_eq_false (Nat.lt_irrefl _), Bool.false_and, Bool.or_false]
theorem goodG_step (F : Nat → Bool) (O : Nat → Nat) (k u j : Nat) : goodG F O k (u + 1) j = if j = u then (F u || decide (O u = k)) else goodG F O k u j := by
  unfold goodG
  by_cases e : j = u
  · subst e
    rw [if_pos rfl, decide_eq_true (by omega : j < j + 1), Bool.true_and]
  · rw [if_neg e]
    by_cases h : j < u
    · rw [decide_eq_true h, decide_eq_true (by omega : j < u + 1)]
    · rw [decide_eq_false h, decide_eq_false (by omega : ¬ j < u + 1)]
theorem two_shl {i : Nat} (hi : i ≤ 40) : IntKind.i64.wrap ((2 : Int) * (2 : Int) ^ i) = ((2 ^ (i + 1) : Nat) : Int) := by
  have h : ∀ k : Fin 41, IntKind.i64.wrap ((2 : Int) * (2 : Int) ^ k.val) = ((2 ^ (k.val + 1) : Nat) : Int) := by decide +kernel
  exact h ⟨i, by omega⟩

set_option maxRecDepth 100000 in
set_option maxHeartbeats 16000000 in
theorem streett_walk (K M : Nat) (hK : K ≤ 20) (hM : M = 2 * K) : ∀ (N na : Nat), na ≤ N → ∀ (n ca cg bg : Nat) (A : Option Addr) (l : List Ac) (F0 : Nat → Bool) (w : World), ArcsAt w A na l → FlagsIn w bg n F0 → n ≤ 100000 → na ≤ 900000 → SmallA n l →
    Calls Try.prog 46 #[.int .i64 n, .slice A na ca, .int .i64 M, .slice (some ⟨bg, 0, none⟩) n cg] w fun e w' =>
      ∃ F, e = .returned (.tuple #[]) ∧ FlagsIn w' bg n F ∧ Hid (∀ i, i < n → (F i = true ↔ F0 i = true ∨ Sy l K i)) ∧ But bg w w' := by
  intro N
  induction N using Nat.strongRecOn with
  | _ N IH =>
  intro na hN n ca cg bg A l F0 w ha hf hn hna hl
  have HIH := Lib.hid IH
  have HPC := Lib.hid (show Calls Try.prog 71 #[.int .i64 n, .slice A na ca, .agg #[.int .i64 0, .int .i64 0, .int .i64 0, .int .i64 0]] w fun e w' => ResP w w' n cd0 l e from parts_walk n na ca A l cd0 w ha hn hna hl ⟨by decide, by decide, by decide, by decide⟩)
  have HL := Lib.hid hl
  have HA := Lib.hid ha
  have HLL := Lib.hid ha.1
  have HF0 := Lib.hid hf
  have HMK := Lib.hid hM
  have hM40 : M ≤ 40 := by omega
  clear ha hf hl IH hM
  go_enter Try.func46, Try.ntmps46
  go_wp2_with fail
  refine HPC.out.mono ?_
  rintro e w2 ⟨bo, av, m, mc, O, rfl, hof, hwi, HPS, hb2⟩
  obtain ⟨z2, hz2, HZ2⟩ : ∃ z2, w2.heap.size = z2 ∧ Hid (w2.heap.size = z2) := ⟨_, rfl, rfl⟩
  rw [hz2] at hof hwi
  have HOF := Lib.hid hof
  have HWI := Lib.hid hwi
  have HF2 := Lib.hid (HF0.out.below hb2)
  have HB2 := Lib.hid (But.of_below (g := bg) hb2)
  have hbg := HF0.out.lt
  have hzz : w.heap.size ≤ z2 := by rw [← hz2]; exact hb2.size
  have HPS := Lib.hid (show PSpec l n O m by have h := HPS.out; rw [sub_cd0] at h; exact h)
  have hmn := HPS.out.few
  clear hof hwi hb2 hz2 HPC
  go_wp2_with fail
  go_loopg [30] m (fun g i wx => ∃ (t : Nat) (F : Nat → Bool), t + g = m ∧ i = .int .i64 t ∧ Hid (FlagsIn wx bg n F) ∧ Hid (StrI l K O F0 n t F) ∧ Hid (But bg w2 wx))
  case atStart => exact ⟨0, F0, by omega, rfl, HF2.out, (fun i _ => by simp), But.refl _ _⟩
  case round =>
    clear HF2
    obtain ⟨t, F, htg, rfl, HF, HST, HBx⟩ := hrel
    have hti : (0 : Int) ≤ (t : Int) := by omega
    cases gk with
    | zero =>
      obtain rfl : m = t := by omega
      go_wp2_with fail
      go_end0
      refine ⟨F, rfl, HF.out, fun i hi => ?_, HB2.out.trans HBx.out⟩
      rw [HST.out i hi]
      exact or_congr Iff.rfl ⟨fun h => h.2, fun h => ⟨HPS.out.range i hi, h⟩⟩
    | succ q =>
      have ht1 : t < m := by omega
      have hti2 : (t : Int) < (m : Int) := by omega
      have HKQ := Lib.hid (show KeptIn w.heap.size z2 w2 wr from HBx.out.kept hbg (by rw [HZ2.out]; exact Nat.le_refl _))
      obtain ⟨bw, rfl, hbw1, hbw2, hcell⟩ := (HWI.out.kept HKQ.out) (by omega)
      obtain ⟨Ak, ck, hk, hA⟩ := hcell t ht1
      have HSN := Lib.hid (HST.out.none HPS.out HL.out (t := t))
      have HSG := Lib.hid (fun F' => HST.out.good HPS.out HL.out (t := t) (F' := F'))
      have HSR := Lib.hid (fun F' => HST.out.rest HPS.out HL.out (t := t) (F' := F'))
      have HSM := Lib.hid (show ∀ a ∈ inL O l t, a.f < n ∧ a.t < n ∧ a.m < 2 ^ 62 ∧ a.o < 2 ^ 62 from fun a ha => HL.out a (inL_mem.1 ha).1)
      have hLlen : (inL O l t).length ≤ l.length := innL_len cd0 O l t l.length
      have HLEQ : ∀ k, innL cd0 O l k l.length = inL O l k := fun k => rfl
      simp only [HLEQ] at hk hA
      obtain ⟨L, hLe, HLE⟩ : ∃ L, inL O l t = L ∧ Hid (inL O l t = L) := ⟨_, rfl, rfl⟩
      rw [hLe] at hk hA hLlen HSN HSG HSR HSM
      clear hLe hcell HLEQ
      obtain ⟨nL, hnL, HNL⟩ : ∃ nL, L.length = nL ∧ Hid (L.length = nL) := ⟨_, rfl, rfl⟩
      rw [hnL] at hk hA hLlen HSN HSG
      rw [HLL.out] at hLlen
      clear hnL
      have hzr : z2 ≤ wr.heap.size := by rw [← HZ2.out]; exact HBx.out.size
      have HZr := Lib.hid hzr
      have HAR := Lib.hid (fun W (hW : Below wr.heap.size wr W) => ArcsAt.below (hA.wide (Nat.zero_le _) hzr) hW)
      have hof1 := HOF.out.1
      have hof2 := HOF.out.2.1
      clear hA
      generalize wr = W3 at *
      go_wp2_with fail
      go_loopg [12, 37] nL (fun g x i wx => ∃ u : Nat, u + g = nL ∧ i = .int .i64 u ∧ x = .int .i64 (mk (L.take u) : Nat) ∧ Hid (Below W3.heap.size W3 wx))
      case atStart => exact ⟨0, by omega, rfl, rfl, Below.refl _ _⟩
      case round =>
        obtain ⟨u, hug, rfl, rfl, HBy⟩ := hrel
        have hu0 : (0 : Int) ≤ (u : Int) := by omega
        cases gk with
        | zero =>
          obtain rfl : nL = u := by omega
          have HTK := Lib.hid (show L.take nL = L from List.take_of_length_le (by rw [HNL.out]; exact Nat.le_refl _))
          obtain ⟨x, hx, HXM⟩ : ∃ x, mk (L.take nL) = x ∧ Hid (mk L = x) := ⟨_, rfl, by show _ = _; rw [HTK.out]⟩
          rw [hx]
          clear hx
          have hxs : x < 2 ^ 62 := by rw [← HXM.out]; exact mk_le fun a ha => (HSM.out a ha).2.2.1
          have HXS := Lib.hid hxs
          clear hxs
          go_wp2_with fail
          go_loopg [15, 16] K (fun g bv iv wx => ∃ k i : Nat, k + g = K ∧ Hid (i = 2 * k) ∧ i ≤ M ∧ iv = .int .i64 i ∧ bv = .int .i64 (badN x k : Nat) ∧ Hid (Below W3.heap.size W3 wx))
          case atStart => exact ⟨0, 0, by omega, rfl, by omega, rfl, rfl, HBy⟩
          case round =>
            clear HBy
            obtain ⟨k, i, hkg, HIK, hiM, rfl, rfl, HBy⟩ := hrel
            have hi0 : (0 : Int) ≤ (i : Int) := by omega
            have hi1 : (i : Int) ≤ 40 := by omega
            cases gk with
            | zero =>
              obtain rfl : K = k := by omega
              have hiM2 : i = M := by have := HIK.out; have := HMK.out; omega
              subst hiM2
              have HBW := Lib.hid (show But bg w2 wr from HBx.out.trans (But.of_below HBy.out))
              have HFW := Lib.hid (HF.out.below HBy.out)
              obtain ⟨y, hy, HY⟩ : ∃ y, badN x K = y ∧ Hid (badN (mk L) K = y) := ⟨_, rfl, by show _ = _; rw [HXM.out]⟩
              rw [hy]
              have hy62 : y < 2 ^ 62 := by rw [← hy]; exact Nat.lt_trans (badN_lt (by omega)) (by decide)
              have HY62 := Lib.hid hy62
              have hyn : nL = 0 → y = 0 := fun h => by
                have h1 : L = [] := List.eq_nil_of_length_eq_zero (by rw [HNL.out]; exact h)
                rw [← hy, ← HXM.out, h1]
                exact badN_zero.2 fun j _ h2 => by
                  have : (0 : Nat).testBit (2 * j + 1) = true := h2
                  rw [Nat.zero_testBit] at this; cases this
              have HYN := Lib.hid hyn
              have HARW := Lib.hid (fun W (hW : Below wr.heap.size wr W) => HAR.out W (HBy.out.trans (hW.mono HBy.out.size)))
              have hzw : z2 ≤ wr.heap.size := by have := HBy.out.size; have := HZr.out; omega
              have HZW := Lib.hid hzw
              clear hy hy62 hyn HF HBx HBy HAR HXS hzw hzr HZr HXM HIK
              by_cases hy0 : y = 0
              · subst hy0
                by_cases hn0 : nL = 0
                · subst hn0
                  have HN := Lib.hid (HSN.out rfl)
                  clear HSG HSR HYN
                  go_wp2_with fail
                  go_roundg q
                  case measure => omega
                  case rel => exact ⟨t + 1, F, by omega, by go_num, HFW, HN, HBW⟩
                · have hn1 : 0 < nL := by omega
                  have hn2 : (0 : Int) < (nL : Int) := by omega
                  have HN := Lib.hid (fun F' => HSG.out F' hn1 HY.out)
                  clear HSN HSG HSR HYN hn0
                  go_wp2_with fail
                  have HFW0 := Lib.hid (HFW.out.congr (fun i _ => (goodG_zero F O t i).symm))
                  have HBW0 := HBW
                  have HZW0 := HZW
                  clear HFW HBW HZW HARW
                  go_loopg [69] n (fun g i wx => ∃ u : Nat, u + g = n ∧ i = .int .i64 u ∧ Hid (FlagsIn wx bg n (goodG F O t u)) ∧ Hid (But bg w2 wx) ∧ Hid (z2 ≤ wx.heap.size))
                  case atStart => exact ⟨0, by omega, rfl, HFW0, HBW0, HZW0⟩
                  case round =>
                    clear HFW0 HBW0 HZW0
                    obtain ⟨u, hug, rfl, HF', HBx', HZx'⟩ := hrel
                    have hu0 : (0 : Int) ≤ (u : Int) := by omega
                    cases gk with
                    | zero =>
                      obtain rfl : n = u := by omega
                      go_wp2_with fail
                      go_roundg q
                      case measure => omega
                      case rel => exact ⟨t + 1, _, by omega, by go_num, HF', HN.out _ (fun i hi => goodG_all hi), HBx'⟩
                    | succ p =>
                      have hu1 : u < n := by omega
                      have hu2 : (u : Int) < (n : Int) := by omega
                      have hcl := HF'.out.cell hu1
                      have hfz := HF'.out.free u
                      have ko := (HOF.out.kept (HBx'.out.kept hbg (by rw [HZ2.out]; exact Nat.le_refl _))).2.2 u hu1
                      have HSTP := Lib.hid (fun j => goodG_step F O t u j)
                      have hzr : bg < wr.heap.size := by have := HZx'.out; omega
                      rw [goodG_at] at hcl
                      have hran := HPS.out.range u hu1
                      obtain ⟨o, ho, HOU⟩ : ∃ o, O u = o ∧ Hid (O u = o) := ⟨_, rfl, rfl⟩
                      rw [ho] at ko hran
                      clear ho
                      have hnd : ∀ v : Bool, (F u || decide (O u = t)) = v → Hid (FlagsIn (wr.setCell ⟨bg, u, none⟩ (.bool v)) bg n (goodG F O t (u + 1))) := fun v hv =>
                        (HF'.out.set u v).congr (fun j _ => by rw [HSTP.out j, hv])
                      have HND := Lib.hid hnd
                      have HBS := Lib.hid (fun v => HBx'.out.setCell u v)
                      clear hnd
                      cases hFu : F u
                      · rw [hFu] at hcl HND
                        by_cases hot : o = t
                        · subst hot
                          have HNE := Lib.hid (HND.out true (by rw [HOU.out, decide_eq_true rfl]; rfl))
                          clear hFu HND HSTP
                          go_wp2_with fail
                          go_roundg p
                          case measure => omega
                          case rel => exact ⟨u + 1, by omega, by go_num, HNE.out, HBS.out _, by show _ ≤ _; have := HZx'.out; simpa using this⟩
                        · have HNE := Lib.hid (HND.out false (by rw [HOU.out, decide_eq_false hot]; rfl))
                          have hot1 : ((o : Int) == (t : Int)) = false := by rw [beq_eq_false_iff_ne]; omega
                          have hot2 : decide (o = t) = false := decide_eq_false hot
                          clear hFu HND HSTP
                          go_wp2_with fail
                          go_roundg p
                          case measure => omega
                          case rel => exact ⟨u + 1, by omega, by go_num, HNE.out, HBS.out _, by show _ ≤ _; have := HZx'.out; simpa using this⟩
                      · rw [hFu] at hcl HND
                        have HNE := Lib.hid (HND.out true rfl)
                        clear hFu HND HSTP
                        go_wp2_with fail
                        go_roundg p
                        case measure => omega
                        case rel => exact ⟨u + 1, by omega, by go_num, HNE.out, HBS.out _, by show _ ≤ _; have := HZx'.out; simpa using this⟩
              · have hn1 : 0 < nL := Nat.pos_of_ne_zero fun h => hy0 (HYN.out h)
                have hn2 : (0 : Int) < (nL : Int) := by omega
                have hy1 : ((y : Int) == 0) = false := by simpa using hy0
                have HLS := Lib.hid (show (restL y L).length < nL by
                  have h := restL_less (L := L) (k := K) (by rw [HY.out]; exact hy0)
                  rw [HY.out, HNL.out] at h
                  exact h)
                have HN := Lib.hid (fun F' => HSR.out F')
                clear HSN HSG HSR HYN hy0
                go_wp2_with fail
                obtain ⟨z5, hz5, HZ5⟩ : ∃ z5, wr.heap.size = z5 ∧ Hid (wr.heap.size = z5) := ⟨_, rfl, rfl⟩
                rw [hz5] at HARW
                have HZW5 := Lib.hid (show z2 ≤ z5 by rw [← hz5]; exact HZW.out)
                clear hz5 HZW
                generalize wr = W5 at *
                obtain ⟨i0, hi, hi0', hi1', hi2'⟩ := info_parts arc_info
                go_loopg [18, 92] nL (fun g v i wx => ∃ u : Nat, u + g = nL ∧ i = .int .i64 u ∧ Hid (wx.ownsRow z5 63 4 v (restT y L u).length (acsV (restT y L u))) ∧ Hid (Below z5 W5 wx))
                case atStart => exact ⟨0, by omega, rfl, World.ownsRow_nil _ _ _ _, Below.refl _ _⟩
                case round =>
                  obtain ⟨u, hug, rfl, HO, HBz⟩ := hrel
                  have hu0 : (0 : Int) ≤ (u : Int) := by omega
                  cases gk with
                  | zero =>
                    obtain rfl : nL = u := by omega
                    have hrt : restT y L nL = restL y L := by unfold restT; rw [List.take_of_length_le (by rw [HNL.out]; exact Nat.le_refl _)]
                    have hO := HO.out
                    rw [hrt] at hO
                    obtain ⟨Ar, cr, hv, _⟩ := own_any hO
                    subst hv
                    have hAr := ArcsIn.of_own hO rfl
                    obtain ⟨nr, hnr, HNR⟩ : ∃ nr, (restL y L).length = nr ∧ Hid ((restL y L).length = nr) := ⟨_, rfl, rfl⟩
                    have hlt := HLS.out
                    rw [hnr] at hAr hlt
                    have HFZ := Lib.hid (HFW.out.below (by rw [HZ5.out]; exact HBz.out))
                    have HREC := Lib.hid (HIH.out (nr) (by omega) nr (Nat.le_refl _) n cr cg bg Ar (restL y L) F wr (hAr.wide (Nat.zero_le _) (Nat.le_refl _)) HFZ.out hn (by omega) (by rw [← HLE.out]; exact restL_small HL.out))
                    rw [hnr]
                    clear hrt hO hnr hAr HO HIH
                    go_wp2_with fail
                    refine HREC.out.mono ?_
                    rintro e w9 ⟨F', rfl, hf9, HF9, hb9⟩
                    have HFL9 := Lib.hid hf9
                    have HB9 := Lib.hid (HBW.out.trans ((But.of_below (by rw [HZ5.out]; exact HBz.out)).trans hb9))
                    clear hf9 hb9
                    go_wp2_with fail
                    go_roundg q
                    case measure => omega
                    case rel => exact ⟨t + 1, F', by omega, by go_num, HFL9, HN.out F' (fun i hi => by rw [HY.out]; exact HF9.out i hi), HB9⟩
                  | succ p =>
                    have hu1 : u < nL := by omega
                    have hu2 : (u : Int) < (nL : Int) := by omega
                    obtain ⟨b2, rfl, _, hb2z, hc2⟩ := (HARW.out _ HBz.out).2 (by omega)
                    obtain ⟨c0, c1, c2, c3⟩ := hc2 u hu1
                    obtain ⟨_, _, hxm, _⟩ := HSM.out _ (acsD_mem (l := L) (by rw [HNL.out]; exact hu1))
                    have HYES := Lib.hid (fun x (hx : L.getD u ac0 = x) h => restT_yes (b := y) (by rw [HNL.out]; exact hu1) hx h)
                    have HNO := Lib.hid (fun x (hx : L.getD u ac0 = x) h => restT_no (b := y) (by rw [HNL.out]; exact hu1) hx h)
                    obtain ⟨x', hx, HXX⟩ : ∃ x, L.getD u ac0 = x ∧ Hid (L.getD u ac0 = x) := ⟨_, rfl, rfl⟩
                    rw [hx] at c0 c1 c2 c3 hxm
                    clear hx hc2
                    obtain ⟨xf, xt, xm, xo⟩ := x'
                    simp only at c0 c1 c2 c3 hxm
                    have HZz := Lib.hid (show z5 ≤ wr.heap.size by rw [← HZ5.out]; exact HBz.out.size)
                    have e1 : bits .and .i64 (xm : Int) (y : Int) = ((xm &&& y : Nat) : Int) := and_i64 _ _ hxm HY62.out
                    have HLN := Lib.hid (restT_len y L u)
                    clear hxm
                    by_cases h1 : xm &&& y = 0
                    · have HX := Lib.hid (HYES.out _ HXX.out h1)
                      rw [h1] at e1
                      have e1 : bits .and .i64 (xm : Int) (y : Int) = 0 := e1
                      clear h1 HYES HNO HXX
                      go_wp2_with (at_builtin; refine wpList_append_cells _ (by rfl) _ _ 60 (by rfl) z5 63 4 32 i0 _ Try.underlying60 hi hi0' hi1' hi2' rfl (by decide) u18 (restT y L u).length (acsV (restT y L u)) (by rfl) (by exact (own_below' HO.out ((Below.refl _ _).alloc (Nat.le_refl _) _)).alloc _) ⟨wr.heap.size + 1, 0, none⟩ 1 1 (acV ⟨xf, xt, xm, xo⟩) (by rfl) (by rfl) (by have := one_arc (wr.alloc (.cells #[.int .i64 xf, .int .i64 xt, .int .i64 xm, .int .i64 xo] 63)) ⟨xf, xt, xm, xo⟩ 63; simpa using this) (by exact acV_one _) (by have := HLN.out; omega) (by decide) (by have := HZz.out; simp; omega) ?_)
                      intro v' w4 hown hgrow _
                      have HB4 := Lib.hid (((HBz.out.alloc HZz.out (.cells #[.int .i64 xf, .int .i64 xt, .int .i64 xm, .int .i64 xo] 63)).alloc (by have := HZz.out; simp; omega) (.cells #[.int .i64 xf, .int .i64 xt, .int .i64 xm, .int .i64 xo] 63)).trans (below_own ((own_below' HO.out ((Below.refl _ _).alloc (Nat.le_refl _) _)).alloc _) hgrow (by have := HZz.out; simp; omega)))
                      have HO4 := Lib.hid hown
                      clear hown hgrow
                      go_wp2_with fail
                      go_roundg p
                      case measure => omega
                      case rel => exact ⟨u + 1, by omega, by go_num, (by rw [HX.out, acsV_snoc, List.length_append]; exact HO4.out), HB4.out⟩
                    · have HX := Lib.hid (HNO.out _ HXX.out h1)
                      generalize xm &&& y = r at *
                      have e2 : ((r : Int) == 0) = false := by simpa using h1
                      clear h1 HYES HNO HXX
                      go_wp2_with fail
                      go_roundg p
                      case measure => omega
                      case rel => exact ⟨u + 1, by omega, by go_num, (by rw [HX.out]; exact own_below' HO.out ((Below.refl _ _).alloc (Nat.le_refl _) _)), HBz.out.alloc HZz.out _⟩
            | succ p =>
              have hiM2 : i < M := by have := HIK.out; have := HMK.out; omega
              have hiM3 : (i : Int) < (M : Int) := by omega
              obtain ⟨r, hr, HR⟩ : ∃ r : Nat, bits .and .i64 ((x : Int) / 2 ^ i) 3 = (r : Int) ∧ Hid (x / 2 ^ i % 4 = r) := ⟨x / 2 ^ i % 4, by rw [and3]; simp, rfl⟩
              have hsh := two_shl (i := i) (by omega)
              by_cases h2 : r = 2
              · subst h2
                have HBN := Lib.hid (show badN x (k + 1) = badN x k ||| 2 ^ (i + 1) by have h := HR.out; rw [HIK.out] at h ⊢; rw [badN, if_pos h])
                have e1 := or_small (badN x k) (2 ^ (i + 1)) (Nat.lt_trans (badN_lt (by omega)) (by decide)) (Nat.pow_lt_pow_right (by decide) (by omega))
                rw [← HBN.out] at e1
                obtain ⟨y1, hy1, HY1⟩ : ∃ y1, badN x (k + 1) = y1 ∧ Hid (badN x (k + 1) = y1) := ⟨_, rfl, rfl⟩
                rw [hy1] at e1
                generalize 2 ^ (i + 1) = P at *
                clear hy1 HBN
                go_wp2_with fail
                go_roundg p
                case measure => omega
                case rel => exact ⟨k + 1, i + 2, by omega, (by have := HIK.out; show _ = _; omega), by have := HIK.out; have := HMK.out; omega, by go_num, by rw [HY1.out], HBy⟩
              · have HBN := Lib.hid (show badN x (k + 1) = badN x k by have h := HR.out; rw [HIK.out] at h; rw [badN, if_neg (by rw [h]; exact h2)])
                have h3 : ((r : Int) == 2) = false := by rw [beq_eq_false_iff_ne]; omega
                clear hsh
                go_wp2_with fail
                go_roundg p
                case measure => omega
                case rel => exact ⟨k + 1, i + 2, by omega, (by have := HIK.out; show _ = _; omega), by have := HIK.out; have := HMK.out; omega, by go_num, by rw [HBN.out], HBy⟩
        | succ p =>
          have hu1 : u < nL := by omega
          have hu2 : (u : Int) < (nL : Int) := by omega
          obtain ⟨b2, rfl, _, hb2z, hc2⟩ := (HAR.out _ HBy.out).2 (by omega)
          obtain ⟨c0, c1, c2, c3⟩ := hc2 u hu1
          obtain ⟨_, _, hxm, _⟩ := HSM.out _ (acsD_mem (l := L) (by rw [HNL.out]; exact hu1))
          have HXK := Lib.hid (show mk (L.take (u + 1)) = mk (L.take u) ||| (L.getD u ac0).m by rw [take_snocA (by rw [HNL.out]; exact hu1), mk_app, mk_one])
          have hmk : mk (L.take u) < 2 ^ 62 := mk_le fun a ha => (HSM.out a (List.mem_of_mem_take ha)).2.2.1
          generalize L.getD u ac0 = x at *
          obtain ⟨xf, xt, xm, xo⟩ := x
          simp only at c0 c1 c2 c3 hxm HXK
          have e1 := or_small _ _ hmk hxm
          rw [← HXK.out] at e1
          obtain ⟨x1, hx1, HX1⟩ : ∃ x1, mk (L.take (u + 1)) = x1 ∧ Hid (mk (L.take (u + 1)) = x1) := ⟨_, rfl, rfl⟩
          rw [hx1] at e1
          clear hx1 HXK
          generalize mk (L.take u) = x0 at *
          clear hc2 hmk hxm
          go_wp2_with fail
          go_roundg p
          case measure => omega
          case rel => exact ⟨u + 1, by omega, by go_num, by rw [HX1.out], HBy.out.alloc HBy.out.size _⟩

end Go.Proofs.Ytalgbcndifaaiaa.Wd
