/-
  Good of the reference, walked.
  rotated of package word.
  period of package word: the least period of a list.
  The normal form that package word reckons: the loop cut to its period, turned back by as many letters as the stem gives up. No program in it.
  normal of package word: it returns the normal form.
  slices.Equal at []int, and lodesmanref01.List and Written: the lists are equal.
  Letters of the reference, Normal and Same of package word.
  At of package word and of lodesmanlaw01's reference; Letter, Valid and Is of the reference.
  Is of the reference: does an automaton accept a word? Walked to: is there a closed path that is accepted, in the product of the automaton and the word.
-/
import Derived.Test.YtalgbcndifaaiaaF32
import Derived.Test.YtalgbcndifaaiaaF23
import Derived.Test.YtalgbcndifaaiaaWdLeaf
import Derived.Test.YtalgbcndifaaiaaWdMath
import Derived.Test.YtalgbcndifaaiaaF22
namespace Go.Proofs.Ytalgbcndifaaiaa.Wd
open Go.RowKit Go.Deep
set_option linter.unusedVariables false
set_option linter.unusedSimpArgs false

theorem goodS_reach {l : List Ac} {n i K : Nat} {F : Nat → Bool} (hl : SmallA n l) (hF : ∀ j, j < n → (F j = true ↔ Sy l K j)) : FromP F n (sub cd0 (turnAL l)) i ↔ ∃ j, Rc l i j ∧ Sy l K j := by
  rw [sub_cd0]
  constructor
  · rintro ⟨j, h1, h2, h3⟩
    exact ⟨j, rc_turn.1 h3, (hF j h1).1 h2⟩
  · rintro ⟨j, h1, x, y, ⟨p, hp0, hp, hx, hy⟩, hs⟩
    have hj : j < n := by
      cases p with
      | nil => exact absurd rfl hp0
      | cons a p => rw [← hp.2.1]; exact (hl a hp.1).1
    exact ⟨j, hj, (hF j hj).2 ⟨x, y, ⟨p, hp0, hp, hx, hy⟩, hs⟩, rc_turn.2 h1⟩
theorem turn_small {n : Nat} {l : List Ac} (hl : SmallA n l) : SmallA n (turnAL l) := fun a ha => by
  unfold turnAL at ha
  obtain ⟨x, hx, rfl⟩ := List.mem_map.1 ha
  obtain ⟨h1, h2, h3, h4⟩ := hl x hx
  exact ⟨h2, h1, h3, h4⟩

set_option maxRecDepth 100000 in
set_option maxHeartbeats 8000000 in
theorem good_4 (n na ca M : Nat) (A : Option Addr) (l : List Ac) (w : World) (ha : ArcsAt w A na l) (hn : n ≤ 100000) (hna : na ≤ 900000) (hl : SmallA n l) (hM : M ≤ 40) (hev : M % 2 = 0) :
    Calls Try.prog 32 #[.int .i64 n, .slice A na ca, .int .i64 4, .int .i64 M] w fun e w' => ResG w w' n (GoodA l 4 M) e := by
  have hmkb := run_make_row' (P := Try.prog) 64 4 (.bool false) 1 Try.underlying64 bool_info rfl .i64 .i64 n (by omega) (by omega)
  have HS := Lib.hid (fun g F W (hW : Below w.heap.size w W) (hf : FlagsIn W g n F) => streett_walk (M / 2) M (by omega) (by omega) na na (Nat.le_refl _) n ca n g A l F W (ha.below hW) hf hn hna hl)
  have HT := Lib.hid (fun W (hW : ArcsAt W A na l) => turned_any A na ca l W hW hna)
  have HA := Lib.hid ha
  have HL := Lib.hid hl
  have HEV := Lib.hid hev
  clear ha hl hev
  go_enter Try.func32, Try.ntmps32
  go_wp2_with fail
  obtain ⟨W1, hW1⟩ : ∃ W1, w.alloc (.cells (madeCells #[.bool false] n) 4) = W1 := ⟨_, rfl⟩
  have HF0 := Lib.hid (show FlagsIn W1 w.heap.size n (fun _ => false) by rw [← hW1]; exact FlagsIn.made w n)
  have HB1 := Lib.hid (show Below w.heap.size w W1 by rw [← hW1]; exact (Below.refl _ _).alloc (Nat.le_refl _) _)
  rw [hW1]
  clear hW1 hmkb
  refine (HS.out _ _ _ HB1.out HF0.out).mono ?_
  rintro e w2 ⟨F, rfl, hf, hF, hbt⟩
  have HF := Lib.hid (show ∀ j, j < n → (F j = true ↔ Sy l (M / 2) j) from fun j hj => by rw [hF.out j hj]; simp)
  have HFL := Lib.hid hf
  have HA2 := Lib.hid (ArcsAt.but (HA.out.below HB1.out) HF0.out HL.out hbt)
  have HB2 := Lib.hid (show Below w.heap.size w w2 from HB1.out.trans ⟨hbt.os, hbt.tape, hbt.output, hbt.size, fun k hk => hbt.block k (by have := HB1.out.size; omega) (by omega)⟩)
  clear hf hF hbt
  go_wp2_with fail
  refine (HT.out _ HA2.out).mono ?_
  rintro e w3 ⟨vb, rfl, hob, hb3⟩
  obtain ⟨Ab, cb, hvb, _⟩ := own_any hob
  subst hvb
  have HRC := Lib.hid (show Calls Try.prog 47 #[.int .i64 n, .slice Ab na cb, .slice (some ⟨w.heap.size, 0, none⟩) n n, .agg #[.int .i64 0, .int .i64 0, .int .i64 0, .int .i64 0]] w3 fun e w' => _ from
    reach_walk n na cb n w.heap.size Ab (turnAL l) F cd0 w3 ((ArcsIn.of_own hob (by unfold turnAL; rw [List.length_map]; exact HA.out.1)).wide (Nat.zero_le _) (Nat.le_refl _)) (HFL.out.below hb3) hn hna (turn_small HL.out) ⟨by decide, by decide, by decide, by decide⟩)
  have HB3 := Lib.hid (HB2.out.trans (hb3.mono HB2.out.size))
  clear hob hb3
  go_wp2_with fail
  refine HRC.out.mono ?_
  rintro e w4 ⟨g, G, cap, rfl, hfg, _, _, hgr, hb4⟩
  have HG := Lib.hid (fun i (hi : i < n) => (hgr i hi).trans ((goodS_reach HL.out HF.out).trans (goodA_str HEV.out)))
  have HFG := Lib.hid hfg
  have HB4 := Lib.hid (HB3.out.trans (hb4.mono HB3.out.size))
  clear hgr hfg hb4
  go_wp2_with fail
  go_ret
  exact ⟨g, G, cap, rfl, HFG.out, HG.out, HB4.out⟩

theorem clsL_small {kind M : Nat} (hM : M ≤ 40) : ∀ c ∈ waysL kind M, c.n < 2 ^ 62 ∧ c.a < 2 ^ 62 := by
  intro c hc
  have h1 : 2 ^ M ≤ 2 ^ 40 := Nat.pow_le_pow_right (by decide) hM
  have hab : ∀ m, aboveN m M < 2 ^ 62 := fun m => by unfold aboveN; exact lessN_le (by omega)
  unfold waysL at hc
  split at hc
  · have : c = ⟨0, 1⟩ := by simpa using hc
    subst this; exact ⟨by decide, by decide⟩
  · split at hc
    · have : c = ⟨0, 2 ^ M - 1⟩ := by simpa using hc
      subst this; exact ⟨by show 0 < 2 ^ 62; decide, by show 2 ^ M - 1 < 2 ^ 62; omega⟩
    · split at hc
      · have : c = ⟨1, 0⟩ := by simpa using hc
        subst this; exact ⟨by decide, by decide⟩
      · split at hc
        · obtain ⟨j, hj, rfl⟩ := someL_mem.1 hc
          exact ⟨Nat.pow_lt_pow_right (by decide) (by omega), Nat.pow_lt_pow_right (by decide) (by omega)⟩
        · obtain ⟨m, hm, _, rfl⟩ := parL_mem.1 hc
          exact ⟨hab m, Nat.pow_lt_pow_right (by decide) (by omega)⟩
theorem waysL_len {kind M : Nat} (hM : M ≤ 40) : (waysL kind M).length ≤ 41 := by
  unfold waysL
  split
  · decide
  · split
    · show 1 ≤ 41; decide
    · split
      · decide
      · split
        · rw [someL_len]; omega
        · have := parL_len M M; omega
theorem cls_take {l : List Cl} {t : Nat} (h : t < l.length) : l.take (t + 1) = l.take t ++ [l.getD t cl0] := by
  rw [List.take_succ_eq_append_getElem h, List.getD_eq_getElem?_getD, List.getElem?_eq_getElem h]; rfl

set_option maxRecDepth 100000 in
set_option maxHeartbeats 8000000 in
theorem good_o (kind n na ca M : Nat) (A : Option Addr) (l : List Ac) (w : World) (hk : kind ≤ 5) (h4 : kind ≠ 4) (hm : marksB kind M = true) (hwy : ∀ W, Calls Try.prog 49 #[.int .i64 kind, .int .i64 M, .bool true] W fun e w' => ResWy W w' kind M e)
    (ha : ArcsAt w A na l) (hn : n ≤ 100000) (hna : na ≤ 900000) (hl : SmallA n l) (hml : ∀ a ∈ l, a.m < 2 ^ M) :
    Calls Try.prog 32 #[.int .i64 n, .slice A na ca, .int .i64 kind, .int .i64 M] w fun e w' => ResG w w' n (GoodA l kind M) e := by
  obtain ⟨i0, hi, hi0, hi1, hi2⟩ := info_parts cd_info
  have hM40 : M ≤ 40 := by have := marksB_few hm; omega
  have HGB := Lib.hid (fun A2 k cw ways W (hW : Below w.heap.size w W) (hc : CdsAt W A2 k ways) hs hk => goodBoth_walk n na ca k cw A A2 l ways W (ha.below hW) hc hn hna hl hs hk)
  have HGA := Lib.hid (fun i => goodA_ways (l := l) (i := i) hk h4 hm hml)
  have HWY := Lib.hid hwy
  have hk4 : ((kind : Int) == 4) = false := by rw [beq_eq_false_iff_ne]; omega
  have HLN := Lib.hid (waysL_len (kind := kind) hM40)
  have HSM := Lib.hid (clsL_small (kind := kind) hM40)
  clear hwy ha hl hml h4 hm
  go_enter Try.func32, Try.ntmps32
  go_wp2_with fail
  refine (HWY.out _).mono ?_
  rintro e w1 ⟨A1, c1, rfl, hc1, hb1⟩
  have HC1 := Lib.hid hc1
  have HB1 := Lib.hid hb1
  clear hc1 hb1
  obtain ⟨k, hkk, HKK⟩ : ∃ k, (waysL kind M).length = k ∧ Hid ((waysL kind M).length = k) := ⟨_, rfl, rfl⟩
  have hk41 : k ≤ 41 := by rw [← hkk]; exact HLN.out
  rw [hkk] at HC1 ⊢
  clear hkk
  go_wp2_with fail
  go_loopg [10, 32] k (fun g v iv wx => ∃ t : Nat, t + g = k ∧ iv = .int .i64 t ∧ Hid (wx.ownsRow w1.heap.size 97 4 v t (cdsV (((waysL kind M).take t).map cdOf))) ∧ Hid (Below w1.heap.size w1 wx))
  case atStart => exact ⟨0, by omega, rfl, World.ownsRow_nil _ _ _ _, Below.refl _ _⟩
  case round =>
    obtain ⟨t, htg, rfl, HO, HBx⟩ := hrel
    have hti : (0 : Int) ≤ (t : Int) := by omega
    cases gk with
    | zero =>
      obtain rfl : k = t := by omega
      have hO := HO.out
      rw [List.take_of_length_le (by rw [HKK.out]; exact Nat.le_refl _)] at hO
      obtain ⟨A2, cw, hv, _⟩ := own_any hO
      subst hv
      have HG := Lib.hid (HGB.out A2 k cw _ wr (HB1.out.trans (HBx.out.mono HB1.out.size)) (CdsAt.of_own hO (by rw [List.length_map]; exact HKK.out)) (fun c hc => by
        obtain ⟨d, hd, rfl⟩ := List.mem_map.1 hc
        exact ⟨(HSM.out d hd).1, (HSM.out d hd).2, by show 0 < 2 ^ 62; decide, by show 0 < 2 ^ 62; decide⟩) (by omega))
      have HBB := Lib.hid (HB1.out.trans (HBx.out.mono HB1.out.size))
      clear hO HO HGB
      go_wp2_with fail
      refine HG.out.mono ?_
      rintro e w3 ⟨g, F, cap, rfl, hf, HF, hb3⟩
      have HFL := Lib.hid hf
      have HB3 := Lib.hid (HBB.out.trans (hb3.mono HBB.out.size))
      clear hf hb3
      go_wp2_with fail
      go_ret
      exact ⟨g, F, cap, rfl, HFL.out, fun i hi => (HF.out i hi).trans (HGA.out i), HB3.out⟩
    | succ q =>
      have ht1 : t < k := by omega
      have hti2 : (t : Int) < (k : Int) := by omega
      obtain ⟨b, rfl, hlt, hcell⟩ := (HC1.out.below HBx.out).2 (by omega)
      obtain ⟨c0, c1⟩ := hcell t ht1
      have HTK := Lib.hid (show ((waysL kind M).take (t + 1)).map cdOf = ((waysL kind M).take t).map cdOf ++ [cdOf ((waysL kind M).getD t cl0)] by rw [cls_take (by rw [HKK.out]; exact ht1), List.map_append]; rfl)
      generalize (waysL kind M).getD t cl0 = x at *
      obtain ⟨xn, xa⟩ := x
      simp only at c0 c1
      clear hcell
      have hbz := HBx.out.size
      have HZ := Lib.hid hbz
      clear hbz
      go_wp2_with (at_builtin; refine wpList_append_cells _ (by rfl) _ _ 98 (by rfl) w1.heap.size 97 4 32 i0 _ Try.underlying98 hi hi0 hi1 hi2 rfl (by decide) u10 t (cdsV (((waysL kind M).take t).map cdOf)) (by rfl) (by exact (own_below' HO.out ((Below.refl _ _).alloc (Nat.le_refl _) _)).alloc _) ⟨wr.heap.size + 1, 0, none⟩ 1 1 (cdL (cdOf ⟨xn, xa⟩)) (by rfl) (by rfl) (by have := one_cd (wr.alloc (.cells #[.int .i64 xn, .int .i64 xa] 95)) (cdOf ⟨xn, xa⟩) 97; simpa [cdOf] using this) (by exact cdL_one _) (by omega) (by decide) (by have := HZ.out; simp; omega) ?_)
      intro v' w4 hown hgrow _
      have HB4 := Lib.hid (((HBx.out.alloc HZ.out (.cells #[.int .i64 xn, .int .i64 xa] 95)).alloc (by have := HZ.out; simp; omega) (.cells #[.int .i64 xn, .int .i64 xa, .int .i64 0, .int .i64 0] 97)).trans (below_own ((own_below' HO.out ((Below.refl _ _).alloc (Nat.le_refl _) _)).alloc _) hgrow (by have := HZ.out; simp; omega)))
      have HO4 := Lib.hid hown
      clear hown hgrow
      go_wp2_with fail
      go_roundg q
      case measure => omega
      case rel => exact ⟨t + 1, by omega, by go_num, (by rw [HTK.out, cdsV_snoc]; have h := HO4.out; rw [← List.map_take] at h; exact h), HB4.out⟩

/-- Good, of every kind. -/
theorem good_walk (kind n na ca M : Nat) (A : Option Addr) (l : List Ac) (w : World) (hk : kind ≤ 5) (hm : marksB kind M = true) (ha : ArcsAt w A na l) (hn : n ≤ 100000) (hna : na ≤ 900000) (hl : SmallA n l) (hml : ∀ a ∈ l, a.m < 2 ^ M) :
    Calls Try.prog 32 #[.int .i64 n, .slice A na ca, .int .i64 kind, .int .i64 M] w fun e w' => ResG w w' n (GoodA l kind M) e := by
  have hM40 : M ≤ 40 := by have := marksB_few hm; omega
  have hcase : kind = 0 ∨ kind = 1 ∨ kind = 2 ∨ kind = 3 ∨ kind = 4 ∨ kind = 5 := by omega
  rcases hcase with rfl | rfl | rfl | rfl | rfl | rfl
  · exact good_o 0 n na ca M A l w (by decide) (by decide) hm (fun W => ways_0 M hM40 W) ha hn hna hl hml
  · exact good_o 1 n na ca M A l w (by decide) (by decide) hm (fun W => ways_1 M hM40 W) ha hn hna hl hml
  · exact good_o 2 n na ca M A l w (by decide) (by decide) hm (fun W => ways_2 M hM40 W) ha hn hna hl hml
  · have hev : M % 2 = 0 := by unfold marksB at hm; simp at hm; unfold evenMB at hm; have := of_decide_eq_true hm; omega
    exact good_o 3 n na ca M A l w (by decide) (by decide) hm (fun W => ways_3 M hM40 hev W) ha hn hna hl hml
  · have hev : M % 2 = 0 := by unfold marksB at hm; simp at hm; unfold evenMB at hm; have := of_decide_eq_true hm; omega
    exact good_4 n na ca M A l w ha hn hna hl hM40 hev
  · exact good_o 5 n na ca M A l w (by decide) (by decide) hm (fun W => ways_5 M hM40 W) ha hn hna hl hml

end Go.Proofs.Ytalgbcndifaaiaa.Wd

namespace Go.Proofs.Ytalgbcndifaaiaa.Wd
open Go.RowKit

end Go.Proofs.Ytalgbcndifaaiaa.Wd

namespace Go.Proofs.Ytalgbcndifaaiaa.Wd
open Go.RowKit

theorem per_test {xs : List Int} {p : Nat} (h : ((xs.length : Int) % (p : Int) != 0) = false) : xs.length % p = 0 := by
  have h2 : ((xs.length : Int) % (p : Int)) = 0 := by simpa using h
  omega

theorem per_test' {n p : Nat} (h : ((n : Int) % (p : Int) != 0) = true) : ¬ n % p = 0 := by
  have h2 : ¬ ((n : Int) % (p : Int)) = 0 := by simpa using h
  omega
theorem per_more {xs : List Int} {p j : Nat} (h : ∀ t, p ≤ t → t < j → xs.getD t 0 = xs.getD (t - p) 0) (he : xs.getD j 0 = xs.getD (j - p) 0) :
    ∀ t, p ≤ t → t < j + 1 → xs.getD t 0 = xs.getD (t - p) 0 := by
  intro t h1 h2
  rcases Nat.lt_or_ge t j with hl | hg
  · exact h t h1 hl
  · obtain rfl : t = j := by omega
    exact he
theorem per_next {xs : List Int} {p : Nat} (h : ∀ q, 1 ≤ q → q < p → ¬ Per xs q) (hp : ¬ Per xs p) : ∀ q, 1 ≤ q → q < p + 1 → ¬ Per xs q := by
  intro q h1 h2
  rcases Nat.lt_or_ge q p with hl | hg
  · exact h q h1 hl
  · obtain rfl : q = p := by omega
    exact hp

end Go.Proofs.Ytalgbcndifaaiaa.Wd

namespace Go.Proofs.Ytalgbcndifaaiaa.Wd

theorem turn_mod (y j p : Nat) (hp : 0 < p) : ((y + j) % p + (p - j % p)) % p = y % p := by
  rw [Nat.mod_add_mod]
  have h1 := Nat.div_add_mod j p
  have h2 := Nat.mod_lt j hp
  have : y + j + (p - j % p) = y + p * (j / p + 1) := by
    rw [Nat.mul_add, Nat.mul_one]; omega
  rw [this, Nat.add_mul_mod_self_left]
theorem turn_mod' (i j p : Nat) (hp : 0 < p) (hi : i < j) : ((j - 1 - i) % p + (p - j % p)) % p = p - 1 - i % p := by
  rw [Nat.mod_add_mod]
  have h1 := Nat.div_add_mod j p
  have h2 := Nat.mod_lt j hp
  have h3 := Nat.div_add_mod i p
  have h4 := Nat.mod_lt i hp
  have hq : i / p ≤ j / p := Nat.div_le_div_right (by omega)
  obtain ⟨d, hd⟩ : ∃ d, j / p = i / p + d := ⟨j / p - i / p, by omega⟩
  have : j - 1 - i + (p - j % p) = (p - 1 - i % p) + p * d := by
    rw [hd, Nat.mul_add] at h1
    omega
  rw [this, Nat.add_mul_mod_self_left, Nat.mod_eq_of_lt (by omega)]

/-- The list turned to begin at s. -/
def rot (l : List Int) (s : Nat) : List Int := l.drop s ++ l.take s

theorem rot_length (l : List Int) (s : Nat) : (rot l s).length = l.length := by unfold rot; rw [List.length_append, List.length_drop, List.length_take]; omega
theorem rot_getD {l : List Int} {s i : Nat} (hs : s < l.length) (hi : i < l.length) : (rot l s).getD i 0 = l.getD ((i + s) % l.length) 0 := by
  unfold rot
  simp only [List.getD_eq_getElem?_getD]
  rcases Nat.lt_or_ge i (l.length - s) with h | h
  · rw [List.getElem?_append_left (by rw [List.length_drop]; exact h), List.getElem?_drop, Nat.mod_eq_of_lt (by omega), Nat.add_comm]
  · rw [List.getElem?_append_right (by rw [List.length_drop]; exact h), List.length_drop, List.getElem?_take, if_pos (by omega)]
    rw [show (i + s) % l.length = i - (l.length - s) from by
      rw [Nat.mod_eq_sub_mod (by omega), Nat.mod_eq_of_lt (by omega)]; omega]

theorem at_turn {xs L : List Int} {j : Nat} (hp : 0 < L.length) (hj : j ≤ xs.length)
    (hm : ∀ i, i < j → xs.getD (xs.length - 1 - i) 0 = L.getD (L.length - 1 - i % L.length) 0) (k : Nat) :
    at_ (xs.take (xs.length - j)) (rot L ((L.length - j % L.length) % L.length)) k = at_ xs L k := by
  have hs : (L.length - j % L.length) % L.length < L.length := Nat.mod_lt _ hp
  have hlen : (xs.take (xs.length - j)).length = xs.length - j := by rw [List.length_take]; omega
  rcases Nat.lt_or_ge k (xs.length - j) with h1 | h1
  · rw [at_lt (by omega), at_lt (by omega)]
    simp only [List.getD_eq_getElem?_getD, List.getElem?_take]
    rw [if_pos h1]
  · rw [at_ge (by omega), rot_length, rot_getD hs (Nat.mod_lt _ hp), Nat.add_mod_mod, hlen]
    rcases Nat.lt_or_ge k xs.length with h2 | h2
    · rw [at_lt h2]
      have := hm (xs.length - 1 - k) (by omega)
      rw [show xs.length - 1 - (xs.length - 1 - k) = k from by omega] at this
      rw [this, show k - (xs.length - j) = j - 1 - (xs.length - 1 - k) from by omega, turn_mod' _ _ _ hp (by omega)]
    · rw [at_ge h2, show k - (xs.length - j) = (k - xs.length) + j from by omega, turn_mod _ _ _ hp]

theorem nf_normal {xs ys : List Int} {p j : Nat} (hP : Least ys p) (hj : j ≤ xs.length)
    (hm : ∀ i, i < j → xs.getD (xs.length - 1 - i) 0 = ys.getD (p - 1 - i % p) 0) (hend : j = xs.length ∨ xs.getD (xs.length - 1 - j) 0 ≠ ys.getD (p - 1 - j % p) 0) :
    NF (at_ xs ys) (xs.take (xs.length - j)) (rot (ys.take p) ((p - j % p) % p)) := by
  have hp1 := hP.1
  have hp2 := hP.2.1
  have hlen : (ys.take p).length = p := by rw [List.length_take]; omega
  have hget : ∀ i, i < p → (ys.take p).getD i 0 = ys.getD i 0 := fun i hi => by simp [List.getD_eq_getElem?_getD, hi]
  have hf : ∀ k, at_ (xs.take (xs.length - j)) (rot (ys.take p) ((p - j % p) % p)) k = at_ xs ys k := by
    intro k
    have := at_turn (xs := xs) (L := ys.take p) (j := j) (by omega) hj (fun i hi => by
      rw [hlen, hget _ (by omega)]; exact hm i hi) k
    rw [hlen] at this
    rw [this, at_take hP]
  refine nf_of hf (by rw [rot_length, hlen]; omega) (fun m q h => by rw [rot_length, hlen]; exact least_ev hP m q h) ?_
  rcases hend with h | h
  · left; rw [h]; simp
  · rcases Nat.lt_or_ge j xs.length with h1 | h1
    · right
      have hl : (xs.take (xs.length - j)).length = xs.length - j := by rw [List.length_take]; omega
      rw [hl, rot_length, hlen, rot_getD (by rw [hlen]; exact Nat.mod_lt _ (by omega)) (by omega), hlen, Nat.add_mod_mod]
      have hlt := Nat.mod_lt j (show 0 < p by omega)
      rw [show (p - 1 + (p - j % p)) % p = p - 1 - j % p from by
        rw [Nat.mod_eq_sub_mod (by omega), Nat.mod_eq_of_lt (by omega)]; omega]
      rw [hget _ (by omega)]
      have : (xs.take (xs.length - j)).getD (xs.length - j - 1) 0 = xs.getD (xs.length - 1 - j) 0 := by
        rw [show xs.length - j - 1 = xs.length - 1 - j from by omega]
        simp only [List.getD_eq_getElem?_getD, List.getElem?_take]
        rw [if_pos (by omega)]
      rw [this]
      exact h
    · left
      rw [show xs.length - j = 0 from by omega]; simp

end Go.Proofs.Ytalgbcndifaaiaa.Wd

namespace Go.Proofs.Ytalgbcndifaaiaa.Wd
open Go.RowKit
set_option linter.unusedVariables false

/-- The value v is a word of the stem s and the loop l, which lie in the world w. -/
def IsWord (w : World) (v : Value) (s l : List Int) : Prop :=
  ∃ (A : Option Addr) (n c : Nat) (B : Option Addr) (m d : Nat), v = .agg #[.slice A n c, .slice B m d] ∧ Ints w A n s ∧ Ints w B m l ∧ n ≤ c ∧ m ≤ d

theorem IsWord.below {w w' : World} {v : Value} {s l : List Int} (h : IsWord w v s l) (hb : Below w.heap.size w w') : IsWord w' v s l := by
  obtain ⟨A, n, c, B, m, d, rfl, h1, h2, h3, h4⟩ := h
  exact ⟨A, n, c, B, m, d, rfl, h1.below hb, h2.below hb, h3, h4⟩

theorem back_more {xs ys : List Int} {n p j : Nat} (h : ∀ i, i < j → xs.getD (n - 1 - i) 0 = ys.getD (p - 1 - i % p) 0) (he : xs.getD (n - 1 - j) 0 = ys.getD (p - 1 - j % p) 0) :
    ∀ i, i < j + 1 → xs.getD (n - 1 - i) 0 = ys.getD (p - 1 - i % p) 0 := by
  intro i hi
  rcases Nat.lt_or_ge i j with hl | hg
  · exact h i hl
  · obtain rfl : i = j := by omega
    exact he

theorem start_turn (j p : Nat) (hp : 0 < p) : ∃ s : Nat, -((j : Int) % (p : Int)) % (p : Int) = (s : Int) ∧ (p - j % p) % p = s := ⟨_, by
  have := Nat.mod_lt j hp
  have e : -((j : Int) % (p : Int)) % (p : Int) = ((p : Int) - (j : Int) % (p : Int)) % (p : Int) := by simp
  rw [e, Int.natCast_emod, Int.ofNat_sub (by omega), Int.natCast_emod], rfl⟩

end Go.Proofs.Ytalgbcndifaaiaa.Wd

namespace Go.Proofs.Ytalgbcndifaaiaa.Wd
open Go.RowKit

/-- Are the lists equal? -/
def eqB (xs ys : List Int) : Bool := decide (xs = ys)
theorem eqB_len {xs ys : List Int} (h : xs.length ≠ ys.length) : eqB xs ys = false := by
  simp only [eqB, decide_eq_false_iff_not]; intro e; exact h (by rw [e])
theorem eqB_part {xs ys : List Int} {k : Nat} (hk : xs.getD k 0 ≠ ys.getD k 0) : eqB xs ys = false := by
  simp only [eqB, decide_eq_false_iff_not]; intro e; exact hk (by rw [e])
theorem eqB_all {xs ys : List Int} (hl : xs.length = ys.length) (h : ∀ i, i < xs.length → xs.getD i 0 = ys.getD i 0) : eqB xs ys = true := by
  simp only [eqB, decide_eq_true_eq]
  apply List.ext_getElem hl
  intro i h1 h2
  have := h i h1
  simpa [List.getD_eq_getElem?_getD, List.getElem?_eq_getElem h1, List.getElem?_eq_getElem h2] using this
theorem agree_more {xs ys : List Int} {k : Nat} (h : ∀ i, i < k → xs.getD i 0 = ys.getD i 0) (he : xs.getD k 0 = ys.getD k 0) : ∀ i, i < k + 1 → xs.getD i 0 = ys.getD i 0 := by
  intro i hi
  rcases Nat.lt_or_ge i k with hl | hg
  · exact h i hl
  · obtain rfl : i = k := by omega
    exact he

set_option maxHeartbeats 800000 in
theorem list_any (A B : Option Addr) (n c m d : Nat) (xs ys : List Int) (w : World) (h : Ints w A n xs) (h' : Ints w B m ys) (hn : n ≤ 100000) (hm : m ≤ 100000) :
    Calls Try.prog 27 #[.slice A n c, .slice B m d] w fun e w' => ∃ k : Nat, e = .returned (.bool (eqB xs ys)) ∧ w' = w.drewN k := by
  have HX := Lib.hid h.1
  have HY := Lib.hid h'.1
  by_cases hl : n = m
  · subst hl
    have hnn : ((n : Int) != (n : Int)) = false := by simp
    go_enter Try.func27, Try.ntmps27
    go_wp2_with fail
    go_loopg [5, 13] n (fun g _ i wx => ∃ j k : Nat, j + g = n ∧ j ≤ n ∧ i = .int .i64 j ∧ wx = w.drewN k ∧ Hid (∀ i, i < j → xs.getD i 0 = ys.getD i 0))
    case atStart => exact ⟨0, 0, by omega, by omega, rfl, rfl, fun i hi => by omega⟩
    case round =>
      obtain ⟨j, k, hjg, hjn, rfl, rfl, HI⟩ := hrel
      by_cases hjl : j < n
      · obtain ⟨bA, oA, rfl, hbA, hca⟩ := h.at_ hjl
        obtain ⟨bB, oB, rfl, hbB, hcb⟩ := h'.at_ hjl
        have c1 := hca j hjl
        have c2 := hcb j hjl
        clear hca hcb h h'
        generalize hva : xs.getD j 0 = va at c1
        generalize hvb : ys.getD j 0 = vb at c2
        have HA := Lib.hid hva
        have HB := Lib.hid hvb
        clear hva hvb
        cases gk with
        | zero => exfalso; omega
        | succ g =>
        cases he : (va != vb)
        · have HE := Lib.hid (show va = vb by simpa using he)
          go_wp2_with fail
          go_quiet (fail)
          go_wp2_with fail
          go_roundg g
          case measure => omega
          case rel => exact ⟨j + 1, _, by omega, by omega, by go_num, rfl, agree_more HI.out (by rw [HA.out, HB.out, HE.out])⟩
        · have HE := Lib.hid (show ¬ va = vb by simpa using he)
          go_wp2_with fail
          go_quiet (fail)
          go_wp2_with fail
          go_ret
          exact ⟨_, ret_bool (eqB_part (k := j) (by rw [HA.out, HB.out]; exact HE.out)).symm, World.drewN_drewN _ _ _⟩
      · go_wp2_with fail
        go_ret
        exact ⟨_, ret_bool (eqB_all (by rw [HX.out, HY.out]) (fun i hi => HI.out i (by rw [HX.out] at hi; omega))).symm, rfl⟩
  · have hnn : ((n : Int) != (m : Int)) = true := by simp; omega
    go_enter Try.func27, Try.ntmps27
    go_wp2_with fail
    go_ret
    exact ⟨0, ret_bool (eqB_len (by rw [HX.out, HY.out]; exact hl)).symm, rfl⟩

end Go.Proofs.Ytalgbcndifaaiaa.Wd

namespace Go.Proofs.Ytalgbcndifaaiaa.Wd
open Go.RowKit
set_option linter.unusedVariables false

theorem mod_toNat {k n m : Nat} (h : n ≤ k) : (((k : Int) - (n : Int)) % (m : Int)).toNat = (k - n) % m := by
  rw [show (k : Int) - n = ((k - n : Nat) : Int) by omega, ← Int.natCast_emod, Int.toNat_natCast]

set_option maxRecDepth 100000 in
set_option maxHeartbeats 800000 in
theorem letters_any (v : Value) (s l : List Int) (k : Nat) (w : World) (h : IsWord w v s l) (h1 : s.length + l.length ≤ 100000) (h0 : 0 < l.length) (hk : k ≤ 1000000) :
    Calls Try.prog 30 #[v, .int .i64 k] w fun e w' => e = .returned (.int .i64 (at_ s l k)) ∧ Below w.heap.size w w' := by
  obtain ⟨A, n, c, B, m, d, rfl, ha, hb, _, _⟩ := h
  have e1 := ha.1
  have e2 := hb.1
  by_cases hkn : k < n
  · obtain ⟨bA, oA, rfl, hbA, hca⟩ := ha.at_ hkn
    have c1 := hca k hkn
    generalize hva : s.getD k 0 = va at c1
    have HA := Lib.hid (show at_ s l k = va by rw [at_lt (by omega), hva])
    clear hva hca ha hb e1 e2 h1 h0
    go_enter Try.func30, Try.ntmps30
    go_wp2_with fail
    go_ret
    exact ⟨ret_int HA.out.symm, (Below.refl _ _).alloc (Nat.le_refl _) _⟩
  · obtain ⟨bB, oB, rfl, hbB, hcb⟩ := hb.at_ (show 0 < m by omega)
    have hm0 : 0 < m := by omega
    have hmod := Nat.mod_lt (k - n) hm0
    have c1 := hcb ((k - n) % m) hmod
    generalize hva : l.getD ((k - n) % m) 0 = va at c1
    have HA := Lib.hid (show at_ s l k = va by rw [at_ge (by omega), e1, e2, hva])
    have HE := Lib.hid (show (n : Int) ≤ k ∧ n ≤ 100000 ∧ m ≤ 100000 by omega)
    clear hva hcb ha hb e1 e2 h1 h0
    have b1 : (0 : Int) ≤ (k : Int) - n := by have := HE.out; omega
    have b2 : n ≤ 100000 := by have := HE.out; omega
    have b3 : m ≤ 100000 := by have := HE.out; omega
    have b4 : (0 : Int) ≤ ((k : Int) - n) % (m : Int) := Int.emod_nonneg _ (by omega)
    have b5 : ((k : Int) - n) % (m : Int) < (m : Int) := Int.emod_lt_of_pos _ (by omega)
    have hd : decide ((k : Int) < (n : Int)) = false := by simp; omega
    go_enter Try.func30, Try.ntmps30
    go_wp2_with fail
    have e1 : IntKind.i64.wrap ((k : Int) - (n : Int)) = (k : Int) - n := IntWalk.i64_in _ (by omega)
    have e2 : ((k : Int) - (n : Int)).tmod (m : Int) = ((k : Int) - n) % (m : Int) := Int.tmod_eq_emod_of_nonneg (by omega)
    have e3 : (((k : Int) - (n : Int)) % (m : Int)).toNat = (k - n) % m := mod_toNat (by omega)
    go_quiet (fail)
    clear e1 e2 e3
    go_wp2_with fail
    go_ret
    exact ⟨ret_int HA.out.symm, below_drewN ((Below.refl _ _).alloc (Nat.le_refl _) _) _⟩

theorem valid6 {s l : List Int} (h : validB 6 s l = true) : 0 < l.length ∧ s.length + l.length ≤ 200 := by
  simp [validB] at h
  omega

end Go.Proofs.Ytalgbcndifaaiaa.Wd

namespace Go.Proofs.Ytalgbcndifaaiaa.Wd
open Go.RowKit
set_option linter.unusedVariables false

set_option maxRecDepth 100000 in
set_option maxHeartbeats 800000 in
theorem letters_big (v : Value) (s l : List Int) (k : Nat) (w : World) (h : IsWord w v s l) (h1 : s.length + l.length ≤ 100000) (h0 : 0 < l.length) (hk : k ≤ 9223372036854775807) :
    Calls Try.prog 30 #[v, .int .i64 k] w fun e w' => e = .returned (.int .i64 (at_ s l k)) ∧ Below w.heap.size w w' := by
  obtain ⟨A, n, c, B, m, d, rfl, ha, hb, _, _⟩ := h
  have e1 := ha.1
  have e2 := hb.1
  by_cases hkn : k < n
  · obtain ⟨bA, oA, rfl, hbA, hca⟩ := ha.at_ hkn
    have c1 := hca k hkn
    generalize hva : s.getD k 0 = va at c1
    have HA := Lib.hid (show at_ s l k = va by rw [at_lt (by omega), hva])
    clear hva hca ha hb e1 e2 h1 h0
    go_enter Try.func30, Try.ntmps30
    go_wp2_with fail
    go_ret
    exact ⟨ret_int HA.out.symm, (Below.refl _ _).alloc (Nat.le_refl _) _⟩
  · obtain ⟨bB, oB, rfl, hbB, hcb⟩ := hb.at_ (show 0 < m by omega)
    have hm0 : 0 < m := by omega
    have hmod := Nat.mod_lt (k - n) hm0
    have c1 := hcb ((k - n) % m) hmod
    generalize hva : l.getD ((k - n) % m) 0 = va at c1
    have HA := Lib.hid (show at_ s l k = va by rw [at_ge (by omega), e1, e2, hva])
    have HE := Lib.hid (show (n : Int) ≤ k ∧ n ≤ 100000 ∧ m ≤ 100000 by omega)
    clear hva hcb ha hb e1 e2 h1 h0
    have b1 : (0 : Int) ≤ (k : Int) - n := by have := HE.out; omega
    have b2 : n ≤ 100000 := by have := HE.out; omega
    have b3 : m ≤ 100000 := by have := HE.out; omega
    have b4 : (0 : Int) ≤ ((k : Int) - n) % (m : Int) := Int.emod_nonneg _ (by omega)
    have b5 : ((k : Int) - n) % (m : Int) < (m : Int) := Int.emod_lt_of_pos _ (by omega)
    have hd : decide ((k : Int) < (n : Int)) = false := by simp; omega
    go_enter Try.func30, Try.ntmps30
    go_wp2_with fail
    have e1 : IntKind.i64.wrap ((k : Int) - (n : Int)) = (k : Int) - n := IntWalk.i64_in _ (by omega)
    have e2 : ((k : Int) - (n : Int)).tmod (m : Int) = ((k : Int) - n) % (m : Int) := Int.tmod_eq_emod_of_nonneg (by omega)
    have e3 : (((k : Int) - (n : Int)) % (m : Int)).toNat = (k - n) % m := mod_toNat (by omega)
    go_quiet (fail)
    clear e1 e2 e3
    go_wp2_with fail
    go_ret
    exact ⟨ret_int HA.out.symm, below_drewN ((Below.refl _ _).alloc (Nat.le_refl _) _) _⟩

/-- What At answers: the letter and the error. -/
def atR (s l : List Int) (k : Int) : Int × Int := if validB 6 s l = true then (if k < 0 then (0, 6) else (at_ s l k.toNat, 0)) else (0, 1)
theorem atR_bad {s l : List Int} {k : Int} (h : validB 6 s l = false) : atR s l k = (0, 1) := by simp [atR, h]
theorem atR_neg {s l : List Int} {k : Int} (h : validB 6 s l = true) (hk : k < 0) : atR s l k = (0, 6) := by simp [atR, h, hk]
theorem atR_pos {s l : List Int} {k : Nat} (h : validB 6 s l = true) : atR s l k = (at_ s l k, 0) := by simp [atR, h]
theorem ret_pair {p : Int × Int} {a b : Int} (h : p = (a, b)) : Ending.returned (.tuple #[.int .i64 a, .int .i64 b]) = .returned (.tuple #[.int .i64 p.1, .int .i64 p.2]) := by rw [h]

end Go.Proofs.Ytalgbcndifaaiaa.Wd

namespace Go.Proofs.Ytalgbcndifaaiaa.Wd
open Go.RowKit Go.Deep
set_option linter.unusedVariables false
set_option linter.unusedSimpArgs false

/-- The index after k, of a word with n letters before the loop and N in all. -/
def folN (n N k : Nat) : Nat := if k + 1 = N then n else k + 1
theorem folN_lt {n N k : Nat} (h : n < N) (hk : k < N) : folN n N k < N := by unfold folN; split <;> omega
def arcOf (N n : Nat) (e : Ed) (k : Nat) : Ac := ⟨e.f.toNat * N + k, e.t.toNat * N + folN n N k, e.m.toNat, 0⟩
def arcE (f : Nat → Int) (N n : Nat) (e : Ed) : Nat → List Ac
  | 0 => []
  | k + 1 => if letB (f k) e = true then arcE f N n e k ++ [arcOf N n e k] else arcE f N n e k
def arcP (f : Nat → Int) (N n : Nat) (es : List Ed) : Nat → List Ac
  | 0 => []
  | t + 1 => arcP f N n es t ++ arcE f N n (es.getD t ed0) N
theorem arcE_len (f : Nat → Int) (N n : Nat) (e : Ed) (k : Nat) : (arcE f N n e k).length ≤ k := by
  induction k with
  | zero => exact Nat.le_refl _
  | succ k ih =>
    unfold arcE
    split
    · rw [List.length_append]; show _ + 1 ≤ _; omega
    · omega
theorem arcE_mem {f : Nat → Int} {N n : Nat} {e : Ed} {k : Nat} {a : Ac} : a ∈ arcE f N n e k ↔ ∃ j, j < k ∧ letB (f j) e = true ∧ a = arcOf N n e j := by
  induction k with
  | zero => simp [arcE]
  | succ k ih =>
    unfold arcE
    split
    · rename_i h
      rw [List.mem_append, ih, List.mem_singleton]
      constructor
      · rintro (⟨j, h1, h2⟩ | rfl)
        · exact ⟨j, by omega, h2⟩
        · exact ⟨k, by omega, h, rfl⟩
      · rintro ⟨j, h1, h2, h3⟩
        by_cases e' : j = k
        · subst e'; exact .inr h3
        · exact .inl ⟨j, by omega, h2, h3⟩
    · rename_i h
      rw [ih]
      constructor
      · rintro ⟨j, h1, h2⟩; exact ⟨j, by omega, h2⟩
      · rintro ⟨j, h1, h2, h3⟩
        by_cases e' : j = k
        · subst e'; exact absurd h2 h
        · exact ⟨j, by omega, h2, h3⟩
theorem arcP_mem {f : Nat → Int} {N n : Nat} {es : List Ed} {t : Nat} {a : Ac} : a ∈ arcP f N n es t ↔ ∃ i j, i < t ∧ j < N ∧ letB (f j) (es.getD i ed0) = true ∧ a = arcOf N n (es.getD i ed0) j := by
  induction t with
  | zero => simp [arcP]
  | succ t ih =>
    rw [arcP, List.mem_append, ih, arcE_mem]
    constructor
    · rintro (⟨i, j, h1, h2⟩ | ⟨j, h1, h2⟩)
      · exact ⟨i, j, by omega, h2⟩
      · exact ⟨t, j, by omega, h1, h2⟩
    · rintro ⟨i, j, h1, h2, h3⟩
      by_cases e : i = t
      · subst e; exact .inr ⟨j, h2, h3⟩
      · exact .inl ⟨i, j, by omega, h2, h3⟩
theorem arcP_len (f : Nat → Int) (N n : Nat) (es : List Ed) (t : Nat) : (arcP f N n es t).length ≤ t * N := by
  induction t with
  | zero => simp [arcP]
  | succ t ih =>
    rw [arcP, List.length_append, Nat.succ_mul]
    have := arcE_len f N n (es.getD t ed0) N
    omega

/-- The edges are between states, their marks are below 2 ^ M. -/
def EdOK (S M : Nat) (es : List Ed) : Prop := ∀ j, j < es.length → ∃ a b m : Nat, (es.getD j ed0).f = (a : Int) ∧ (es.getD j ed0).t = (b : Int) ∧ (es.getD j ed0).m = (m : Int) ∧ a < S ∧ b < S ∧ m < 2 ^ M
theorem pair_lt {a S k N : Nat} (ha : a < S) (hk : k < N) : a * N + k < S * N := by
  have : (a + 1) * N ≤ S * N := Nat.mul_le_mul_right _ ha
  rw [Nat.succ_mul] at this
  omega
theorem arcP_small {f : Nat → Int} {N n S M : Nat} {es : List Ed} {t : Nat} (h : EdOK S M es) (ht : t ≤ es.length) (hn : n < N) (hM : M ≤ 40) : SmallA (S * N) (arcP f N n es t) ∧ ∀ a ∈ arcP f N n es t, a.m < 2 ^ M := by
  have key : ∀ a ∈ arcP f N n es t, a.f < S * N ∧ a.t < S * N ∧ a.m < 2 ^ M ∧ a.o = 0 := fun a ha => by
    obtain ⟨i, j, h1, h2, h3, rfl⟩ := arcP_mem.1 ha
    obtain ⟨x, y, m, e1, e2, e3, l1, l2, l3⟩ := h i (by omega)
    refine ⟨?_, ?_, ?_, rfl⟩
    · show (es.getD i ed0).f.toNat * N + j < _
      rw [e1, Int.toNat_natCast]; exact pair_lt l1 h2
    · show (es.getD i ed0).t.toNat * N + folN n N j < _
      rw [e2, Int.toNat_natCast]; exact pair_lt l2 (folN_lt hn h2)
    · show (es.getD i ed0).m.toNat < _
      rw [e3, Int.toNat_natCast]; exact l3
  have hp : 2 ^ M ≤ 2 ^ 40 := Nat.pow_le_pow_right (by decide) hM
  exact ⟨fun a ha => ⟨(key a ha).1, (key a ha).2.1, by have := (key a ha).2.2.1; omega, by rw [(key a ha).2.2.2]; decide⟩, fun a ha => (key a ha).2.2.1⟩

theorem places_any (A B : Option Addr) (n c m d : Nat) (w : World) (h : n + m ≤ 100000) : Calls Try.prog 29 #[.agg #[.slice A n c, .slice B m d]] w fun e w' => e = .returned (.int .i64 ((n + m : Nat) : Int)) ∧ Below w.heap.size w w' := by
  have h0 : (0 : Int) ≤ (n : Int) := by omega
  have h1 : (n : Int) ≤ 100000 := by omega
  have h2 : (0 : Int) ≤ (m : Int) := by omega
  have h3 : (m : Int) ≤ 100000 := by omega
  go_enter Try.func29, Try.ntmps29
  go_wp2_with fail
  go_ret
  exact ⟨ret_int (by omega), (Below.refl _ _).alloc (Nat.le_refl _) _⟩

set_option maxHeartbeats 2000000 in
theorem follow_any (A B : Option Addr) (n c m d k : Nat) (w : World) (h : n + m ≤ 100000) (hk : k ≤ 100000) : Calls Try.prog 31 #[.agg #[.slice A n c, .slice B m d], .int .i64 k] w fun e w' => e = .returned (.int .i64 (folN n (n + m) k : Nat)) ∧ Below w.heap.size w w' := by
  have HP := Lib.hid (fun W => places_any A B n c m d W h)
  have h0 : (0 : Int) ≤ (k : Int) := by omega
  have h1 : (k : Int) ≤ 100000 := by omega
  obtain ⟨N, hN, HN⟩ : ∃ N, n + m = N ∧ Hid (n + m = N) := ⟨_, rfl, rfl⟩
  rw [hN] at HP ⊢
  by_cases hk1 : k + 1 = N
  · have HF := Lib.hid (show folN n N k = n by unfold folN; rw [if_pos hk1])
    subst hk1
    have hw1 : IntKind.i64.wrap ((k : Int) + 1) = (k : Int) + 1 := by rw [IntKind.wrap_i64]; omega
    clear hN h
    go_enter Try.func31, Try.ntmps31
    go_wp2_with fail
    refine (HP.out _).mono ?_
    rintro e w1 ⟨rfl, hb1⟩
    have HB1 := Lib.hid (show Below w.heap.size w w1 from ((Below.refl _ _).alloc (Nat.le_refl _) _).trans (hb1.mono (by simp)))
    have hc0 := (hb1.cell (p := ⟨w.heap.size, 0, none⟩) (by simp)).trans (box_last w #[.slice A n c, .slice B m d] 27 0)
    clear hb1
    go_wp2_with fail
    go_ret
    exact ⟨ret_int (by rw [HF.out]), HB1.out⟩
  · have HF := Lib.hid (show folN n N k = k + 1 by unfold folN; rw [if_neg hk1])
    have hw1 : IntKind.i64.wrap ((k : Int) + 1) = (k : Int) + 1 := by rw [IntKind.wrap_i64]; omega
    have hne : ((k : Int) + 1 == (N : Int)) = false := by rw [beq_eq_false_iff_ne]; omega
    clear hN h hk1
    go_enter Try.func31, Try.ntmps31
    go_wp2_with fail
    refine (HP.out _).mono ?_
    rintro e w1 ⟨rfl, hb1⟩
    have HB1 := Lib.hid (show Below w.heap.size w w1 from ((Below.refl _ _).alloc (Nat.le_refl _) _).trans (hb1.mono (by simp)))
    clear hb1
    go_wp2_with fail
    go_ret
    exact ⟨ret_int (by rw [HF.out]; omega), HB1.out⟩

end Go.Proofs.Ytalgbcndifaaiaa.Wd
