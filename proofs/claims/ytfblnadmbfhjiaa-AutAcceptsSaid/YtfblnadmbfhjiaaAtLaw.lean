/-
  AutAccepts of lodesmanlaw05: the walk.
-/
import Derived.Test.YtfblnadmbfhjiaaAtAwake
namespace Go.Proofs.Ytfblnadmbfhjiaa.Wd
open Go.RowKit Go.Maps
set_option linter.unusedVariables false

/-- An entry of a map that is written out, as a store into a map of the call's own. -/
theorem wpList_insert_own {H : Type} {P : Program} (w : World) {ops : Array Oper} {rest : List Oper} {o : Oper} {a : Act} {Q : Exit → Act → World → Prop}
    (hg : o.guard = none) (m x v : Operand) (t : TypeId) (hop : o.op = Op.insert t m x v)
    (k e : TypeId) (K : Keyed P k) (ht : P.underlying t = some (.map k e)) (R : Value → Option (DataW H × List MemPlace)) (b n : Nat) (D : DataW H)
    (hm : a.eval m = .map (some b)) (hown : w.ownsMap P k R b n D) (hn : n < maxLen) (key val : Value) (kl : Lit) (hx : a.eval x = key) (hv : a.eval v = val) (hkey : keyOf P k key = some kl)
    (d : DataW H) (ps : List MemPlace) (hval : R val = some (d, ps))
    (hK : ∀ w', w'.ownsMap P k R b (n + 1) (D.put kl d) → w.grownBy w' (some b) → wpList P ops Q rest (a.put o.dst undef) w') :
    wpList P ops Q (o :: rest) a w := by
  refine wpList_plain hg fun K' hK' => ?_
  obtain ⟨w', hrun, r1, r2⟩ := hown.update K ht hn hkey hval
  unfold Oper.wp
  simp [execOp, hop, hm, hx, hv, hrun, Result.andThen]
  exact hK' _ _ (hK w' r1 r2)

theorem keyInt {k : Int} (hk : -9223372036854775808 ≤ k ∧ k ≤ 9223372036854775807) : keyOf Try.prog 3 (.int .i64 k) = some (.int .i64 k) := keyOf_int_mk Try.underlying3 (by simp [Lit.wf, IntKind.min, IntKind.max, IntKind.signed, IntKind.bits]; omega)

/-- The map of the kinds that are opposite to each other. -/
def otherD : DataW Nat := ((((DataW.map (H := Nat) []).put (.int .i64 3) (.lit (.int .i64 4))).put (.int .i64 4) (.lit (.int .i64 3))).put (.int .i64 0) (.lit (.int .i64 2))).put (.int .i64 2) (.lit (.int .i64 0))
theorem other_has0 : Maps.has otherD (.int .i64 0) = true := rfl
theorem other_has2 : Maps.has otherD (.int .i64 2) = true := rfl
theorem other_has3 : Maps.has otherD (.int .i64 3) = true := rfl
theorem other_has4 : Maps.has otherD (.int .i64 4) = true := rfl
theorem other_at0 : otherD.atKey (.int .i64 0) (.lit (.int .i64 0)) = .lit (.int .i64 2) := rfl
theorem other_at2 : otherD.atKey (.int .i64 2) (.lit (.int .i64 0)) = .lit (.int .i64 0) := rfl
theorem other_at3 : otherD.atKey (.int .i64 3) (.lit (.int .i64 0)) = .lit (.int .i64 4) := rfl
theorem other_at4 : otherD.atKey (.int .i64 4) (.lit (.int .i64 0)) = .lit (.int .i64 3) := rfl
theorem other_no {k : Int} (h0 : k ≠ 0) (h2 : k ≠ 2) (h3 : k ≠ 3) (h4 : k ≠ 4) : Maps.has otherD (.int .i64 k) = false := by
  have e : otherD = .map [(.int .i64 0, .lit (.int .i64 2)), (.int .i64 2, .lit (.int .i64 0)), (.int .i64 3, .lit (.int .i64 4)), (.int .i64 4, .lit (.int .i64 3))] := rfl
  rw [e]
  simp [Maps.has, Lit.sameKey]
  omega

/-- The opposite kind accepts what the kind does not. -/
def Opp (k k' : Int) : Prop := ∀ (marks x : Int) (r r' : Bool) (c' : Int), AccR k marks x r 0 → AccR k' marks x r' c' → c' = 0 ∧ r' = !r
theorem opp_of {k k' : Int} (hk : 0 ≤ k ∧ k ≤ 5) (hk' : 0 ≤ k' ∧ k' ≤ 5) (hm : ∀ m, marksB k' m = marksB k m) (ha : ∀ (m : Nat) (x : Int), marksB k m = true → 0 ≤ x → x < 2 ^ m → accB k' m x = !accB k m x) : Opp k k' := by
  intro marks x r r' c' h h'
  rcases h with ⟨_, _, hc⟩ | ⟨_, _, _, hc⟩ | ⟨_, _, _, _, hc⟩ | ⟨_, h2, h3, rfl, _⟩
  · cases hc
  · cases hc
  · cases hc
  · rcases h' with ⟨g, _, _⟩ | ⟨_, g, _, _⟩ | ⟨_, _, g, _, _⟩ | ⟨_, _, _, rfl, rfl⟩
    · exact absurd hk' g
    · rw [hm, h2] at g; cases g
    · exact absurd h3 g
    · have h0 := marksB_few h2
      obtain ⟨m, rfl⟩ := Int.eq_ofNat_of_zero_le h0.1
      exact ⟨rfl, ha m x h2 h3.1 h3.2⟩
theorem marks_one {m : Nat} (h : marksB 0 m = true) : m = 1 := by
  unfold marksB at h
  rw [if_pos (by decide)] at h
  have := of_decide_eq_true h
  omega
theorem opp_34 : Opp 3 4 := opp_of (by decide) (by decide) (fun m => rfl) (fun m x _ _ _ => rfl)
theorem opp_43 : Opp 4 3 := opp_of (by decide) (by decide) (fun m => rfl) (fun m x _ _ _ => by show pairB m x = !(!pairB m x); rw [Bool.not_not])
theorem opp_02 : Opp 0 2 := opp_of (by decide) (by decide) (fun m => rfl) (fun m x h h0 h1 => by
  obtain rfl := marks_one h
  have h4 : x = 0 ∨ x = 1 := by omega
  rcases h4 with rfl | rfl <;> rfl)
theorem opp_20 : Opp 2 0 := opp_of (by decide) (by decide) (fun m => rfl) (fun m x h h0 h1 => by
  obtain rfl := marks_one h
  have h4 : x = 0 ∨ x = 1 := by omega
  rcases h4 with rfl | rfl <;> rfl)

theorem four_below {B : Nat} {w v1 v2 v3 v4 : World} {o : Obj} (g1 : (w.alloc o).grownBy v1 (some w.heap.size)) (g2 : v1.grownBy v2 (some w.heap.size)) (g3 : v2.grownBy v3 (some w.heap.size)) (g4 : v3.grownBy v4 (some w.heap.size)) (hB : B ≤ w.heap.size) : Below B w v4 :=
  ((Below.refl _ _).alloc (Nat.le_refl _) o).grown (((g1.trans g2).trans g3).trans g4) (by simp) (fun k hk => by cases hk; exact Nat.le_refl _) |>.mono hB

set_option maxRecDepth 100000 in
set_option maxHeartbeats 4000000 in
theorem accepts_law_0 (marks x : Int) (w : World) : Calls Try.prog 4 #[.int .i64 0, .int .i64 marks, .int .i64 x] w fun e w' => e = .returned (.bool true) ∧ Below w.heap.size w w' := by
  have hmm := @run_makeMap Try.prog
  go_enter Try.func4, Try.ntmps4
  go_wp2_with fail
  refine (accepts_any 0 marks x _).mono ?_
  rintro e w1 ⟨r1, c1, rfl, h1, hb1⟩
  have HB1 := Lib.hid hb1
  clear hb1
  go_wp2_with fail
  refine (refAccepts_any 0 marks x _).mono ?_
  rintro e w2 ⟨r2, c2, rfl, h2, hb2⟩
  have HB2 := Lib.hid (HB1.out.trans (hb2.mono HB1.out.size))
  obtain ⟨rfl, rfl⟩ := h1.out.unique h2.out
  clear hb2 h2
  obtain ⟨wz, rfl⟩ : ∃ wz, wz = w2 := ⟨_, rfl⟩
  have hown0 := World.ownsMap_made (H := Nat) wz Try.prog 3 (plainElem Try.prog 3)
  have hhas := other_has0
  by_cases hc : c1 = 0
  · subst hc
    go_wp2_with (first | (at_lookup; refine wpList_lookup_own_ok_int _ rfl _ _ 41 rfl 3 3 .i64 lawInt Try.underlying41 Try.underlying3 (zeroInt _) wz.heap.size 4 otherD rfl hown4 _ _ rfl (keyInt (k := 0) (by decide)) ?_; intro cc hat hwc; rw [other_at0] at hat; cases hat; clear hwc; have HB4 := Lib.hid (HB2.out.trans (four_below hgr1 hgr2 hgr3 hgr4 HB2.out.size)); clear hown0 hown1 hown2 hown3 hown4 hgr1 hgr2 hgr3 hgr4) | (show wpList _ _ _ (Oper.mk _ (Op.insert _ _ _ _) _ _ _ _ :: _) _ _; refine wpList_insert_own _ rfl _ _ _ 41 rfl 3 3 lawInt Try.underlying41 _ wz.heap.size 3 _ rfl hown3 (by unfold maxLen; omega) _ _ _ rfl rfl (keyInt (k := 2) (by decide)) _ [] (plainElem_int Try.underlying3 (by decide)) ?_; intro v4 hown4 hgr4) | (show wpList _ _ _ (Oper.mk _ (Op.insert _ _ _ _) _ _ _ _ :: _) _ _; refine wpList_insert_own _ rfl _ _ _ 41 rfl 3 3 lawInt Try.underlying41 _ wz.heap.size 2 _ rfl hown2 (by unfold maxLen; omega) _ _ _ rfl rfl (keyInt (k := 0) (by decide)) _ [] (plainElem_int Try.underlying3 (by decide)) ?_; intro v3 hown3 hgr3) | (show wpList _ _ _ (Oper.mk _ (Op.insert _ _ _ _) _ _ _ _ :: _) _ _; refine wpList_insert_own _ rfl _ _ _ 41 rfl 3 3 lawInt Try.underlying41 _ wz.heap.size 1 _ rfl hown1 (by unfold maxLen; omega) _ _ _ rfl rfl (keyInt (k := 4) (by decide)) _ [] (plainElem_int Try.underlying3 (by decide)) ?_; intro v2 hown2 hgr2) | (show wpList _ _ _ (Oper.mk _ (Op.insert _ _ _ _) _ _ _ _ :: _) _ _; refine wpList_insert_own _ rfl _ _ _ 41 rfl 3 3 lawInt Try.underlying41 _ wz.heap.size 0 _ rfl hown0 (by unfold maxLen; omega) _ _ _ rfl rfl (keyInt (k := 3) (by decide)) _ [] (plainElem_int Try.underlying3 (by decide)) ?_; intro v1 hown1 hgr1))
    refine (accepts_any 2 marks x _).mono ?_
    rintro e w5 ⟨r5, c5, rfl, h5, hb5⟩
    obtain ⟨rfl, rfl⟩ := opp_02 marks x r1 r5 c5 h1.out h5.out
    have HB5 := Lib.hid (HB4.out.trans (hb5.mono HB4.out.size))
    clear hb5 h5 h1 hhas
    have hne : ((!r1) != r1) = true := by cases r1 <;> rfl
    go_wp2_with fail
    refine (awake5_any _).mono ?_
    rintro e w6 ⟨rfl, hb6⟩
    go_wp2_with fail
    go_ret
    exact ⟨rfl, HB5.out.trans (hb6.mono HB5.out.size)⟩
  · have hc' : (c1 == 0) = false := by simpa using hc
    clear hc
    go_wp2_with (first | (at_lookup; refine wpList_lookup_own_ok_int _ rfl _ _ 41 rfl 3 3 .i64 lawInt Try.underlying41 Try.underlying3 (zeroInt _) wz.heap.size 4 otherD rfl hown4 _ _ rfl (keyInt (k := 0) (by decide)) ?_; intro cc hat hwc; rw [other_at0] at hat; cases hat; clear hwc; have HB4 := Lib.hid (HB2.out.trans (four_below hgr1 hgr2 hgr3 hgr4 HB2.out.size)); clear hown0 hown1 hown2 hown3 hown4 hgr1 hgr2 hgr3 hgr4) | (show wpList _ _ _ (Oper.mk _ (Op.insert _ _ _ _) _ _ _ _ :: _) _ _; refine wpList_insert_own _ rfl _ _ _ 41 rfl 3 3 lawInt Try.underlying41 _ wz.heap.size 3 _ rfl hown3 (by unfold maxLen; omega) _ _ _ rfl rfl (keyInt (k := 2) (by decide)) _ [] (plainElem_int Try.underlying3 (by decide)) ?_; intro v4 hown4 hgr4) | (show wpList _ _ _ (Oper.mk _ (Op.insert _ _ _ _) _ _ _ _ :: _) _ _; refine wpList_insert_own _ rfl _ _ _ 41 rfl 3 3 lawInt Try.underlying41 _ wz.heap.size 2 _ rfl hown2 (by unfold maxLen; omega) _ _ _ rfl rfl (keyInt (k := 0) (by decide)) _ [] (plainElem_int Try.underlying3 (by decide)) ?_; intro v3 hown3 hgr3) | (show wpList _ _ _ (Oper.mk _ (Op.insert _ _ _ _) _ _ _ _ :: _) _ _; refine wpList_insert_own _ rfl _ _ _ 41 rfl 3 3 lawInt Try.underlying41 _ wz.heap.size 1 _ rfl hown1 (by unfold maxLen; omega) _ _ _ rfl rfl (keyInt (k := 4) (by decide)) _ [] (plainElem_int Try.underlying3 (by decide)) ?_; intro v2 hown2 hgr2) | (show wpList _ _ _ (Oper.mk _ (Op.insert _ _ _ _) _ _ _ _ :: _) _ _; refine wpList_insert_own _ rfl _ _ _ 41 rfl 3 3 lawInt Try.underlying41 _ wz.heap.size 0 _ rfl hown0 (by unfold maxLen; omega) _ _ _ rfl rfl (keyInt (k := 3) (by decide)) _ [] (plainElem_int Try.underlying3 (by decide)) ?_; intro v1 hown1 hgr1))
    refine (awake5_any _).mono ?_
    rintro e w6 ⟨rfl, hb6⟩
    go_wp2_with fail
    go_ret
    exact ⟨rfl, HB4.out.trans (hb6.mono HB4.out.size)⟩

set_option maxRecDepth 100000 in
set_option maxHeartbeats 4000000 in
theorem accepts_law_2 (marks x : Int) (w : World) : Calls Try.prog 4 #[.int .i64 2, .int .i64 marks, .int .i64 x] w fun e w' => e = .returned (.bool true) ∧ Below w.heap.size w w' := by
  have hmm := @run_makeMap Try.prog
  go_enter Try.func4, Try.ntmps4
  go_wp2_with fail
  refine (accepts_any 2 marks x _).mono ?_
  rintro e w1 ⟨r1, c1, rfl, h1, hb1⟩
  have HB1 := Lib.hid hb1
  clear hb1
  go_wp2_with fail
  refine (refAccepts_any 2 marks x _).mono ?_
  rintro e w2 ⟨r2, c2, rfl, h2, hb2⟩
  have HB2 := Lib.hid (HB1.out.trans (hb2.mono HB1.out.size))
  obtain ⟨rfl, rfl⟩ := h1.out.unique h2.out
  clear hb2 h2
  obtain ⟨wz, rfl⟩ : ∃ wz, wz = w2 := ⟨_, rfl⟩
  have hown0 := World.ownsMap_made (H := Nat) wz Try.prog 3 (plainElem Try.prog 3)
  have hhas := other_has2
  by_cases hc : c1 = 0
  · subst hc
    go_wp2_with (first | (at_lookup; refine wpList_lookup_own_ok_int _ rfl _ _ 41 rfl 3 3 .i64 lawInt Try.underlying41 Try.underlying3 (zeroInt _) wz.heap.size 4 otherD rfl hown4 _ _ rfl (keyInt (k := 2) (by decide)) ?_; intro cc hat hwc; rw [other_at2] at hat; cases hat; clear hwc; have HB4 := Lib.hid (HB2.out.trans (four_below hgr1 hgr2 hgr3 hgr4 HB2.out.size)); clear hown0 hown1 hown2 hown3 hown4 hgr1 hgr2 hgr3 hgr4) | (show wpList _ _ _ (Oper.mk _ (Op.insert _ _ _ _) _ _ _ _ :: _) _ _; refine wpList_insert_own _ rfl _ _ _ 41 rfl 3 3 lawInt Try.underlying41 _ wz.heap.size 3 _ rfl hown3 (by unfold maxLen; omega) _ _ _ rfl rfl (keyInt (k := 2) (by decide)) _ [] (plainElem_int Try.underlying3 (by decide)) ?_; intro v4 hown4 hgr4) | (show wpList _ _ _ (Oper.mk _ (Op.insert _ _ _ _) _ _ _ _ :: _) _ _; refine wpList_insert_own _ rfl _ _ _ 41 rfl 3 3 lawInt Try.underlying41 _ wz.heap.size 2 _ rfl hown2 (by unfold maxLen; omega) _ _ _ rfl rfl (keyInt (k := 0) (by decide)) _ [] (plainElem_int Try.underlying3 (by decide)) ?_; intro v3 hown3 hgr3) | (show wpList _ _ _ (Oper.mk _ (Op.insert _ _ _ _) _ _ _ _ :: _) _ _; refine wpList_insert_own _ rfl _ _ _ 41 rfl 3 3 lawInt Try.underlying41 _ wz.heap.size 1 _ rfl hown1 (by unfold maxLen; omega) _ _ _ rfl rfl (keyInt (k := 4) (by decide)) _ [] (plainElem_int Try.underlying3 (by decide)) ?_; intro v2 hown2 hgr2) | (show wpList _ _ _ (Oper.mk _ (Op.insert _ _ _ _) _ _ _ _ :: _) _ _; refine wpList_insert_own _ rfl _ _ _ 41 rfl 3 3 lawInt Try.underlying41 _ wz.heap.size 0 _ rfl hown0 (by unfold maxLen; omega) _ _ _ rfl rfl (keyInt (k := 3) (by decide)) _ [] (plainElem_int Try.underlying3 (by decide)) ?_; intro v1 hown1 hgr1))
    refine (accepts_any 0 marks x _).mono ?_
    rintro e w5 ⟨r5, c5, rfl, h5, hb5⟩
    obtain ⟨rfl, rfl⟩ := opp_20 marks x r1 r5 c5 h1.out h5.out
    have HB5 := Lib.hid (HB4.out.trans (hb5.mono HB4.out.size))
    clear hb5 h5 h1 hhas
    have hne : ((!r1) != r1) = true := by cases r1 <;> rfl
    go_wp2_with fail
    refine (awake5_any _).mono ?_
    rintro e w6 ⟨rfl, hb6⟩
    go_wp2_with fail
    go_ret
    exact ⟨rfl, HB5.out.trans (hb6.mono HB5.out.size)⟩
  · have hc' : (c1 == 0) = false := by simpa using hc
    clear hc
    go_wp2_with (first | (at_lookup; refine wpList_lookup_own_ok_int _ rfl _ _ 41 rfl 3 3 .i64 lawInt Try.underlying41 Try.underlying3 (zeroInt _) wz.heap.size 4 otherD rfl hown4 _ _ rfl (keyInt (k := 2) (by decide)) ?_; intro cc hat hwc; rw [other_at2] at hat; cases hat; clear hwc; have HB4 := Lib.hid (HB2.out.trans (four_below hgr1 hgr2 hgr3 hgr4 HB2.out.size)); clear hown0 hown1 hown2 hown3 hown4 hgr1 hgr2 hgr3 hgr4) | (show wpList _ _ _ (Oper.mk _ (Op.insert _ _ _ _) _ _ _ _ :: _) _ _; refine wpList_insert_own _ rfl _ _ _ 41 rfl 3 3 lawInt Try.underlying41 _ wz.heap.size 3 _ rfl hown3 (by unfold maxLen; omega) _ _ _ rfl rfl (keyInt (k := 2) (by decide)) _ [] (plainElem_int Try.underlying3 (by decide)) ?_; intro v4 hown4 hgr4) | (show wpList _ _ _ (Oper.mk _ (Op.insert _ _ _ _) _ _ _ _ :: _) _ _; refine wpList_insert_own _ rfl _ _ _ 41 rfl 3 3 lawInt Try.underlying41 _ wz.heap.size 2 _ rfl hown2 (by unfold maxLen; omega) _ _ _ rfl rfl (keyInt (k := 0) (by decide)) _ [] (plainElem_int Try.underlying3 (by decide)) ?_; intro v3 hown3 hgr3) | (show wpList _ _ _ (Oper.mk _ (Op.insert _ _ _ _) _ _ _ _ :: _) _ _; refine wpList_insert_own _ rfl _ _ _ 41 rfl 3 3 lawInt Try.underlying41 _ wz.heap.size 1 _ rfl hown1 (by unfold maxLen; omega) _ _ _ rfl rfl (keyInt (k := 4) (by decide)) _ [] (plainElem_int Try.underlying3 (by decide)) ?_; intro v2 hown2 hgr2) | (show wpList _ _ _ (Oper.mk _ (Op.insert _ _ _ _) _ _ _ _ :: _) _ _; refine wpList_insert_own _ rfl _ _ _ 41 rfl 3 3 lawInt Try.underlying41 _ wz.heap.size 0 _ rfl hown0 (by unfold maxLen; omega) _ _ _ rfl rfl (keyInt (k := 3) (by decide)) _ [] (plainElem_int Try.underlying3 (by decide)) ?_; intro v1 hown1 hgr1))
    refine (awake5_any _).mono ?_
    rintro e w6 ⟨rfl, hb6⟩
    go_wp2_with fail
    go_ret
    exact ⟨rfl, HB4.out.trans (hb6.mono HB4.out.size)⟩

set_option maxRecDepth 100000 in
set_option maxHeartbeats 4000000 in
theorem accepts_law_3 (marks x : Int) (w : World) : Calls Try.prog 4 #[.int .i64 3, .int .i64 marks, .int .i64 x] w fun e w' => e = .returned (.bool true) ∧ Below w.heap.size w w' := by
  have hmm := @run_makeMap Try.prog
  go_enter Try.func4, Try.ntmps4
  go_wp2_with fail
  refine (accepts_any 3 marks x _).mono ?_
  rintro e w1 ⟨r1, c1, rfl, h1, hb1⟩
  have HB1 := Lib.hid hb1
  clear hb1
  go_wp2_with fail
  refine (refAccepts_any 3 marks x _).mono ?_
  rintro e w2 ⟨r2, c2, rfl, h2, hb2⟩
  have HB2 := Lib.hid (HB1.out.trans (hb2.mono HB1.out.size))
  obtain ⟨rfl, rfl⟩ := h1.out.unique h2.out
  clear hb2 h2
  obtain ⟨wz, rfl⟩ : ∃ wz, wz = w2 := ⟨_, rfl⟩
  have hown0 := World.ownsMap_made (H := Nat) wz Try.prog 3 (plainElem Try.prog 3)
  have hhas := other_has3
  by_cases hc : c1 = 0
  · subst hc
    go_wp2_with (first | (at_lookup; refine wpList_lookup_own_ok_int _ rfl _ _ 41 rfl 3 3 .i64 lawInt Try.underlying41 Try.underlying3 (zeroInt _) wz.heap.size 4 otherD rfl hown4 _ _ rfl (keyInt (k := 3) (by decide)) ?_; intro cc hat hwc; rw [other_at3] at hat; cases hat; clear hwc; have HB4 := Lib.hid (HB2.out.trans (four_below hgr1 hgr2 hgr3 hgr4 HB2.out.size)); clear hown0 hown1 hown2 hown3 hown4 hgr1 hgr2 hgr3 hgr4) | (show wpList _ _ _ (Oper.mk _ (Op.insert _ _ _ _) _ _ _ _ :: _) _ _; refine wpList_insert_own _ rfl _ _ _ 41 rfl 3 3 lawInt Try.underlying41 _ wz.heap.size 3 _ rfl hown3 (by unfold maxLen; omega) _ _ _ rfl rfl (keyInt (k := 2) (by decide)) _ [] (plainElem_int Try.underlying3 (by decide)) ?_; intro v4 hown4 hgr4) | (show wpList _ _ _ (Oper.mk _ (Op.insert _ _ _ _) _ _ _ _ :: _) _ _; refine wpList_insert_own _ rfl _ _ _ 41 rfl 3 3 lawInt Try.underlying41 _ wz.heap.size 2 _ rfl hown2 (by unfold maxLen; omega) _ _ _ rfl rfl (keyInt (k := 0) (by decide)) _ [] (plainElem_int Try.underlying3 (by decide)) ?_; intro v3 hown3 hgr3) | (show wpList _ _ _ (Oper.mk _ (Op.insert _ _ _ _) _ _ _ _ :: _) _ _; refine wpList_insert_own _ rfl _ _ _ 41 rfl 3 3 lawInt Try.underlying41 _ wz.heap.size 1 _ rfl hown1 (by unfold maxLen; omega) _ _ _ rfl rfl (keyInt (k := 4) (by decide)) _ [] (plainElem_int Try.underlying3 (by decide)) ?_; intro v2 hown2 hgr2) | (show wpList _ _ _ (Oper.mk _ (Op.insert _ _ _ _) _ _ _ _ :: _) _ _; refine wpList_insert_own _ rfl _ _ _ 41 rfl 3 3 lawInt Try.underlying41 _ wz.heap.size 0 _ rfl hown0 (by unfold maxLen; omega) _ _ _ rfl rfl (keyInt (k := 3) (by decide)) _ [] (plainElem_int Try.underlying3 (by decide)) ?_; intro v1 hown1 hgr1))
    refine (accepts_any 4 marks x _).mono ?_
    rintro e w5 ⟨r5, c5, rfl, h5, hb5⟩
    obtain ⟨rfl, rfl⟩ := opp_34 marks x r1 r5 c5 h1.out h5.out
    have HB5 := Lib.hid (HB4.out.trans (hb5.mono HB4.out.size))
    clear hb5 h5 h1 hhas
    have hne : ((!r1) != r1) = true := by cases r1 <;> rfl
    go_wp2_with fail
    refine (awake5_any _).mono ?_
    rintro e w6 ⟨rfl, hb6⟩
    go_wp2_with fail
    go_ret
    exact ⟨rfl, HB5.out.trans (hb6.mono HB5.out.size)⟩
  · have hc' : (c1 == 0) = false := by simpa using hc
    clear hc
    go_wp2_with (first | (at_lookup; refine wpList_lookup_own_ok_int _ rfl _ _ 41 rfl 3 3 .i64 lawInt Try.underlying41 Try.underlying3 (zeroInt _) wz.heap.size 4 otherD rfl hown4 _ _ rfl (keyInt (k := 3) (by decide)) ?_; intro cc hat hwc; rw [other_at3] at hat; cases hat; clear hwc; have HB4 := Lib.hid (HB2.out.trans (four_below hgr1 hgr2 hgr3 hgr4 HB2.out.size)); clear hown0 hown1 hown2 hown3 hown4 hgr1 hgr2 hgr3 hgr4) | (show wpList _ _ _ (Oper.mk _ (Op.insert _ _ _ _) _ _ _ _ :: _) _ _; refine wpList_insert_own _ rfl _ _ _ 41 rfl 3 3 lawInt Try.underlying41 _ wz.heap.size 3 _ rfl hown3 (by unfold maxLen; omega) _ _ _ rfl rfl (keyInt (k := 2) (by decide)) _ [] (plainElem_int Try.underlying3 (by decide)) ?_; intro v4 hown4 hgr4) | (show wpList _ _ _ (Oper.mk _ (Op.insert _ _ _ _) _ _ _ _ :: _) _ _; refine wpList_insert_own _ rfl _ _ _ 41 rfl 3 3 lawInt Try.underlying41 _ wz.heap.size 2 _ rfl hown2 (by unfold maxLen; omega) _ _ _ rfl rfl (keyInt (k := 0) (by decide)) _ [] (plainElem_int Try.underlying3 (by decide)) ?_; intro v3 hown3 hgr3) | (show wpList _ _ _ (Oper.mk _ (Op.insert _ _ _ _) _ _ _ _ :: _) _ _; refine wpList_insert_own _ rfl _ _ _ 41 rfl 3 3 lawInt Try.underlying41 _ wz.heap.size 1 _ rfl hown1 (by unfold maxLen; omega) _ _ _ rfl rfl (keyInt (k := 4) (by decide)) _ [] (plainElem_int Try.underlying3 (by decide)) ?_; intro v2 hown2 hgr2) | (show wpList _ _ _ (Oper.mk _ (Op.insert _ _ _ _) _ _ _ _ :: _) _ _; refine wpList_insert_own _ rfl _ _ _ 41 rfl 3 3 lawInt Try.underlying41 _ wz.heap.size 0 _ rfl hown0 (by unfold maxLen; omega) _ _ _ rfl rfl (keyInt (k := 3) (by decide)) _ [] (plainElem_int Try.underlying3 (by decide)) ?_; intro v1 hown1 hgr1))
    refine (awake5_any _).mono ?_
    rintro e w6 ⟨rfl, hb6⟩
    go_wp2_with fail
    go_ret
    exact ⟨rfl, HB4.out.trans (hb6.mono HB4.out.size)⟩

set_option maxRecDepth 100000 in
set_option maxHeartbeats 4000000 in
theorem accepts_law_4 (marks x : Int) (w : World) : Calls Try.prog 4 #[.int .i64 4, .int .i64 marks, .int .i64 x] w fun e w' => e = .returned (.bool true) ∧ Below w.heap.size w w' := by
  have hmm := @run_makeMap Try.prog
  go_enter Try.func4, Try.ntmps4
  go_wp2_with fail
  refine (accepts_any 4 marks x _).mono ?_
  rintro e w1 ⟨r1, c1, rfl, h1, hb1⟩
  have HB1 := Lib.hid hb1
  clear hb1
  go_wp2_with fail
  refine (refAccepts_any 4 marks x _).mono ?_
  rintro e w2 ⟨r2, c2, rfl, h2, hb2⟩
  have HB2 := Lib.hid (HB1.out.trans (hb2.mono HB1.out.size))
  obtain ⟨rfl, rfl⟩ := h1.out.unique h2.out
  clear hb2 h2
  obtain ⟨wz, rfl⟩ : ∃ wz, wz = w2 := ⟨_, rfl⟩
  have hown0 := World.ownsMap_made (H := Nat) wz Try.prog 3 (plainElem Try.prog 3)
  have hhas := other_has4
  by_cases hc : c1 = 0
  · subst hc
    go_wp2_with (first | (at_lookup; refine wpList_lookup_own_ok_int _ rfl _ _ 41 rfl 3 3 .i64 lawInt Try.underlying41 Try.underlying3 (zeroInt _) wz.heap.size 4 otherD rfl hown4 _ _ rfl (keyInt (k := 4) (by decide)) ?_; intro cc hat hwc; rw [other_at4] at hat; cases hat; clear hwc; have HB4 := Lib.hid (HB2.out.trans (four_below hgr1 hgr2 hgr3 hgr4 HB2.out.size)); clear hown0 hown1 hown2 hown3 hown4 hgr1 hgr2 hgr3 hgr4) | (show wpList _ _ _ (Oper.mk _ (Op.insert _ _ _ _) _ _ _ _ :: _) _ _; refine wpList_insert_own _ rfl _ _ _ 41 rfl 3 3 lawInt Try.underlying41 _ wz.heap.size 3 _ rfl hown3 (by unfold maxLen; omega) _ _ _ rfl rfl (keyInt (k := 2) (by decide)) _ [] (plainElem_int Try.underlying3 (by decide)) ?_; intro v4 hown4 hgr4) | (show wpList _ _ _ (Oper.mk _ (Op.insert _ _ _ _) _ _ _ _ :: _) _ _; refine wpList_insert_own _ rfl _ _ _ 41 rfl 3 3 lawInt Try.underlying41 _ wz.heap.size 2 _ rfl hown2 (by unfold maxLen; omega) _ _ _ rfl rfl (keyInt (k := 0) (by decide)) _ [] (plainElem_int Try.underlying3 (by decide)) ?_; intro v3 hown3 hgr3) | (show wpList _ _ _ (Oper.mk _ (Op.insert _ _ _ _) _ _ _ _ :: _) _ _; refine wpList_insert_own _ rfl _ _ _ 41 rfl 3 3 lawInt Try.underlying41 _ wz.heap.size 1 _ rfl hown1 (by unfold maxLen; omega) _ _ _ rfl rfl (keyInt (k := 4) (by decide)) _ [] (plainElem_int Try.underlying3 (by decide)) ?_; intro v2 hown2 hgr2) | (show wpList _ _ _ (Oper.mk _ (Op.insert _ _ _ _) _ _ _ _ :: _) _ _; refine wpList_insert_own _ rfl _ _ _ 41 rfl 3 3 lawInt Try.underlying41 _ wz.heap.size 0 _ rfl hown0 (by unfold maxLen; omega) _ _ _ rfl rfl (keyInt (k := 3) (by decide)) _ [] (plainElem_int Try.underlying3 (by decide)) ?_; intro v1 hown1 hgr1))
    refine (accepts_any 3 marks x _).mono ?_
    rintro e w5 ⟨r5, c5, rfl, h5, hb5⟩
    obtain ⟨rfl, rfl⟩ := opp_43 marks x r1 r5 c5 h1.out h5.out
    have HB5 := Lib.hid (HB4.out.trans (hb5.mono HB4.out.size))
    clear hb5 h5 h1 hhas
    have hne : ((!r1) != r1) = true := by cases r1 <;> rfl
    go_wp2_with fail
    refine (awake5_any _).mono ?_
    rintro e w6 ⟨rfl, hb6⟩
    go_wp2_with fail
    go_ret
    exact ⟨rfl, HB5.out.trans (hb6.mono HB5.out.size)⟩
  · have hc' : (c1 == 0) = false := by simpa using hc
    clear hc
    go_wp2_with (first | (at_lookup; refine wpList_lookup_own_ok_int _ rfl _ _ 41 rfl 3 3 .i64 lawInt Try.underlying41 Try.underlying3 (zeroInt _) wz.heap.size 4 otherD rfl hown4 _ _ rfl (keyInt (k := 4) (by decide)) ?_; intro cc hat hwc; rw [other_at4] at hat; cases hat; clear hwc; have HB4 := Lib.hid (HB2.out.trans (four_below hgr1 hgr2 hgr3 hgr4 HB2.out.size)); clear hown0 hown1 hown2 hown3 hown4 hgr1 hgr2 hgr3 hgr4) | (show wpList _ _ _ (Oper.mk _ (Op.insert _ _ _ _) _ _ _ _ :: _) _ _; refine wpList_insert_own _ rfl _ _ _ 41 rfl 3 3 lawInt Try.underlying41 _ wz.heap.size 3 _ rfl hown3 (by unfold maxLen; omega) _ _ _ rfl rfl (keyInt (k := 2) (by decide)) _ [] (plainElem_int Try.underlying3 (by decide)) ?_; intro v4 hown4 hgr4) | (show wpList _ _ _ (Oper.mk _ (Op.insert _ _ _ _) _ _ _ _ :: _) _ _; refine wpList_insert_own _ rfl _ _ _ 41 rfl 3 3 lawInt Try.underlying41 _ wz.heap.size 2 _ rfl hown2 (by unfold maxLen; omega) _ _ _ rfl rfl (keyInt (k := 0) (by decide)) _ [] (plainElem_int Try.underlying3 (by decide)) ?_; intro v3 hown3 hgr3) | (show wpList _ _ _ (Oper.mk _ (Op.insert _ _ _ _) _ _ _ _ :: _) _ _; refine wpList_insert_own _ rfl _ _ _ 41 rfl 3 3 lawInt Try.underlying41 _ wz.heap.size 1 _ rfl hown1 (by unfold maxLen; omega) _ _ _ rfl rfl (keyInt (k := 4) (by decide)) _ [] (plainElem_int Try.underlying3 (by decide)) ?_; intro v2 hown2 hgr2) | (show wpList _ _ _ (Oper.mk _ (Op.insert _ _ _ _) _ _ _ _ :: _) _ _; refine wpList_insert_own _ rfl _ _ _ 41 rfl 3 3 lawInt Try.underlying41 _ wz.heap.size 0 _ rfl hown0 (by unfold maxLen; omega) _ _ _ rfl rfl (keyInt (k := 3) (by decide)) _ [] (plainElem_int Try.underlying3 (by decide)) ?_; intro v1 hown1 hgr1))
    refine (awake5_any _).mono ?_
    rintro e w6 ⟨rfl, hb6⟩
    go_wp2_with fail
    go_ret
    exact ⟨rfl, HB4.out.trans (hb6.mono HB4.out.size)⟩

set_option maxRecDepth 100000 in
set_option maxHeartbeats 4000000 in
theorem accepts_law_else (kind : Int) (marks x : Int) (w : World) (hk : (-9223372036854775808 ≤ kind ∧ kind ≤ 9223372036854775807) ∧ kind ≠ 0 ∧ kind ≠ 2 ∧ kind ≠ 3 ∧ kind ≠ 4) : Calls Try.prog 4 #[.int .i64 kind, .int .i64 marks, .int .i64 x] w fun e w' => e = .returned (.bool true) ∧ Below w.heap.size w w' := by
  have hmm := @run_makeMap Try.prog
  have hno := other_no hk.2.1 hk.2.2.1 hk.2.2.2.1 hk.2.2.2.2
  have HK := Lib.hid (keyInt hk.1)
  have HN := Lib.hid hno
  clear hk hno
  go_enter Try.func4, Try.ntmps4
  go_wp2_with fail
  refine (accepts_any kind marks x _).mono ?_
  rintro e w1 ⟨r1, c1, rfl, h1, hb1⟩
  have HB1 := Lib.hid hb1
  clear hb1
  go_wp2_with fail
  refine (refAccepts_any kind marks x _).mono ?_
  rintro e w2 ⟨r2, c2, rfl, h2, hb2⟩
  have HB2 := Lib.hid (HB1.out.trans (hb2.mono HB1.out.size))
  obtain ⟨rfl, rfl⟩ := h1.out.unique h2.out
  clear hb2 h2
  obtain ⟨wz, rfl⟩ : ∃ wz, wz = w2 := ⟨_, rfl⟩
  have hown0 := World.ownsMap_made (H := Nat) wz Try.prog 3 (plainElem Try.prog 3)
  have hhas := HN.out
  go_wp2_with (first | (at_lookup; refine wpList_lookup_own_ok_int _ rfl _ _ 41 rfl 3 3 .i64 lawInt Try.underlying41 Try.underlying3 (zeroInt _) wz.heap.size 4 otherD rfl hown4 _ _ rfl HK.out ?_; intro cc hat hwc; clear hat hwc; have HB4 := Lib.hid (HB2.out.trans (four_below hgr1 hgr2 hgr3 hgr4 HB2.out.size)); clear hown0 hown1 hown2 hown3 hown4 hgr1 hgr2 hgr3 hgr4) | (show wpList _ _ _ (Oper.mk _ (Op.insert _ _ _ _) _ _ _ _ :: _) _ _; refine wpList_insert_own _ rfl _ _ _ 41 rfl 3 3 lawInt Try.underlying41 _ wz.heap.size 3 _ rfl hown3 (by unfold maxLen; omega) _ _ _ rfl rfl (keyInt (k := 2) (by decide)) _ [] (plainElem_int Try.underlying3 (by decide)) ?_; intro v4 hown4 hgr4) | (show wpList _ _ _ (Oper.mk _ (Op.insert _ _ _ _) _ _ _ _ :: _) _ _; refine wpList_insert_own _ rfl _ _ _ 41 rfl 3 3 lawInt Try.underlying41 _ wz.heap.size 2 _ rfl hown2 (by unfold maxLen; omega) _ _ _ rfl rfl (keyInt (k := 0) (by decide)) _ [] (plainElem_int Try.underlying3 (by decide)) ?_; intro v3 hown3 hgr3) | (show wpList _ _ _ (Oper.mk _ (Op.insert _ _ _ _) _ _ _ _ :: _) _ _; refine wpList_insert_own _ rfl _ _ _ 41 rfl 3 3 lawInt Try.underlying41 _ wz.heap.size 1 _ rfl hown1 (by unfold maxLen; omega) _ _ _ rfl rfl (keyInt (k := 4) (by decide)) _ [] (plainElem_int Try.underlying3 (by decide)) ?_; intro v2 hown2 hgr2) | (show wpList _ _ _ (Oper.mk _ (Op.insert _ _ _ _) _ _ _ _ :: _) _ _; refine wpList_insert_own _ rfl _ _ _ 41 rfl 3 3 lawInt Try.underlying41 _ wz.heap.size 0 _ rfl hown0 (by unfold maxLen; omega) _ _ _ rfl rfl (keyInt (k := 3) (by decide)) _ [] (plainElem_int Try.underlying3 (by decide)) ?_; intro v1 hown1 hgr1))
  refine (awake5_any _).mono ?_
  rintro e w6 ⟨rfl, hb6⟩
  go_wp2_with fail
  go_ret
  exact ⟨rfl, HB4.out.trans (hb6.mono HB4.out.size)⟩

end Go.Proofs.Ytfblnadmbfhjiaa.Wd
