/-
  Split of package word.
-/
import Derived.Test.YteidikkeoaolgaaDoorWdFirst
import Derived.Test.YteidikkeoaolgaaDoorWdFrom
import Derived.Test.YteidikkeoaolgaaDoorWdRound
import Derived.BigRegion
import Derived.OneCell
import Derived.Laws.BitsAll
namespace Go.Proofs.YteidikkeoaolgaaDoor.Wd
open Go.RowKit
set_option linter.unusedVariables false

def okS (ok : Bool) (k : Int) : Bool := ok && (decide (0 ≤ k) && decide (k ≤ 6))
def codeS (ok : Bool) (k : Int) : Int := if ok = false then 1 else if k < 0 ∨ 6 < k then 6 else 0
/-- The lower bits of the letters, and those above. -/
def lowF (s l : List Int) (k : Nat) (j : Nat) : Int := at_ s l j % (2 : Int) ^ k
def highF (s l : List Int) (k : Nat) (j : Nat) : Int := at_ s l j / (2 : Int) ^ k

/-- What Split comes to. -/
def Res2 (w w' : World) (ok : Bool) (f g : Nat → Int) (code : Int) (e : Ending) : Prop :=
  ∃ A n c B m d A' n' c' B' m' d' s l s' l', e = .returned (.tuple #[.agg #[.slice A n c, .slice B m d], .agg #[.slice A' n' c', .slice B' m' d'], .int .i64 code]) ∧
    (Ints w' A n s ∧ Ints w' B m l ∧ n ≤ c ∧ m ≤ d) ∧ (Ints w' A' n' s' ∧ Ints w' B' m' l' ∧ n' ≤ c' ∧ m' ≤ d') ∧
    Hid ((Out ok f s l ∧ s.length ≤ 100000 ∧ l.length ≤ 100000) ∧ (Out ok g s' l' ∧ s'.length ≤ 100000 ∧ l'.length ≤ 100000)) ∧ Below w.heap.size w w'

/-- Three variables of two cells each, laid one behind the other, read in a later world. -/
theorem boxes3 {w w1 : World} {a b c d e f : Value} {t t' t'' : TypeId} (hb : Below (((w.alloc (.cells #[a, b] t)).alloc (.cells #[c, d] t')).alloc (.cells #[e, f] t'')).heap.size (((w.alloc (.cells #[a, b] t)).alloc (.cells #[c, d] t')).alloc (.cells #[e, f] t'')) w1) :
    ((w1.cell? ⟨w.heap.size, 0, none⟩ = some a ∧ w1.cell? ⟨w.heap.size, 1, none⟩ = some b) ∧ (w1.cell? ⟨w.heap.size + 1, 0, none⟩ = some c ∧ w1.cell? ⟨w.heap.size + 1, 1, none⟩ = some d) ∧ (w1.cell? ⟨w.heap.size + 1 + 1, 0, none⟩ = some e ∧ w1.cell? ⟨w.heap.size + 1 + 1, 1, none⟩ = some f)) ∧
    ((w1.frozen? ⟨w.heap.size + 1, 0, none⟩ = false ∧ w1.frozen? ⟨w.heap.size + 1, 1, none⟩ = false) ∧ (w1.frozen? ⟨w.heap.size + 1 + 1, 0, none⟩ = false ∧ w1.frozen? ⟨w.heap.size + 1 + 1, 1, none⟩ = false)) ∧ w.heap.size + 1 + 1 < w1.heap.size := by
  have hlast : ∀ i, (((w.alloc (.cells #[a, b] t)).alloc (.cells #[c, d] t')).alloc (.cells #[e, f] t'')).cell? ⟨w.heap.size + 1 + 1, i, none⟩ = #[e, f][i]? := fun i => by
    have := box_last ((w.alloc (.cells #[a, b] t)).alloc (.cells #[c, d] t')) #[e, f] t'' i
    simpa using this
  have hlast' : ∀ i, (((w.alloc (.cells #[a, b] t)).alloc (.cells #[c, d] t')).alloc (.cells #[e, f] t'')).frozen? ⟨w.heap.size + 1 + 1, i, none⟩ = false := fun i => by
    have := box_last_free ((w.alloc (.cells #[a, b] t)).alloc (.cells #[c, d] t')) #[e, f] t'' i
    simpa using this
  have hb2 : Below ((w.alloc (.cells #[a, b] t)).alloc (.cells #[c, d] t')).heap.size ((w.alloc (.cells #[a, b] t)).alloc (.cells #[c, d] t')) w1 := ((Below.refl _ _).alloc (Nat.le_refl _) _).trans (hb.mono (by simp))
  obtain ⟨⟨x0, x1, y0, y1⟩, ⟨_, _, z0, z1⟩, _⟩ := boxes hb2
  refine ⟨⟨⟨x0, x1⟩, ⟨y0, y1⟩, ?_, ?_⟩, ⟨⟨z0, z1⟩, ?_, ?_⟩, ?_⟩
  · rw [hb.cell (by simp), hlast]; rfl
  · rw [hb.cell (by simp), hlast]; rfl
  · rw [hb.frozen (by simp), hlast']
  · rw [hb.frozen (by simp), hlast']
  · have := hb.size; simp at this; omega

theorem Res2.bad {w w' : World} {ok : Bool} {f g : Nat → Int} {code code' : Int} (hb : Below w.heap.size w w') (h1 : ok = false) (h2 : code = code') :
    Res2 w w' ok f g code (.returned (.tuple #[.agg #[.slice none 0 0, .slice none 0 0], .agg #[.slice none 0 0, .slice none 0 0], .int .i64 code'])) := by
  subst h1 h2
  exact ⟨none, 0, 0, none, 0, 0, none, 0, 0, none, 0, 0, [], [], [], [], rfl, ⟨Ints.none_, Ints.none_, Nat.le_refl _, Nat.le_refl _⟩, ⟨Ints.none_, Ints.none_, Nat.le_refl _, Nat.le_refl _⟩, ⟨⟨out_bad, by simp, by simp⟩, ⟨out_bad, by simp, by simp⟩⟩, hb⟩

set_option maxRecDepth 100000 in
set_option maxHeartbeats 2000000 in
theorem Split_early (A B : Option Addr) (n c m d : Nat) (s l : List Int) (k : Int) (f g : Nat → Int) (w : World) (ha : Ints w A n s) (hb : Ints w B m l) (h1 : n + m ≤ 100000) (hbad : validB 6 s l = false ∨ k < 0 ∨ 6 < k) :
    Calls Tryd.prog 17 #[.agg #[.slice A n c, .slice B m d], .int .i64 k] w fun e w' => Res2 w w' (okS (validB 6 s l) k) f g (codeS (validB 6 s l) k) e := by
  have hn : n ≤ 100000 := by omega
  have hm : m ≤ 100000 := by omega
  go_enter Tryd.func17, Tryd.ntmps17
  go_wp2_with fail
  refine (valid_any A B n c m d 6 s l _ (((ha.alloc _).alloc _).alloc _) (((hb.alloc _).alloc _).alloc _) hn hm).mono ?_
  rintro e w1 ⟨rfl, hb1⟩
  have hbw : Below w.heap.size w w1 := ((((Below.refl _ _).alloc (Nat.le_refl _) _).alloc (by simp) _).alloc (by simp; omega) _).trans (hb1.mono (by simp; omega))
  obtain ⟨⟨⟨p0, p1⟩, ⟨q0, q1⟩, ⟨u0, u1⟩⟩, ⟨⟨q2, q3⟩, ⟨u2, u3⟩⟩, hz⟩ := boxes3 hb1
  have hz1 : w.heap.size + 1 < w1.heap.size := by omega
  clear hb1
  have hend : ∀ code : Int, okS (validB 6 s l) k = false → codeS (validB 6 s l) k = code → Res2 w ((((w1.setCell ⟨w.heap.size + 1, 0, none⟩ (.slice none 0 0)).setCell ⟨w.heap.size + 1, 1, none⟩ (.slice none 0 0)).setCell ⟨w.heap.size + 1 + 1, 0, none⟩ (.slice none 0 0)).setCell ⟨w.heap.size + 1 + 1, 1, none⟩ (.slice none 0 0)) (okS (validB 6 s l) k) f g (codeS (validB 6 s l) k) (.returned (.tuple #[.agg #[.slice none 0 0, .slice none 0 0], .agg #[.slice none 0 0, .slice none 0 0], .int .i64 code])) :=
    fun code h1 h2 => Res2.bad ((((hbw.setCell (by simp) _).setCell (by simp) _).setCell (by simp; omega) _).setCell (by simp; omega) _) h1 h2
  have HEND := Lib.hid hend
  clear hend hbw
  cases hv : validB 6 s l
  · have H1 := Lib.hid (HEND.out 1 (by rw [hv]; simp [okS]) (by rw [hv]; simp [codeS]))
    clear HEND hbad
    go_wp2_with fail
    refine bodyPost_ret (v := .tuple #[.agg #[.slice none 0 0, .slice none 0 0], .agg #[.slice none 0 0, .slice none 0 0], .int .i64 1]) (by simp [results, Tryd.results17, go_sem, q0, q1, u0, u1]) rfl ?_
    exact H1.out
  · rw [hv] at hbad
    have hk : k < 0 ∨ 6 < k := by rcases hbad with h | h; cases h; exact h
    have H1 := Lib.hid (HEND.out 6 (by rw [hv]; simp [okS]; omega) (by rw [hv]; simp [codeS, hk]))
    clear HEND hbad
    rcases hk with hk | hk
    all_goals
      go_wp2_with fail
      refine bodyPost_ret (v := .tuple #[.agg #[.slice none 0 0, .slice none 0 0], .agg #[.slice none 0 0, .slice none 0 0], .int .i64 6]) (by simp [results, Tryd.results17, go_sem, q0, q1, u0, u1]) rfl ?_
      exact H1.out

/-- A row of which the first i elements have been turned. -/
def rowL (g f : Nat → Int) (i nm : Nat) : List Value := ((List.range nm).map fun j => if j < i then g j else f j).map (Value.int .i64)
theorem rowL_start (g : Nat → Int) (s l : List Int) (nm : Nat) : rowL g (at_ s l) 0 nm = firstL s l nm := by simp [rowL, firstL]
theorem rowL_get {g f : Nat → Int} {i nm : Nat} (h : i < nm) : (rowL g f i nm)[i]? = some (.int .i64 (f i)) := by simp [rowL, h]
theorem rowL_set {g f : Nat → Int} {i nm : Nat} (h : i < nm) : (rowL g f i nm).set i (.int .i64 (g i)) = rowL g f (i + 1) nm := by
  apply List.ext_getElem?
  intro j
  rw [List.getElem?_set]
  by_cases hj : i = j
  · subst hj
    simp [rowL, h]
  · rw [if_neg hj]
    simp only [rowL, List.getElem?_map]
    rcases Nat.lt_or_ge j nm with hl | hg
    · rw [List.getElem?_range hl]
      simp only [Option.map_some]
      congr 2
      by_cases h1 : j < i
      · rw [if_pos h1, if_pos (by omega)]
      · rw [if_neg h1, if_neg (by omega)]
    · rw [List.getElem?_eq_none (by simpa using hg)]
      rfl
theorem rowL_end (g f : Nat → Int) (nm : Nat) : rowL g f nm nm = ((List.range nm).map g).map (Value.int .i64) := by
  unfold rowL
  congr 1
  apply List.map_congr_left
  intro j hj
  rw [if_pos (List.mem_range.1 hj)]

theorem per_mul {f : Nat → Int} {n m : Nat} (hper : ∀ j, n ≤ j → f (j + m) = f j) (q j : Nat) (hj : n ≤ j) : f (j + m * q) = f j := by
  induction q with
  | zero => simp
  | succ q ih => rw [Nat.mul_succ, ← Nat.add_assoc, hper _ (by omega), ih]
/-- A word written with n letters ahead and m that come again. -/
theorem seq_word {f : Nat → Int} {n m : Nat} (hm : 0 < m) (hper : ∀ j, n ≤ j → f (j + m) = f j) : at_ (((List.range (n + m)).map f).take n) (((List.range (n + m)).map f).drop n) = f := by
  funext k
  have h1 : (((List.range (n + m)).map f).take n).length = n := by simp
  have h2 : (((List.range (n + m)).map f).drop n).length = m := by simp
  by_cases h : k < n
  · rw [at_lt (by rw [h1]; exact h)]
    simp [List.getD_eq_getElem?_getD, h]
  · rw [at_ge (by rw [h1]; omega), h1, h2]
    have hr : (k - n) % m < m := Nat.mod_lt _ hm
    have hx : (((List.range (n + m)).map f).drop n).getD ((k - n) % m) 0 = f (n + (k - n) % m) := by
      simp [List.getD_eq_getElem?_getD, show n + (k - n) % m < n + m by omega]
    rw [hx, ← per_mul hper ((k - n) / m) (n + (k - n) % m) (by omega)]
    congr 1
    have := Nat.mod_add_div (k - n) m
    omega
theorem at_per {s l : List Int} {j : Nat} (hj : s.length ≤ j) : at_ s l (j + l.length) = at_ s l j := by
  rw [at_ge (by omega), at_ge hj, show j + l.length - s.length = (j - s.length) + l.length by omega, Nat.add_mod_right]

/-- Four stores into cells that hold no ints. -/
theorem ints_set4 {w : World} {A : Option Addr} {n : Nat} {xs : List Int} (h : Ints w A n xs) {b : Nat} {x0 x1 x2 x3 : Value} (h0 : w.cell? ⟨b, 0, none⟩ = some x0) (h1 : w.cell? ⟨b, 1, none⟩ = some x1) (h2 : w.cell? ⟨b + 1, 0, none⟩ = some x2) (h3 : w.cell? ⟨b + 1, 1, none⟩ = some x3)
    (n0 : ∀ z, x0 ≠ .int .i64 z) (n1 : ∀ z, x1 ≠ .int .i64 z) (n2 : ∀ z, x2 ≠ .int .i64 z) (n3 : ∀ z, x3 ≠ .int .i64 z) (v0 v1 v2 v3 : Value) :
    Ints ((((w.setCell ⟨b, 0, none⟩ v0).setCell ⟨b, 1, none⟩ v1).setCell ⟨b + 1, 0, none⟩ v2).setCell ⟨b + 1, 1, none⟩ v3) A n xs := by
  have k1 := (World.cell?_setCell_other w ⟨b, 0, none⟩ ⟨b, 1, none⟩ v0 (by simp)).trans h1
  have k2 := (World.cell?_setCell_other (w.setCell ⟨b, 0, none⟩ v0) ⟨b, 1, none⟩ ⟨b + 1, 0, none⟩ v1 (by simp)).trans ((World.cell?_setCell_other w ⟨b, 0, none⟩ ⟨b + 1, 0, none⟩ v0 (by simp)).trans h2)
  have k3 := (World.cell?_setCell_other ((w.setCell ⟨b, 0, none⟩ v0).setCell ⟨b, 1, none⟩ v1) ⟨b + 1, 0, none⟩ ⟨b + 1, 1, none⟩ v2 (by simp)).trans ((World.cell?_setCell_other (w.setCell ⟨b, 0, none⟩ v0) ⟨b, 1, none⟩ ⟨b + 1, 1, none⟩ v1 (by simp)).trans ((World.cell?_setCell_other w ⟨b, 0, none⟩ ⟨b + 1, 1, none⟩ v0 (by simp)).trans h3))
  exact (((h.set h0 n0 v0).set k1 n1 v1).set k2 n2 v2).set k3 n3 v3

theorem and_table : ∀ x : Fin 64, ∀ k : Fin 7, bits .and .i64 ((x.val : Nat) : Int) (wrap64 ((2 : Int) ^ k.val - 1)) = ((x.val : Nat) : Int) % (2 : Int) ^ k.val := by decide +kernel
theorem and_pow {x : Int} {k : Nat} (h0 : 0 ≤ x) (h1 : x < 64) (hk : k ≤ 6) : bits .and .i64 x (wrap64 ((2 : Int) ^ k - 1)) = x % (2 : Int) ^ k := by
  obtain ⟨u, rfl⟩ := Int.eq_ofNat_of_zero_le h0
  exact and_table ⟨u, by omega⟩ ⟨k, by omega⟩
theorem letter_at {s l : List Int} (hv : validB 6 s l = true) (j : Nat) : 0 ≤ at_ s l j ∧ at_ s l j < 64 := by
  have hl := (valid6 hv)
  obtain ⟨v1, v2⟩ := validB_letters hv
  have h1 := letters_small v1
  have h2 := letters_small v2
  unfold at_
  split
  · rename_i h
    rw [List.getD_eq_getElem?_getD, List.getElem?_eq_getElem h]
    exact h1 _ (List.getElem_mem h)
  · have hm : (j - s.length) % l.length < l.length := Nat.mod_lt _ (by omega)
    rw [List.getD_eq_getElem?_getD, List.getElem?_eq_getElem hm]
    exact h2 _ (List.getElem_mem hm)

theorem size_nat (A B : Option Addr) (n c m d nm : Nat) (w : World) (hn : n ≤ 100000) (hm : m ≤ 100000) (h : n + m = nm) :
    Calls Tryd.prog 64 #[.agg #[.slice A n c, .slice B m d]] w fun e w' => e = .returned (.int .i64 (nm : Int)) ∧ Below w.heap.size w w' :=
  (size_any A B n c m d w hn hm).mono fun _ _ ⟨he, hb⟩ => ⟨by rw [he]; exact ret_int (by omega), hb⟩

set_option maxRecDepth 100000 in
set_option maxHeartbeats 8000000 in
theorem Split_good (A B : Option Addr) (n c m d : Nat) (s l : List Int) (k : Nat) (w : World) (ha : Ints w A n s) (hb : Ints w B m l) (hv : validB 6 s l = true) (hk : k ≤ 6) :
    Calls Tryd.prog 17 #[.agg #[.slice A n c, .slice B m d], .int .i64 k] w fun e w' => Res2 w w' true (lowF s l k) (highF s l k) 0 e := by
  have hl6 := valid6 hv
  have hx := ha.1
  have hy := hb.1
  have hn : n ≤ 100000 := by omega
  have hm : m ≤ 100000 := by omega
  have hm0 : 0 < m := by omega
  obtain ⟨nm, hnm⟩ : ∃ nm, n + m = nm := ⟨_, rfl⟩
  have hnm1 : 0 < nm := by omega
  have hnm2 : nm ≤ 200 := by omega
  have HNM := Lib.hid hnm
  have HV := Lib.hid hv
  have HXL := Lib.hid hx
  have HYL := Lib.hid hy
  clear hl6 hx hy hnm hv
  go_enter Tryd.func17, Tryd.ntmps17
  go_wp2_with fail
  refine (valid_any A B n c m d 6 s l _ (((ha.alloc _).alloc _).alloc _) (((hb.alloc _).alloc _).alloc _) hn hm).mono ?_
  rintro e w1 ⟨rfl, hb1⟩
  rw [HV.out]
  have hbw : Below w.heap.size w w1 := ((((Below.refl _ _).alloc (Nat.le_refl _) _).alloc (by simp) _).alloc (by simp; omega) _).trans (hb1.mono (by simp; omega))
  obtain ⟨⟨⟨p0, p1⟩, ⟨q0, q1⟩, ⟨u0, u1⟩⟩, ⟨⟨q2, q3⟩, ⟨u2, u3⟩⟩, hz⟩ := boxes3 hb1
  have hz1 : w.heap.size + 1 < w1.heap.size := by omega
  have hz0 : w.heap.size < w1.heap.size := by omega
  have HA := Lib.hid (ha.below hbw)
  have HB := Lib.hid (hb.below hbw)
  clear hb1 ha hb
  go_wp2_with fail
  go_region_held3 (fun V => V.cell? ⟨w.heap.size, 0, none⟩ = some (.slice A n c) ∧ V.cell? ⟨w.heap.size, 1, none⟩ = some (.slice B m d))
    (first
      | go_keep
      | (refine ⟨?_, ?_⟩
         · rw [k4.cell (by simpa using hz0)]; exact p0
         · rw [k4.cell (by simpa using hz0)]; exact p1)
      | (refine ⟨?_, ?_⟩
         · rw [k3.cell (by simpa using hz0)]; exact p0
         · rw [k3.cell (by simpa using hz0)]; exact p1)
      | (refine ⟨?_, ?_⟩
         · rw [k2.cell (by simpa using hz0)]; exact p0
         · rw [k2.cell (by simpa using hz0)]; exact p1)
      | (refine ⟨?_, ?_⟩
         · rw [k1.cell (by simpa using hz0)]; exact p0
         · rw [k1.cell (by simpa using hz0)]; exact p1))
    (first
      | (have hgo := k3; clear hgo; go_at_call 61; refine (first_any A B n c m d s l nm _ (HA.out.below k3) (HB.out.below k3) hn hm hm0 (by omega)).mono ?_; rintro e z4 ⟨A2, c2, rfl, HO2, hc2, b4⟩; have k4 : Below w1.heap.size w1 z4 := k3.trans (b4.mono k3.size))
      | (have hgo := k2; clear hgo; go_at_call 64; refine (size_nat A B n c m d nm _ hn hm HNM.out).mono ?_; rintro e z3 ⟨rfl, b3⟩; have k3 : Below w1.heap.size w1 z3 := k2.trans (b3.mono k2.size))
      | (have hgo := k1; clear hgo; go_at_call 61; refine (first_any A B n c m d s l nm _ (HA.out.below k1) (HB.out.below k1) hn hm hm0 (by omega)).mono ?_; rintro e z2 ⟨A1, c1, rfl, HO1, hc1, b2⟩; have k2 : Below w1.heap.size w1 z2 := k1.trans (b2.mono k1.size))
      | (go_at_call 64; refine (size_nat A B n c m d nm _ hn hm HNM.out).mono ?_; rintro e z1 ⟨rfl, b1⟩; have k1 : Below w1.heap.size w1 z1 := ((Below.refl _ _).drew).trans b1)
      | fail)
  have hr1 := own_below HO1.out (b3.trans (b4.mono b3.size))
  obtain ⟨g1, cap1, hv1, hg1, hlt1⟩ := HO1.out.form hnm1
  obtain ⟨g2, cap2, hv2, hg2, hlt2⟩ := HO2.out.form hnm1
  have hA1 : A1 = some ⟨g1, 0, none⟩ := by injection hv1
  have hA2 : A2 = some ⟨g2, 0, none⟩ := by injection hv2
  have HG := Lib.hid (show w1.heap.size ≤ g1 ∧ g1 < z3.heap.size ∧ z3.heap.size ≤ g2 ∧ g1 ≠ g2 ∧ w1.heap.size ≤ z3.heap.size from ⟨Nat.le_trans k1.size hg1, by have := b3.size; omega, hg2, by have := b3.size; omega, k3.size⟩)
  subst hA1 hA2
  have HR1 := Lib.hid (own_le hr1 k1.size)
  rw [← rowL_start (lowF s l k) s l nm] at HR1
  have HR2 := Lib.hid HO2.out
  rw [← rowL_start (highF s l k) s l nm] at HR2
  clear hv1 hv2 hr1 HO1 HO2 b1 b2 b3 b4 hg1 hg2 hlt1 hlt2
  have hP := wrap_pow hk
  go_wp2_with fail
  go_loopg [34] nm (fun g i wx => ∃ j : Nat, j + g = nm ∧ i = .int .i64 j ∧ Hid (wx.ownsRow w1.heap.size 3 1 (.slice (some ⟨g1, 0, none⟩) nm c1) nm (rowL (lowF s l k) (at_ s l) j nm)) ∧
    Hid (wx.ownsRow z3.heap.size 3 1 (.slice (some ⟨g2, 0, none⟩) nm c2) nm (rowL (highF s l k) (at_ s l) j nm)) ∧ Below w1.heap.size w1 wx)
  case atStart => exact ⟨0, by omega, rfl, HR1, HR2, k4⟩
  case round =>
    rename_i hheld _ _ _ _
    obtain ⟨j, hjg, rfl, H1, H2, hbx⟩ := hrel
    cases gk with
    | zero =>
      obtain rfl : nm = j := by omega
      have o1 := H1.out
      have o2 := H2.out
      rw [rowL_end] at o1 o2
      have HI1 := Lib.hid (Ints.of_own o1)
      have HI2 := Lib.hid (Ints.of_own o2)
      clear o1 o2 H1 H2
      have p0' : wr.cell? ⟨w.heap.size, 0, none⟩ = some (.slice A n c) := (hbx.cell (by simpa using hz0)).trans p0
      have hnlt : n < nm := by have := HNM.out; omega
      have hcn1 : ¬ c1 = n := by omega
      have hcn2 : ¬ c2 = n := by omega
      have HSW1 := Lib.hid (show at_ (((List.range nm).map (lowF s l k)).take n) (((List.range nm).map (lowF s l k)).drop n) = lowF s l k by
        rw [← HNM.out]; exact seq_word hm0 (fun j hj => by unfold lowF; rw [← HYL.out, at_per (by rw [HXL.out]; exact hj)]))
      have HSW2 := Lib.hid (show at_ (((List.range nm).map (highF s l k)).take n) (((List.range nm).map (highF s l k)).drop n) = highF s l k by
        rw [← HNM.out]; exact seq_word hm0 (fun j hj => by unfold highF; rw [← HYL.out, at_per (by rw [HXL.out]; exact hj)]))
      have HC1 := Lib.hid (HI1.out.cut (k := n) (cap := c1) (by omega) (by omega))
      have HC2 := Lib.hid (HI2.out.cut (k := n) (cap := c2) (by omega) (by omega))
      have hadd : ∀ g : Nat, Option.map (fun x : Addr => x.add n) (some ⟨g, 0, none⟩) = some ⟨g, n, none⟩ := fun g => by
        show some ((⟨g, 0, none⟩ : Addr).add n) = _
        rw [Addr.add_lit, Nat.zero_add]
      rw [if_neg hcn1, hadd] at HC1
      rw [if_neg hcn2, hadd] at HC2
      clear hadd
      have HT1 := Lib.hid (HI1.out.take (k := n) (by omega))
      have HT2 := Lib.hid (HI2.out.take (k := n) (by omega))
      have i0' : (0 : Int) ≤ (n : Int) := by omega
      have i1 : (n : Int) ≤ (nm : Int) := by omega
      have i2 : (n : Int) ≤ (c1 : Int) := by omega
      have i3 : (nm : Int) ≤ (c1 : Int) := by omega
      have i4 : (n : Int) ≤ (c2 : Int) := by omega
      have i5 : (nm : Int) ≤ (c2 : Int) := by omega
      go_wp2_with fail
      go_region_held3 (fun _ => True) (first | trivial)
        (first
          | (have hgo := e1; clear hgo; go_at_call 51
             refine (normal_parts (some ⟨g2, 0, none⟩) (some ⟨g2, n, none⟩) n c2 (nm - n) (c2 - n) (((List.range nm).map (highF s l k)).take n) (((List.range nm).map (highF s l k)).drop n) _ (HT2.out.below e1) (HC2.out.below e1) hn (by omega) (by omega) (by omega) (by omega)).mono ?_
             rintro e w4 ⟨A4, n4, c4, B4, m4, d4, s4, l4, rfl, ⟨ha4, hb4, hnc4, hmd4⟩, HN4, b4⟩
             have e2 : Below wr.heap.size wr w4 := e1.trans (b4.mono e1.size)
             have hbx4 : Below w1.heap.size w1 w4 := hbx.trans (e2.mono hbx.size)
             have r0 := (hbx4.cell (p := ⟨w.heap.size + 1, 0, none⟩) hz1).trans q0
             have r1 := (hbx4.cell (p := ⟨w.heap.size + 1, 1, none⟩) hz1).trans q1
             have r2 := (hbx4.frozen (p := ⟨w.heap.size + 1, 0, none⟩) hz1).trans q2
             have r3 := (hbx4.frozen (p := ⟨w.heap.size + 1, 1, none⟩) hz1).trans q3
             have t0 := (hbx4.cell (p := ⟨w.heap.size + 1 + 1, 0, none⟩) hz).trans u0
             have t1 := (hbx4.cell (p := ⟨w.heap.size + 1 + 1, 1, none⟩) hz).trans u1
             have t2 := (hbx4.frozen (p := ⟨w.heap.size + 1 + 1, 0, none⟩) hz).trans u2
             have t3 := (hbx4.frozen (p := ⟨w.heap.size + 1 + 1, 1, none⟩) hz).trans u3
             have hz4 : w.heap.size + 1 + 1 < w4.heap.size := by have := hbx4.size; omega
             have hz5 : w.heap.size + 1 < w4.heap.size := by omega)
          | (go_at_call 51
             refine (normal_parts (some ⟨g1, 0, none⟩) (some ⟨g1, n, none⟩) n c1 (nm - n) (c1 - n) (((List.range nm).map (lowF s l k)).take n) (((List.range nm).map (lowF s l k)).drop n) _ HT1.out.drew HC1.out.drew hn (by omega) (by omega) (by omega) (by omega)).mono ?_
             rintro e w3 ⟨A3, n3, c3, B3, m3, d3, s3, l3, rfl, ⟨ha3, hb3, hnc3, hmd3⟩, HN3, b3⟩
             have e1 : Below wr.heap.size wr w3 := ((Below.refl _ _).drew).trans b3)
          | fail)
      go_wp2_with fail
      refine bodyPost_ret (v := .tuple #[.agg #[.slice A3 n3 c3, .slice B3 m3 d3], .agg #[.slice A4 n4 c4, .slice B4 m4 d4], .int .i64 0]) (by simp [results, Tryd.results17, go_sem, r0, r1, t0, t1]) rfl ?_
      have N3 := HN3.out
      have N4 := HN4.out
      rw [HSW1.out] at N3
      rw [HSW2.out] at N4
      have l3 : s3.length ≤ 100000 ∧ l3.length ≤ 100000 := by omega
      have l4' : s4.length ≤ 100000 ∧ l4.length ≤ 100000 := by omega
      refine ⟨A3, n3, c3, B3, m3, d3, A4, n4, c4, B4, m4, d4, s3, _, s4, _, rfl, ⟨ints_set4 (ha3.below b4) r0 r1 t0 t1 (by simp) (by simp) (by simp) (by simp) _ _ _ _, ints_set4 (hb3.below b4) r0 r1 t0 t1 (by simp) (by simp) (by simp) (by simp) _ _ _ _, hnc3, hmd3⟩,
        ⟨ints_set4 ha4 r0 r1 t0 t1 (by simp) (by simp) (by simp) (by simp) _ _ _ _, ints_set4 hb4 r0 r1 t0 t1 (by simp) (by simp) (by simp) (by simp) _ _ _ _, hnc4, hmd4⟩, ⟨⟨out_good N3.1, l3⟩, ⟨out_good N4.1, l4'⟩⟩, ?_⟩
      exact ((((hbw.trans (hbx4.mono hbw.size)).setCell (p := ⟨w.heap.size + 1, 0, none⟩) (by show w.heap.size ≤ w.heap.size + 1; omega) _).setCell (p := ⟨w.heap.size + 1, 1, none⟩) (by show w.heap.size ≤ w.heap.size + 1; omega) _).setCell (p := ⟨w.heap.size + 1 + 1, 0, none⟩) (by show w.heap.size ≤ w.heap.size + 1 + 1; omega) _).setCell (p := ⟨w.heap.size + 1 + 1, 1, none⟩) (by show w.heap.size ≤ w.heap.size + 1 + 1; omega) _
    | succ g =>
      have hlt : j < nm := by omega
      have x1 := (H1.out.cellAt j (by omega)).trans (rowL_get hlt)
      have x2 := (H2.out.cellAt j (by omega)).trans (rowL_get hlt)
      have y1 := H1.out.frozenAt j
      have y2 := H2.out.frozenAt j
      generalize hxv : at_ s l j = x at x1 x2
      have hx0 : 0 ≤ x := by rw [← hxv]; exact (letter_at HV.out j).1
      have hx1 : x < 64 := by rw [← hxv]; exact (letter_at HV.out j).2
      obtain ⟨lo, hlo⟩ : ∃ lo, x % (2 : Int) ^ k = lo := ⟨_, rfl⟩
      have hand : bits .and .i64 x (wrap64 ((2 : Int) ^ k - 1)) = lo := by rw [← hlo]; exact and_pow hx0 hx1 hk
      have HLO := Lib.hid hlo
      have HXV := Lib.hid hxv
      clear hlo hxv
      have x3 : (wr.setCell ⟨g1, j, none⟩ (.int .i64 lo)).cell? ⟨g2, j, none⟩ = some (.int .i64 x) := (World.cell?_setCell_other wr ⟨g1, j, none⟩ ⟨g2, j, none⟩ _ (by have := HG.out; intro h; injection h with h; omega)).trans x2
      go_wp2_with fail
      go_region
      all_goals
        go_wp2_with fail
        go_roundg g
        case measure => omega
        case rel =>
          have hlow : lowF s l k j = lo := by unfold lowF; rw [HXV.out, HLO.out]
          have hhigh : highF s l k j = x / (2 : Int) ^ k := by unfold highF; rw [HXV.out]
          have s1 := (H1.out.stored j (.int .i64 lo)).1
          rw [← hlow, rowL_set hlt] at s1
          have s2 := ((ownsRow_setCell_other H2.out (a := ⟨g1, j, none⟩) (by have := HG.out; simp [Value.ownBlock]; omega) (.int .i64 lo)).stored j (.int .i64 (x / (2 : Int) ^ k))).1
          rw [← hhigh, rowL_set hlt] at s2
          refine ⟨j + 1, by omega, by go_num, ?_, ?_, ?_⟩
          · have := ownsRow_setCell_other s1 (a := ⟨g2, j, none⟩) (by have := HG.out; simp [Value.ownBlock]; omega) (.int .i64 (x / (2 : Int) ^ k))
            rw [hlow] at this
            exact this
          · rw [hhigh] at s2
            exact s2
          · exact ((hbx.setCell (p := ⟨g1, j, none⟩) HG.out.1 _).setCell (p := ⟨g2, j, none⟩) (by have := HG.out; show w1.heap.size ≤ g2; omega) _).drew

theorem Split_any (A B : Option Addr) (n c m d : Nat) (s l : List Int) (k : Int) (w : World) (ha : Ints w A n s) (hb : Ints w B m l) (h1 : n + m ≤ 100000) :
    Calls Tryd.prog 17 #[.agg #[.slice A n c, .slice B m d], .int .i64 k] w fun e w' => Res2 w w' (okS (validB 6 s l) k) (lowF s l k.toNat) (highF s l k.toNat) (codeS (validB 6 s l) k) e := by
  by_cases hbad : validB 6 s l = false ∨ k < 0 ∨ 6 < k
  · exact Split_early A B n c m d s l k _ _ w ha hb h1 hbad
  · have hv : validB 6 s l = true := by cases h : validB 6 s l; exact absurd (.inl h) hbad; rfl
    obtain ⟨j, rfl⟩ := Int.eq_ofNat_of_zero_le (show 0 ≤ k by omega)
    have e1 : okS (validB 6 s l) j = true := by rw [hv]; simp [okS]; omega
    have e2 : codeS (validB 6 s l) j = 0 := by rw [hv]; unfold codeS; rw [if_neg (by simp), if_neg (by omega)]
    rw [e1, e2]
    exact Split_good A B n c m d s l j w ha hb hv (by omega)

end Go.Proofs.YteidikkeoaolgaaDoor.Wd
