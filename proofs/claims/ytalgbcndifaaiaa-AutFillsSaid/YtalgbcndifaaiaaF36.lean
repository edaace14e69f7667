/-
  The walker, for all automata: newWalker.
  What walk remembers: which states the beginnings of the turns met, and when.
  The walker, for all automata: walk.
  apart of the reference: have two edges of a state a letter in common?
  Step, Deterministic and Reach of the reference, given its Valid.
  Deterministic and Reach of the reference, given its Valid.
  bools of the law: are two lists of bools the same?
  Reach of the reference, given its Valid.
-/
import Derived.Test.YtalgbcndifaaiaaF35
import Derived.Test.YtalgbcndifaaiaaF22
import Derived.Maps.OwnSet
import Derived.Test.YtalgbcndifaaiaaF23
import Derived.Test.YtalgbcndifaaiaaF27
namespace Go.Proofs.Ytalgbcndifaaiaa.Wd
open Go.RowKit
set_option linter.unusedVariables false

def NewT (w w' : World) (S : Nat) (E : Option Addr) (ne ce : Nat) (es : List Ed) (s0 : Nat) (e : Ending) : Prop :=
  ∃ r lo hi V, e = .returned (.pointer (some ⟨r, 0, none⟩)) ∧ w.heap.size ≤ lo ∧ lo ≤ hi ∧ WkS w' r lo hi S V E ne ce es (some s0) ∧ Below w.heap.size w w'

set_option maxRecDepth 100000 in
set_option maxHeartbeats 8000000 in
theorem newWalker_any (P : Int) (S : Nat) (K M : Int) (A E : Option Addr) (c ne ce : Nat) (st : List Int) (es : List Ed) (s0 : Nat) (w : World) (ha : Ints w A 1 st) (h0 : st.getD 0 0 = (s0 : Int)) (hs0 : s0 < S) (hE : EdgesAt w E ne es) (hS : S ≤ 3000) (hne : ne ≤ 40000)
    (hfr : ∀ j, j < ne → ∃ f : Nat, (es.getD j ed0).f = (f : Int) ∧ f < S) :
    Calls Try.prog 35 #[.agg #[.int .i64 P, .int .i64 S, .slice A 1 c, .int .i64 K, .int .i64 M, .slice E ne ce]] w fun e w' => NewT w w' S E ne ce es s0 e := by
  obtain ⟨bs, os, rfl, hbs, hcs⟩ := ha.at_ (show 0 < 1 by omega)
  have k0 := hcs 0 (by omega)
  rw [h0, Nat.add_zero] at k0
  have HL := Lib.hid hE.1
  have HO := Lib.hid (fun W (hW : Below w.heap.size w W) => outgoing_any P S K M (some ⟨bs, os, none⟩) E 1 c ne ce es W (hE.below hW) hS hne hfr)
  have HX := Lib.hid (Box6.new w P S (some ⟨bs, os, none⟩) 1 c K M E ne ce 25)
  have HBX := Lib.hid (show Below w.heap.size w (w.alloc (.cells #[.int .i64 P, .int .i64 S, .slice (some ⟨bs, os, none⟩) 1 c, .int .i64 K, .int .i64 M, .slice E ne ce] 25)) from (Below.refl _ _).alloc (Nat.le_refl _) _)
  have HK0 := Lib.hid ((HBX.out.cell (p := ⟨bs, os, none⟩) hbs).trans k0)
  clear ha hE hcs k0 hfr
  have hz0 : (w.alloc (.cells #[.int .i64 P, .int .i64 S, .slice (some ⟨bs, os, none⟩) 1 c, .int .i64 K, .int .i64 M, .slice E ne ce] 25)).heap.size = w.heap.size + 1 := by simp
  go_enter Try.func35, Try.ntmps35
  go_wp2_with fail
  generalize w.alloc (.cells #[.int .i64 P, .int .i64 S, .slice (some ⟨bs, os, none⟩) 1 c, .int .i64 K, .int .i64 M, .slice E ne ce] 25) = Z at *
  have HS := Lib.hid (show ∀ V, Below Z.heap.size Z V → (V.cell? ⟨w.heap.size, 0, none⟩ = some (.int .i64 P) ∧ V.cell? ⟨w.heap.size, 1, none⟩ = some (.int .i64 S) ∧ V.cell? ⟨w.heap.size, 2, none⟩ = some (.slice (some ⟨bs, os, none⟩) 1 c) ∧ V.cell? ⟨w.heap.size, 3, none⟩ = some (.int .i64 K) ∧ V.cell? ⟨w.heap.size, 4, none⟩ = some (.int .i64 M) ∧ V.cell? ⟨w.heap.size, 5, none⟩ = some (.slice E ne ce)) ∧ V.cell? ⟨bs, os, none⟩ = some (.int .i64 s0) from
    fun V hV => ⟨(HX.out.below hV).2, (hV.cell (p := ⟨bs, os, none⟩) (by rw [hz0]; show bs < _; omega)).trans HK0.out⟩)
  have HZ := Lib.hid hz0
  clear hz0
  go_region_held3 (fun V => (V.cell? ⟨w.heap.size, 0, none⟩ = some (.int .i64 P) ∧ V.cell? ⟨w.heap.size, 1, none⟩ = some (.int .i64 S) ∧ V.cell? ⟨w.heap.size, 2, none⟩ = some (.slice (some ⟨bs, os, none⟩) 1 c) ∧ V.cell? ⟨w.heap.size, 3, none⟩ = some (.int .i64 K) ∧ V.cell? ⟨w.heap.size, 4, none⟩ = some (.int .i64 M) ∧ V.cell? ⟨w.heap.size, 5, none⟩ = some (.slice E ne ce)) ∧ V.cell? ⟨bs, os, none⟩ = some (.int .i64 s0))
    (first
      | exact HS.out _ k1
      | exact HS.out _ ((Below.refl Z.heap.size Z).drew)
      | exact HS.out _ (k1.alloc k1.size _))
    (first
      | (go_at_call 53; refine (HO.out _ HBX.out.drew).mono ?_; rintro x z1 ⟨V, rfl, hrow, hrows, b1⟩; have k1 : Below Z.heap.size Z z1 := ((Below.refl _ _).drew).trans b1; have HROW := Lib.hid hrow; have HROWS := Lib.hid hrows; clear hrow hrows)
      | fail)
  go_wp2_with fail
  go_ret
  have hw1 : Below w.heap.size w z1 := HBX.out.trans (k1.mono HBX.out.size)
  have hO : OutAt z1 Z.heap.size z1.heap.size (Z.heap.size + 1) S es V := OutAt.of_rows (lo := Z.heap.size) HL.out HROW.out HROWS.out
  refine ⟨z1.heap.size, Z.heap.size, z1.heap.size, V, rfl, by rw [HZ.out]; omega, k1.size, ⟨by simp, Nat.le_refl _, by rw [box_last]; rfl, by rw [box_last]; rfl, box_last_free _ _ _ _, box_last_free _ _ _ _, ⟨s0, false, by rw [box_last]; rfl, by rw [box_last]; rfl, rfl, rfl, hs0⟩, ?_⟩, hw1.alloc hw1.size _⟩
  exact hO.kept (fun j _ h2 => Below.heap_alloc _ _ _ h2)

end Go.Proofs.Ytalgbcndifaaiaa.Wd

namespace Go.Proofs.Ytalgbcndifaaiaa.Wd
open Go.RowKit Go.Maps
set_option linter.unusedVariables false

theorem key_int (x : Nat) : WideAt.IsKeyLit (.int .i64 (x : Int)) := by trivial

/-- The first k turns begin in the states of F, each in another one; D tells when. -/
structure Vis (es : List Ed) (f : Nat → Int) (s0 n m S k : Nat) (D : DataW Nat) (F : Nat → Bool) : Prop where
  mem : ∀ x : Nat, F x = true ↔ ∃ i, i < k ∧ turnU es f s0 n m i = some x
  cnt : k + cntF F S = S
  has : ∀ x : Nat, Maps.has D (.int .i64 x) = F x
  at_ : ∀ x : Nat, F x = true → ∀ z, ∃ i : Nat, i < k ∧ turnU es f s0 n m i = some x ∧ D.atKey (.int .i64 x) z = .lit (.int .i64 i)
theorem Vis.start (es : List Ed) (f : Nat → Int) (s0 n m S : Nat) : Vis es f s0 n m S 0 (.map []) (fun _ => false) :=
  ⟨fun x => ⟨fun h => by (cases h), fun ⟨i, hi, _⟩ => by omega⟩, by rw [cntF_none]; omega, fun x => rfl, fun x h => by cases h⟩
theorem Vis.few {es : List Ed} {f : Nat → Int} {s0 n m S k : Nat} {D : DataW Nat} {F : Nat → Bool} (h : Vis es f s0 n m S k D F) : k ≤ S := by have := h.cnt; omega
theorem Vis.next {es : List Ed} {f : Nat → Int} {s0 n m S k s : Nat} {D : DataW Nat} {F : Nat → Bool} (h : Vis es f s0 n m S k D F) (hD : IsMap D) (hq : turnU es f s0 n m k = some s) (hs : s < S) (hf : F s = false) :
    Vis es f s0 n m S (k + 1) (D.put (.int .i64 (s : Int)) (.lit (.int .i64 (k : Int)))) (updB F s) := by
  have hne : ∀ x : Nat, x ≠ s → (Lit.int .i64 (x : Int)) ≠ .int .i64 (s : Int) := fun x hx e => hx (by injection e with _ e; omega)
  refine ⟨fun x => ⟨fun hx => ?_, fun ⟨i, hi, he⟩ => ?_⟩, ?_, fun x => ?_, fun x hx z => ?_⟩
  · rcases updB_true hx with rfl | h2
    · exact ⟨k, by omega, hq⟩
    · obtain ⟨i, hi, he⟩ := (h.mem x).1 h2
      exact ⟨i, by omega, he⟩
  · by_cases e : i = k
    · subst e
      rw [hq] at he
      injection he with he
      subst he
      exact updB_same F s
    · exact updB_mono ((h.mem x).2 ⟨i, by omega, he⟩)
  · have h1 := cntF_set hf S hs
    have h2 := h.cnt
    omega
  · by_cases e : x = s
    · subst e; rw [has_put_same hD (key_int x), updB_same]
    · rw [has_put_other (hne x e), h.has x]; unfold updB; rw [if_neg e]
  · by_cases e : x = s
    · subst e
      exact ⟨k, by omega, hq, atKey_put_same hD (key_int x) _ _⟩
    · rcases updB_true hx with rfl | h2
      · exact absurd rfl e
      · obtain ⟨i, hi, he, ha⟩ := h.at_ x h2 z
        exact ⟨i, by omega, he, by rw [atKey_put_other (hne x e)]; exact ha⟩

theorem orU_add (es : List Ed) (f : Nat → Int) (s0 a c : Nat) : ∀ d, orU es f s0 a (c + d) = orU es f s0 a c ||| orU es f s0 (a + c) d
  | 0 => by simp [orU]
  | d + 1 => by
    show orU es f s0 a (c + d) ||| markU es f s0 (a + (c + d)) = _
    rw [orU_add es f s0 a c d, Nat.or_assoc]
    show _ = orU es f s0 a c ||| (orU es f s0 (a + c) d ||| markU es f s0 (a + c + d))
    rw [Nat.add_assoc]
theorem orN_turns (es : List Ed) (f : Nat → Int) (s0 n m i : Nat) : ∀ c, orN (fun j => orU es f s0 (n + (i + j) * m) m) c = orU es f s0 (n + i * m) (c * m)
  | 0 => by simp [orN, orU]
  | c + 1 => by
    show orN _ c ||| orU es f s0 (n + (i + c) * m) m = _
    rw [orN_turns es f s0 n m i c, Nat.succ_mul, orU_add, show n + (i + c) * m = n + i * m + c * m by rw [Nat.add_mul]; omega]
/-- The marks of the first k turns. -/
def turnL (es : List Ed) (f : Nat → Int) (s0 n m k : Nat) : List Int := (List.range k).map fun i => ((orU es f s0 (n + i * m) m : Nat) : Int)
theorem turnL_len (es : List Ed) (f : Nat → Int) (s0 n m k : Nat) : (turnL es f s0 n m k).length = k := by simp [turnL]
theorem turnL_succ (es : List Ed) (f : Nat → Int) (s0 n m k : Nat) : turnL es f s0 n m (k + 1) = turnL es f s0 n m k ++ [((orU es f s0 (n + k * m) m : Nat) : Int)] := by simp [turnL, List.range_succ]
theorem turnL_at (es : List Ed) (f : Nat → Int) (s0 n m : Nat) {i k : Nat} (h : i < k) : (turnL es f s0 n m k).getD i 0 = ((orU es f s0 (n + i * m) m : Nat) : Int) := by
  simp [turnL, List.getD_eq_getElem?_getD, h]

section
variable {w w' : World} {r lo hi S : Nat} {V : Nat → Value} {E : Option Addr} {ne ce : Nat} {es : List Ed} {q : Option Nat}
theorem WkS.kept (h : WkS w r lo hi S V E ne ce es q) (hs : w.heap.size ≤ w'.heap.size) (hk : ∀ j, j ≤ r → w'.heap[j]? = w.heap[j]?) : WkS w' r lo hi S V E ne ce es q := by
  obtain ⟨x, d, s1, s2, s3⟩ := h.st
  have hr := hk r (Nat.le_refl _)
  exact ⟨Nat.lt_of_lt_of_le h.lt hs, h.far, (World.cell?_of_block (a := ⟨r, 0, none⟩) hr).trans h.c0, (World.cell?_of_block (a := ⟨r, 1, none⟩) hr).trans h.c1, (World.frozen?_of_block (a := ⟨r, 2, none⟩) hr).trans h.f2, (World.frozen?_of_block (a := ⟨r, 3, none⟩) hr).trans h.f3,
    ⟨x, d, (World.cell?_of_block (a := ⟨r, 2, none⟩) hr).trans s1, (World.cell?_of_block (a := ⟨r, 3, none⟩) hr).trans s2, s3⟩, h.out.kept (fun j _ h2 => hk j (by have := h.far; omega))⟩
end
end Go.Proofs.Ytalgbcndifaaiaa.Wd

namespace Go.Proofs.Ytalgbcndifaaiaa.Wd
open Go.RowKit Go.Maps
set_option linter.unusedVariables false
set_option linter.unusedSimpArgs false

/-- At the head of a round. -/
structure WalkI (es : List Ed) (f : Nat → Int) (s0 n m S k : Nat) (r lo hi : Nat) (V : Nat → Value) (E : Option Addr) (ne ce : Nat) (B wb mb : Nat) (w : World) (A Bl : Option Addr) (na ca nb cb : Nat) (D : DataW Nat) (F : Nat → Bool) (v : Value) (wx : World) : Prop where
  vis : Vis es f s0 n m S k D F
  own : wx.ownsMap Try.prog 3 (plainElem Try.prog 3) mb k D
  wk : WkS wx r lo hi S V E ne ce es (turnU es f s0 n m k)
  row : wx.ownsRow (mb + 1) 3 1 v k ((turnL es f s0 n m k).map (Value.int .i64))
  p0 : wx.cell? ⟨wb, 0, none⟩ = some (.slice A na ca)
  p1 : wx.cell? ⟨wb, 1, none⟩ = some (.slice Bl nb cb)
  bel : Below B w wx
  ord : r < wb ∧ wb < mb ∧ mb < wx.heap.size ∧ B ≤ r

theorem own_grown {w w' : World} {base size n b : Nat} {e : TypeId} {v : Value} {xs : List Value} (h : w.ownsRow base e size v n xs) (hg : w.grownBy w' (some b)) (hb : b < base) : w'.ownsRow base e size v n xs :=
  h.kept hg (by
    rcases h.2 with ⟨rfl, _⟩ | ⟨g, cap, cur, rfl, h1, _⟩
    · exact .inl rfl
    · exact .inr (by simp only [Value.ownBlock, ne_eq, Option.some.injEq]; omega))
theorem row_far {w : World} {base size n b : Nat} {e : TypeId} {v : Value} {xs : List Value} (h : w.ownsRow base e size v n xs) (hb : b < base) : some b ≠ v.ownBlock := by
  rcases h.2 with ⟨rfl, _⟩ | ⟨g, cap, cur, rfl, h1, _⟩
  · simp [Value.ownBlock]
  · simp only [Value.ownBlock, ne_eq, Option.some.injEq]; omega

/-- What walk comes to. -/
def WalkT (es : List Ed) (f : Nat → Int) (s0 n m S : Nat) (B : Nat) (w w' : World) (e : Ending) : Prop :=
  ∃ x : Nat, ∃ d : Bool, e = .returned (.tuple #[.int .i64 (x : Nat), .bool d]) ∧ WalkA es f s0 n m S x d ∧ Below B w w'

set_option maxRecDepth 100000 in
set_option maxHeartbeats 16000000 in
theorem walk_run (f : Nat → Int) (s0 r lo hi S : Nat) (V : Nat → Value) (E : Option Addr) (ne ce : Nat) (es : List Ed) (A Bl : Option Addr) (n cA m dB : Nat) (st lp : List Int) (B : Nat) (w : World) (h : WkS w r lo hi S V E ne ce es (some s0)) (hB : B ≤ r)
    (hE : ∀ W, Below B w W → EdgesAt W E ne es) (hx : ∀ W, Below B w W → Ints W A n st) (hy : ∀ W, Below B w W → Ints W Bl m lp) (hn : n ≤ 100000) (hm : m ≤ 100000) (hne : ne ≤ 40000) (hS : S ≤ 3000)
    (hl1 : ∀ j, j < n → f (0 + j) = st.getD j 0) (hl2 : ∀ k j, j < m → f (n + k * m + j) = lp.getD j 0)
    (hes : ∀ j, j < ne → ∃ a b : Nat, (es.getD j ed0).f = (a : Int) ∧ (es.getD j ed0).t = (b : Int) ∧ a < S ∧ b < S) (hms : ∀ j, j < ne → 0 ≤ (es.getD j ed0).m ∧ (es.getD j ed0).m < 2 ^ 40) :
    Calls Try.prog 36 #[.pointer (some ⟨r, 0, none⟩), .agg #[.slice A n cA, .slice Bl m dB]] w fun e w' => WalkT es f s0 n m S B w w' e := by
  obtain ⟨i0, hj, hj0, hj1, hj2⟩ := info_parts int_row
  have hmm := @run_makeMap Try.prog
  have hr := h.lt
  have HLE := Lib.hid (hE w (Below.refl _ _)).1
  have HOL := Lib.hid (fun a c => orU_lt (es := es) (f := f) (s0 := s0) (a := a) (by rw [HLE.out]; exact hms) c)
  have HR1 := Lib.hid (fun W (hW : Below w.heap.size w W) => read_run f s0 0 r lo hi S V E ne ce es A n cA st B W (h.below hW) hB (by have := hW.size; omega) (fun W' hW' => hE W' ((hW.mono (by omega)).trans hW')) (fun W' hW' => hx W' ((hW.mono (by omega)).trans hW')) hn hne hS hl1 hes hms)
  have HR2 := Lib.hid (fun k W (hW : Below B w W) (hk : WkS W r lo hi S V E ne ce es (turnU es f s0 n m k)) => read_run f s0 (n + k * m) r lo hi S V E ne ce es Bl m dB lp B W hk hB (by have := hW.size; omega) (fun W' hW' => hE W' (hW.trans hW')) (fun W' hW' => hy W' (hW.trans hW')) hm hne hS (fun j hj => hl2 k j hj) hes hms)
  have HRS := Lib.hid (fun (x : Nat) (t : Nat) (hq : runU es f s0 t = some x) (h0 : s0 < S) => runU_lt (P := 0) (M := 0) (S := S) (es := es) (f := f) (s0 := s0) (by rw [HLE.out]; exact hes) h0 hq)
  have hs0 : s0 < S := by obtain ⟨x, d, _, _, hh⟩ := h.st; exact hh.2.2
  clear h hE hx hy hl1 hl2 hes hms
  go_enter Try.func36, Try.ntmps36
  go_wp2_with fail
  refine (HR1.out _ ((Below.refl _ _).alloc (Nat.le_refl _) _)).mono ?_
  rintro x w1 ⟨rfl, hw1, hg1⟩
  have p0 : w1.cell? ⟨w.heap.size, 0, none⟩ = some (.slice A n cA) := (hg1.cell_far ⟨w.heap.size, 0, none⟩ (by simp) (by simp; omega)).trans (by rw [box_last]; rfl)
  have p1 : w1.cell? ⟨w.heap.size, 1, none⟩ = some (.slice Bl m dB) := (hg1.cell_far ⟨w.heap.size, 1, none⟩ (by simp) (by simp; omega)).trans (by rw [box_last]; rfl)
  have hz1 : w.heap.size < w1.heap.size := by have := hg1.size; simp at this; omega
  have HB1 := Lib.hid (show Below B w w1 from ((Below.refl _ _).alloc (by omega) _).grown hg1 (by simp; omega) (fun k hk => by cases hk; exact hB))
  have HW1 := Lib.hid hw1
  clear hw1 hg1
  go_wp2_with fail
  have HI0 := Lib.hid (show WalkI es f s0 n m S 0 r lo hi V E ne ce B w.heap.size w1.heap.size w A Bl n cA m dB (.map []) (fun _ => false) (.slice none 0 0) (w1.alloc (.map #[] 0)) from
    ⟨Vis.start es f s0 n m S, World.ownsMap_made (H := Nat) w1 Try.prog 3 (plainElem Try.prog 3),
      by have h1 := HW1.out.below ((Below.refl w1.heap.size w1).alloc (Nat.le_refl _) (.map #[] 0)); unfold turnU; simpa using h1,
      by simpa [turnL] using World.ownsRow_nil (w1.alloc (.map #[] 0)) (w1.heap.size + 1) 3 1,
      (Below.cell ((Below.refl w1.heap.size w1).alloc (Nat.le_refl _) (.map #[] 0)) (p := ⟨w.heap.size, 0, none⟩) hz1).trans p0,
      (Below.cell ((Below.refl w1.heap.size w1).alloc (Nat.le_refl _) (.map #[] 0)) (p := ⟨w.heap.size, 1, none⟩) hz1).trans p1,
      HB1.out.alloc (by have := HB1.out.size; omega) _, ⟨hr, hz1, by simp, hB⟩⟩)
  generalize hmb : w1.heap.size = mb at *
  generalize w1.alloc (.map #[] 0) = W2 at *
  clear hmb p0 p1 hz1 HW1 HB1 HR1
  go_loopg [7] (S + 1) (fun g v wx => ∃ k : Nat, k + g = S + 1 ∧ Hid (∃ D F, WalkI es f s0 n m S k r lo hi V E ne ce B w.heap.size mb w A Bl n cA m dB D F v wx))
  case atStart => exact ⟨0, by omega, _, _, HI0.out⟩
  case round =>
    clear HI0
    obtain ⟨k, hkg, HI⟩ := hrel
    obtain ⟨D, F, hI⟩ := HI.out
    have hkS := hI.vis.few
    cases hq : turnU es f s0 n m k with
    | none =>
      have HF := Lib.hid (show WalkA es f s0 n m S 0 true from .inl ⟨k, hkS, hq, rfl, rfl⟩)
      have HBx := Lib.hid hI.bel
      have hwk := hI.wk
      rw [hq] at hwk
      obtain ⟨x9, d9, s1, s2, s3⟩ := hwk.st
      have hd9 : d9 = true := s3
      subst hd9
      have hrx := hwk.lt
      clear hI HI hq hwk s3
      go_wp2_with fail
      go_ret2
      exact ⟨0, true, rfl, HF.out, HBx.out⟩
    | some s =>
      have hwk := hI.wk
      rw [hq] at hwk
      obtain ⟨x9, d9, s1, s2, s3⟩ := hwk.st
      obtain ⟨rfl, rfl, hsS⟩ : x9 = (s : Int) ∧ d9 = false ∧ s < S := s3
      have hrx := hwk.lt
      have hown := hI.own
      have hwf : (Lit.int .i64 (s : Int)).wf = true := by
        simp only [Lit.wf, Bool.and_eq_true, decide_eq_true_eq]
        show -9223372036854775808 ≤ (s : Int) ∧ (s : Int) ≤ 9223372036854775807
        omega
      have hkey := keyOf_int_mk (P := Try.prog) Try.underlying3 hwf
      have hHas := hI.vis.has s
      obtain ⟨Av, cv, hve, hcv⟩ := own_slice hI.row
      subst hve
      cases hF : F s
      · rw [hF] at hHas
        have hwk2 : (Lit.int .i64 (k : Int)).wf = true := by
          simp only [Lit.wf, Bool.and_eq_true, decide_eq_true_eq]
          show -9223372036854775808 ≤ (k : Int) ∧ (k : Int) ≤ 9223372036854775807
          omega
        have hval := plainElem_int (H := Nat) (P := Try.prog) Try.underlying3 hwk2
        have HII := Lib.hid hI
        have HQ := Lib.hid hq
        have HFF := Lib.hid hF
        have hwb : w.heap.size < wr.heap.size := by have := hI.ord; omega
        have hrm : r < mb := by have := hI.ord; omega
        have hwm : w.heap.size < mb := by have := hI.ord; omega
        have hmw : mb < wr.heap.size := by have := hI.ord; omega
        have q1 := hI.p1
        clear hI HI hq hF hwk
        go_wp2_with (first
          | (at_lookup; refine wpList_lookup_own_ok_int _ rfl _ _ 108 rfl 3 3 .i64 lawInt Try.underlying108 Try.underlying3 (zeroInt _) mb k D rfl hown _ _ rfl hkey ?_; intro cc hat hwc)
          | (at_mapUpdate; refine wpList_mapUpdate_own _ rfl _ _ _ 108 rfl 3 3 lawInt Try.underlying108 _ mb k D rfl hown (by unfold maxLen; omega) _ _ _ rfl rfl hkey _ [] hval ?_; intro w3 hown3 hgrow3
             have q3 : w3.cell? ⟨w.heap.size, 1, none⟩ = some (.slice Bl m dB) := (hgrow3.cell_far ⟨w.heap.size, 1, none⟩ (by simpa using hwb) (by simp; omega)).trans q1
             have hwb3 : w.heap.size < w3.heap.size := Nat.lt_of_lt_of_le hwb hgrow3.size
             have HM3 := Lib.hid hown3
             have HG3 := Lib.hid hgrow3
             have HW3 := Lib.hid (HII.out.wk.kept hgrow3.size (fun j hj => hgrow3.block j (by omega) (by simp; omega)))
             clear hown3 hgrow3 hown q1 s1 s2 hrx hwb hval hHas hat hwc))
        have HB3 := Lib.hid (HII.out.bel.grown HG3.out (by have := HII.out.bel.size; have := HII.out.ord; omega) (fun k hk => by cases hk; have := HII.out.ord; omega))
        refine (HR2.out k w3 HB3.out HW3.out).mono ?_
        rintro x w4 ⟨rfl, hw4, hg4⟩
        have HW4 := Lib.hid (show WkS w4 r lo hi S V E ne ce es (turnU es f s0 n m (k + 1)) by unfold turnU; rw [Nat.succ_mul, ← Nat.add_assoc]; exact hw4)
        have HG4 := Lib.hid hg4
        have hmw4 : mb < w4.heap.size := Nat.lt_of_lt_of_le (Nat.lt_of_lt_of_le hmw HG3.out.size) hg4.size
        have HROW4 := Lib.hid (own_grown (own_grown HII.out.row HG3.out (by omega)) hg4 (by omega))
        have HM4 := Lib.hid (HM3.out.kept hg4 (by simp; omega))
        have HTL := Lib.hid (turnL_succ es f s0 n m k)
        obtain ⟨M, hM⟩ : ∃ M : Int, ((orU es f s0 (n + k * m) m : Nat) : Int) = M := ⟨_, rfl⟩
        rw [hM] at HTL
        rw [hM]
        clear hw4 hg4 hM q3 hwb3
        go_wp2_with (at_builtin; refine wpList_append_ints _ (by rfl) _ _ 22 (by rfl) (mb + 1) 3 i0 _ Try.underlying22 hj hj0 hj1 hj2 rfl (.slice Av k cv) k ((turnL es f s0 n m k).map (Value.int .i64)) (by rfl) (by exact HROW4.out.alloc _) (some ⟨w4.heap.size, 0, none⟩) 1 1 [M] (by rfl) (ints_one w4 M _) (by omega) (by simp; omega) ?_)
        intro v' w5 hown5 hgrow5 _
        obtain ⟨A', c', hve', _⟩ := own_slice hown5
        subst hve'
        have HB5 := Lib.hid (show Below (mb + 1) w4 w5 from ((Below.refl _ _).alloc (by omega) _).trans (below_own (HROW4.out.alloc _) hgrow5 (by simp; omega)))
        have HM5 := Lib.hid ((HM4.out.kept (row := none) (World.grownBy_alloc w4 (.cells #[.int .i64 M] 3) none) (by simp)).kept hgrow5 (row_far (HROW4.out) (by omega)))
        have HO5 := Lib.hid hown5
        clear hown5 hgrow5
        have hrb : r < w.heap.size := HII.out.ord.1
        have hBr : B ≤ r := HII.out.ord.2.2.2
        have HI5 := Lib.hid (show WalkI es f s0 n m S (k + 1) r lo hi V E ne ce B w.heap.size mb w A Bl n cA m dB (D.put (.int .i64 (s : Int)) (.lit (.int .i64 (k : Int)))) (updB F s) (.slice A' (k + 1) c') w5 from
          ⟨HII.out.vis.next HII.out.own.isMap HQ.out hsS HFF.out, HM5.out, HW4.out.kept HB5.out.size (fun j hj => HB5.out.block j (by omega)), by rw [HTL.out, List.map_append]; exact HO5.out,
            (HB5.out.cell (p := ⟨w.heap.size, 0, none⟩) (by show w.heap.size < _; omega)).trans ((HG4.out.cell_far ⟨w.heap.size, 0, none⟩ (by have := HG3.out.size; simp; omega) (by simp; omega)).trans ((HG3.out.cell_far ⟨w.heap.size, 0, none⟩ (by simp; omega) (by simp; omega)).trans HII.out.p0)),
            (HB5.out.cell (p := ⟨w.heap.size, 1, none⟩) (by show w.heap.size < _; omega)).trans ((HG4.out.cell_far ⟨w.heap.size, 1, none⟩ (by have := HG3.out.size; simp; omega) (by simp; omega)).trans ((HG3.out.cell_far ⟨w.heap.size, 1, none⟩ (by simp; omega) (by simp; omega)).trans HII.out.p1)),
            (HB3.out.grown HG4.out (by have := HB3.out.size; have := HII.out.bel.size; omega) (fun k hk => by cases hk; exact hBr)).trans (HB5.out.mono (by omega)), ⟨hrb, hwm, Nat.lt_of_lt_of_le hmw4 HB5.out.size, hBr⟩⟩)
        go_wp2_with fail
        cases gk with
        | zero => have := HI5.out.vis.few; omega
        | succ q =>
          go_roundg q
          case measure => omega
          case rel => exact ⟨k + 1, by omega, _, _, HI5.out⟩
      · rw [hF] at hHas
        obtain ⟨i, hik, hqi, hat0⟩ := hI.vis.at_ s hF (.lit (.int .i64 0))
        have HAT := Lib.hid hat0
        obtain ⟨g, cap, hgv, _, hglt⟩ := hI.row.form (by omega)
        injection hgv with e1 e2 e3
        subst e1 e3
        have hi0 : (0 : Int) ≤ (i : Int) := by omega
        have hi1 : (i : Int) ≤ (k : Int) := by omega
        have hi2 : (k : Int) ≤ (cv : Int) := by omega
        have hi3 : ¬ cv = i := by omega
        have hi4 : i ≤ k := by omega
        have hi5 : i ≤ cv := by omega
        have HII := Lib.hid hI
        have HQ := Lib.hid hq
        clear hI HI hq hF hat0 e2 hwk
        go_wp2_with (at_lookup; refine wpList_lookup_own_ok_int _ rfl _ _ 108 rfl 3 3 .i64 lawInt Try.underlying108 Try.underlying3 (zeroInt _) mb k D rfl hown _ _ rfl hkey ?_; intro cc hat hwc
                     rw [HAT.out] at hat
                     cases hat
                     clear hwc)
        have hints := (Ints.of_own HII.out.row).cut (k := i) (cap := cv) hi4 (by omega)
        rw [if_neg hi3] at hints
        have hints2 : Ints wr (some ⟨g, i, none⟩) (k - i) ((turnL es f s0 n m k).drop i) := by simpa [Addr.add_lit] using hints
        refine (union_run (fun j => orU es f s0 (n + (i + j) * m) m) (some ⟨g, i, none⟩) (k - i) (cv - i) ((turnL es f s0 n m k).drop i) wr hints2 (by omega) (fun j => HOL.out _ _) (fun j hj => by
          rw [List.getD_eq_getElem?_getD, List.getElem?_drop, ← List.getD_eq_getElem?_getD]
          exact turnL_at es f s0 n m (by omega))).mono ?_
        rintro x w9 ⟨rfl, rfl⟩
        have HFIN := Lib.hid (show WalkA es f s0 n m S (orN (fun j => orU es f s0 (n + (i + j) * m) m) (k - i)) false from .inr ⟨i, k, hik, hkS, hqi.trans HQ.out.symm, by rw [hqi]; exact (fun e => by cases e), orN_turns es f s0 n m i (k - i), rfl⟩)
        have HBx := Lib.hid HII.out.bel
        clear hints hints2
        go_wp2_with fail
        go_ret2
        exact ⟨_, false, rfl, HFIN.out, HBx.out⟩

end Go.Proofs.Ytalgbcndifaaiaa.Wd

namespace Go.Proofs.Ytalgbcndifaaiaa.Wd
open Go.RowKit
set_option linter.unusedVariables false
set_option linter.unusedSimpArgs false

/-- The edge e and a later one e' agree where both care. -/
def HitP (e e' : Ed) : Prop := bits .and .i64 e'.b e.c = bits .and .i64 e.b e'.c
/-- No two of the first k edges do that at one state. -/
def NoHit (es : List Ed) (k : Nat) : Prop := ∀ i j, i < j → j < k → (es.getD i ed0).f = (es.getD j ed0).f → ¬ HitP (es.getD i ed0) (es.getD j ed0)
theorem noHit_zero (es : List Ed) : NoHit es 0 := fun i j h1 h2 => by omega
theorem noHit_step {es : List Ed} {k f : Nat} (h : NoHit es k) (hf : (es.getD k ed0).f = (f : Int)) (hx : ∀ x, x < (fromE es f k).length → ¬ HitP ((fromE es f k).getD x ed0) (es.getD k ed0)) : NoHit es (k + 1) := by
  intro i j h1 h2 h3
  by_cases e : j = k
  · subst e
    have hm : es.getD i ed0 ∈ fromE es f j := fromE_mem.2 ⟨i, h1, rfl, h3.trans hf⟩
    obtain ⟨x, hx1, hx2⟩ := List.getElem_of_mem hm
    have := hx x hx1
    rw [List.getD_eq_getElem?_getD, List.getElem?_eq_getElem hx1, Option.getD_some, hx2] at this
    exact this
  · exact h i j h1 (by omega) h3
theorem hit_found {es : List Ed} {n k f x : Nat} (hk : k < n) (hf : (es.getD k ed0).f = (f : Int)) (hx : x < (fromE es f k).length) (h : HitP ((fromE es f k).getD x ed0) (es.getD k ed0)) : ¬ NoHit es n := by
  intro hn
  have hm : (fromE es f k).getD x ed0 ∈ fromE es f k := by rw [List.getD_eq_getElem?_getD, List.getElem?_eq_getElem hx]; exact List.getElem_mem hx
  obtain ⟨i, h1, h2, h3⟩ := fromE_mem.1 hm
  refine hn i k h1 hk ?_ ?_
  · rw [h2, h3, hf]
  · rw [h2]; exact h

theorem one_edge (w : World) (y : Ed) (t : TypeId) : ∀ j u, (edV y)[j]? = some u → (w.alloc (.cells #[.int .i64 y.f, .int .i64 y.t, .int .i64 y.c, .int .i64 y.b, .int .i64 y.m] t)).drew.cell? ((⟨w.heap.size, 0, none⟩ : Addr).add j) = some u := by
  intro j u hj
  rw [Addr.add_lit]
  show World.cell? (w.alloc _) _ = _
  rw [show 0 + j = j by omega, box_last, ← hj]
  simp [edV]
theorem own_apart5 {w : World} {B e k n g : Nat} {v : Value} {xs : List Value} (h : w.ownsRow B e k v n xs) (hg : w.heap.size ≤ g) : some g ≠ v.ownBlock := by
  intro he
  rcases h.2 with ⟨rfl, _⟩ | ⟨b, cap, cur, rfl, h1, hgg, _⟩
  · cases he
  · cases he
    exact Nat.lt_irrefl _ (Nat.lt_of_lt_of_le (Array.getElem?_eq_some_iff.1 hgg).1 hg)
theorem edges_info : (Try.prog.info? 23).map (fun i => (i.zero, i.size, i.bytes)) = some (some (.slice none 0 0), 1, 24) := by kernel_rfl

set_option maxRecDepth 100000 in
set_option maxHeartbeats 8000000 in
theorem refApart_any (P : Int) (S : Nat) (K M : Int) (A E : Option Addr) (n c ne ce : Nat) (es : List Ed) (w : World) (hE : EdgesAt w E ne es) (hS : S ≤ 3000) (hne : ne ≤ 40000)
    (hfr : ∀ j, j < ne → ∃ f : Nat, (es.getD j ed0).f = (f : Int) ∧ f < S) :
    Calls Try.prog 25 #[.agg #[.int .i64 P, .int .i64 S, .slice A n c, .int .i64 K, .int .i64 M, .slice E ne ce]] w fun e w' => ∃ r, e = .returned (.bool r) ∧ Hid (r = true ↔ NoHit es ne) ∧ Below w.heap.size w w' := by
  obtain ⟨i0, hi, hi0, hi1, hi2⟩ := info_parts edge_info
  have hmk := run_make_row' (P := Try.prog) 90 23 (.slice none 0 0) 24 Try.underlying90 edges_info rfl .i64 .i64 S (by omega) (by omega)
  have HA := Lib.hid hE
  have HFR := Lib.hid hfr
  clear hE hfr
  go_enter Try.func25, Try.ntmps25
  go_wp2_with fail
  obtain ⟨W0, hW0⟩ : ∃ W0, w.alloc (.cells #[.int .i64 P, .int .i64 S, .slice A n c, .int .i64 K, .int .i64 M, .slice E ne ce] 25) = W0 := ⟨_, rfl⟩
  have hz : W0.heap.size = w.heap.size + 1 := by rw [← hW0]; simp
  have HB0 := Lib.hid (show Below w.heap.size w W0 by rw [← hW0]; exact (Below.refl _ _).alloc (Nat.le_refl _) _)
  rw [hW0]
  clear hW0
  obtain ⟨W1, hW1⟩ : ∃ W1, W0.alloc (.cells (madeCells #[.slice none 0 0] S) 23) = W1 := ⟨_, rfl⟩
  have HR0 := Lib.hid (show W1.rowIs (w.heap.size + 1) 23 S (fun _ => .slice none 0 0) by rw [← hW1, ← hz]; exact World.rowIs_made W0 _ S _)
  have HB1 := Lib.hid (show Below (w.heap.size + 1) W0 W1 by rw [← hW1, ← hz]; exact (Below.refl _ _).alloc (Nat.le_refl _) _)
  have hz1 : W1.heap.size = w.heap.size + 2 := by rw [← hW1]; simp [hz]
  rw [hW1]
  clear hW1
  go_loopg [14] ne (fun g i wx => ∃ t : Nat, t + g = ne ∧ i = .int .i64 t ∧ Hid (∃ V, wx.rowIs (w.heap.size + 1) 23 S V ∧ RowsE (w.heap.size + 2) S wx V (fun s => fromE es s t)) ∧ Hid (NoHit es t) ∧ Hid (Below (w.heap.size + 1) W0 wx) ∧ Hid (w.heap.size + 2 ≤ wx.heap.size))
  case atStart => exact ⟨0, by omega, rfl, ⟨_, HR0.out, RowsE.start _ _ _⟩, noHit_zero es, HB1.out, (by show _ ≤ _; omega)⟩
  case round =>
    obtain ⟨t, htg, rfl, HR, HNH, HBx, HZ⟩ := hrel
    have hti : (0 : Int) ≤ (t : Int) := by omega
    have HBw := Lib.hid (HB0.out.trans (HBx.out.mono (by omega)))
    obtain ⟨V, hrow, hrs⟩ := HR.out
    have HROW := Lib.hid hrow
    have HRS := Lib.hid hrs
    have hzw := HZ.out
    clear hrow hrs HR HZ
    cases gk with
    | zero =>
      obtain rfl : ne = t := by omega
      go_wp2_with fail
      go_ret
      first | exact ⟨rfl, ⟨fun _ => HNH.out, fun _ => rfl⟩, HBw.out⟩ | exact ⟨true, rfl, ⟨fun _ => HNH.out, fun _ => rfl⟩, HBw.out⟩
    | succ q =>
      have ht1 : t < ne := by omega
      have hti2 : (t : Int) < (ne : Int) := by omega
      obtain ⟨b, off, rfl, hlt, hcell⟩ := (HA.out.below HBw.out).2 (by omega)
      obtain ⟨c0, c1, c2, c3, c4⟩ := hcell t ht1
      obtain ⟨f, hf, hfS⟩ := HFR.out t ht1
      have HYES := Lib.hid (fromE_yes hf)
      have HNO := Lib.hid (fun s (hs : ¬ s = f) => fromE_no (es := es) (s := s) (k := t) (by rw [hf]; omega))
      have HLN := Lib.hid (fromE_len es f t)
      have HSTEP := Lib.hid (fun h => noHit_step HNH.out hf h)
      have HFOUND := Lib.hid (fun x hx h => hit_found (x := x) ht1 hf hx h)
      generalize es.getD t ed0 = x at *
      obtain ⟨ef, et, ec, eb, em⟩ := x
      simp only at c0 c1 c2 c3 c4 hf
      subst hf
      clear hcell
      have hf0 : (0 : Int) ≤ (f : Int) := by omega
      have hf1 : (f : Int) < (S : Int) := by omega
      obtain ⟨v, hvf, HVF⟩ : ∃ v, V f = v ∧ Hid (V f = v) := ⟨_, rfl, rfl⟩
      have hv : wr.cell? ⟨w.heap.size + 1, f, none⟩ = some v := by rw [← hvf]; exact HROW.out.cell hfS
      have hfz := HROW.out.frozen f
      have ho : wr.ownsRow (w.heap.size + 2) 37 5 v (fromE es f t).length (edsV (fromE es f t)) := by rw [← hvf]; exact HRS.out.own f hfS
      obtain ⟨Av, cv, hve, hcv⟩ := own_edges ho
      clear hvf
      obtain ⟨nv, hnv, HNL⟩ : ∃ nv, (fromE es f t).length = nv ∧ Hid ((fromE es f t).length = nv) := ⟨_, rfl, rfl⟩
      rw [hnv] at hve ho hcv
      subst hve
      have HNV := Lib.hid (show nv ≤ 40000 by have := HLN.out; omega)
      have HO := Lib.hid ho
      have HAP := Lib.hid (own_apart5 ho (Nat.le_refl _))
      have hz0 : w.heap.size + 1 < wr.heap.size := by omega
      have hnv0 : (0 : Int) ≤ (nv : Int) := by omega
      clear hnv ho
      go_wp2_with fail
      obtain ⟨be, hbe⟩ : ∃ be, wr.heap.size = be := ⟨_, rfl⟩
      obtain ⟨We, hWe⟩ : ∃ We, wr.alloc (.cells #[.int .i64 f, .int .i64 et, .int .i64 ec, .int .i64 eb, .int .i64 em] 37) = We := ⟨_, rfl⟩
      have z0 : We.cell? ⟨be, 0, none⟩ = some (.int .i64 f) := by rw [← hWe, ← hbe, box_last]; rfl
      have z1 : We.cell? ⟨be, 1, none⟩ = some (.int .i64 et) := by rw [← hWe, ← hbe, box_last]; rfl
      have z2 : We.cell? ⟨be, 2, none⟩ = some (.int .i64 ec) := by rw [← hWe, ← hbe, box_last]; rfl
      have z3 : We.cell? ⟨be, 3, none⟩ = some (.int .i64 eb) := by rw [← hWe, ← hbe, box_last]; rfl
      have z4 : We.cell? ⟨be, 4, none⟩ = some (.int .i64 em) := by rw [← hWe, ← hbe, box_last]; rfl
      have hbz : We.heap.size = be + 1 := by rw [← hWe, ← hbe]; simp
      have hzb : w.heap.size + 1 < be := by omega
      have HBE := Lib.hid (show Below wr.heap.size wr We by rw [← hWe]; exact (Below.refl _ _).alloc (Nat.le_refl _) _)
      have hve : We.cell? ⟨w.heap.size + 1, f, none⟩ = some (.slice Av nv cv) := (HBE.out.cell (p := ⟨w.heap.size + 1, f, none⟩) hz0).trans hv
      have HFZ := Lib.hid ((HBE.out.frozen (p := ⟨w.heap.size + 1, f, none⟩) hz0).trans hfz)
      have HOE := Lib.hid (own_keep HO.out HBE.out)
      have HRSE := Lib.hid (HRS.out.below HBE.out)
      have HROWE := Lib.hid (HROW.out.of_block (HBE.out.block _ hz0))
      have HBXE := Lib.hid (HBx.out.trans (HBE.out.mono (by omega)))
      rw [hbe] at HAP
      rw [hWe, hbe]
      clear hWe hbe HBE HO HRS HROW HBx HBw hv hfz c0 c1 c2 c3 c4 hlt hz0 hzw
      go_loopg [24] nv (fun g i wx => ∃ u : Nat, u + g = nv ∧ i = .int .i64 u ∧ Hid (∀ x, x < u → ¬ HitP ((fromE es f t).getD x ed0) ⟨f, et, ec, eb, em⟩) ∧ Hid (Below We.heap.size We wx))
      case atStart => exact ⟨0, by omega, rfl, (fun x h => by omega), Below.refl _ _⟩
      case round =>
        obtain ⟨u, hug, rfl, HH, HBi⟩ := hrel
        have hui : (0 : Int) ≤ (u : Int) := by omega
        have hbr : be < wr.heap.size := Nat.lt_of_lt_of_le (by omega) HBi.out.size
        have hz0 : w.heap.size + 1 < wr.heap.size := by omega
        have r0 := (HBi.out.cell (p := ⟨be, 0, none⟩) (by show be < _; omega)).trans z0
        have r1 := (HBi.out.cell (p := ⟨be, 1, none⟩) (by show be < _; omega)).trans z1
        have r2 := (HBi.out.cell (p := ⟨be, 2, none⟩) (by show be < _; omega)).trans z2
        have r3 := (HBi.out.cell (p := ⟨be, 3, none⟩) (by show be < _; omega)).trans z3
        have r4 := (HBi.out.cell (p := ⟨be, 4, none⟩) (by show be < _; omega)).trans z4
        cases gk with
        | zero =>
          obtain rfl : nv = u := by omega
          have HNEXT := Lib.hid (HSTEP.out (by rw [HNL.out]; exact HH.out))
          have hvr := (HBi.out.cell (p := ⟨w.heap.size + 1, f, none⟩) (by show w.heap.size + 1 < _; omega)).trans hve
          have hfr := (HBi.out.frozen (p := ⟨w.heap.size + 1, f, none⟩) (by show w.heap.size + 1 < _; omega)).trans HFZ.out
          have HOR := Lib.hid (own_keep HOE.out HBi.out)
          have HRSR := Lib.hid (HRSE.out.below HBi.out)
          have hzz : w.heap.size + 2 ≤ wr.heap.size := by omega
          have HBA := Lib.hid (show Below wr.heap.size wr (wr.alloc (.cells #[.int .i64 f, .int .i64 et, .int .i64 ec, .int .i64 eb, .int .i64 em] 37)).drew from ((Below.refl _ _).alloc (Nat.le_refl _) _).drew)
          clear z0 z1 z2 z3 z4 hve
          go_wp2_with fail
          refine wp_region_until_drew (st := [12]) (S := fun V => V.cell? ⟨be, 0, none⟩ = some (.int .i64 f) ∧ V.cell? ⟨be, 1, none⟩ = some (.int .i64 et) ∧ V.cell? ⟨be, 2, none⟩ = some (.int .i64 ec) ∧ V.cell? ⟨be, 3, none⟩ = some (.int .i64 eb) ∧ V.cell? ⟨be, 4, none⟩ = some (.int .i64 em) ∧ V.cell? ⟨w.heap.size + 1, f, none⟩ = some (.slice Av nv cv)) (by kernel_rfl) ⟨r0, r1, r2, r3, r4, hvr⟩ (fun hHeld => ?_)
          refine wpAnyU_pure (i := 0) (v := ?vo0) rfl (by kernel_rfl) (by kernel_rfl) (by kernel_rfl) (by kernel_rfl) (fun _ _ _ h => h) (Or.inl ⟨by rfl, fun V _ => ?hyo0⟩) (fun _ => hHeld) ?resto0
          case hyo0 => go_simp; try with_reducible rfl
          try simp only [Act.put, List.getElem_toArray, List.getElem_cons_zero, List.getElem_cons_succ, List.setIfInBounds_toArray, List.set_cons_zero, List.set_cons_succ]
          refine wpAnyU_pure (i := 1) (v := ?vo1) rfl (by kernel_rfl) (by kernel_rfl) (by kernel_rfl) (by kernel_rfl) (fun _ _ _ h => h) (Or.inl ⟨by rfl, fun V _ => ?hyo1⟩) (fun _ => hHeld) ?resto1
          case hyo1 => go_simp; try with_reducible rfl
          try simp only [Act.put, List.getElem_toArray, List.getElem_cons_zero, List.getElem_cons_succ, List.setIfInBounds_toArray, List.set_cons_zero, List.set_cons_succ]
          refine wpAnyU_load (i := 2) (v := ?vo2) rfl (by kernel_rfl) (by kernel_rfl) (by kernel_rfl) (by kernel_rfl) (fun _ _ _ h => h) (Or.inl ⟨by rfl, fun V hSw => ?hyo2⟩) hHeld ?resto2
          case hyo2 => (obtain ⟨hs0, hs1, hs2, hs3, hs4, hs5⟩ := hSw); go_simp; try with_reducible rfl
          try simp only [Act.put, List.getElem_toArray, List.getElem_cons_zero, List.getElem_cons_succ, List.setIfInBounds_toArray, List.set_cons_zero, List.set_cons_succ]
          refine wpAnyU_pure (i := 3) (v := ?vo3) rfl (by kernel_rfl) (by kernel_rfl) (by kernel_rfl) (by kernel_rfl) (fun _ _ _ h => h) (Or.inl ⟨by rfl, fun V _ => ?hyo3⟩) (fun _ => hHeld) ?resto3
          case hyo3 => go_simp; try with_reducible rfl
          try simp only [Act.put, List.getElem_toArray, List.getElem_cons_zero, List.getElem_cons_succ, List.setIfInBounds_toArray, List.set_cons_zero, List.set_cons_succ]
          refine wpAnyU_pure (i := 4) (v := ?vo4) rfl (by kernel_rfl) (by kernel_rfl) (by kernel_rfl) (by kernel_rfl) (fun _ _ _ h => h) (Or.inl ⟨by rfl, fun V _ => ?hyo4⟩) (fun _ => hHeld) ?resto4
          case hyo4 => go_simp; try with_reducible rfl
          try simp only [Act.put, List.getElem_toArray, List.getElem_cons_zero, List.getElem_cons_succ, List.setIfInBounds_toArray, List.set_cons_zero, List.set_cons_succ]
          refine wpAnyU_load (i := 5) (v := ?vo5) rfl (by kernel_rfl) (by kernel_rfl) (by kernel_rfl) (by kernel_rfl) (fun _ _ _ h => h) (Or.inl ⟨by rfl, fun V hSw => ?hyo5⟩) hHeld ?resto5
          case hyo5 => (obtain ⟨hs0, hs1, hs2, hs3, hs4, hs5⟩ := hSw); go_simp; try with_reducible rfl
          try simp only [Act.put, List.getElem_toArray, List.getElem_cons_zero, List.getElem_cons_succ, List.setIfInBounds_toArray, List.set_cons_zero, List.set_cons_succ]
          refine wpAnyU_pure (i := 6) (v := ?vo6) rfl (by kernel_rfl) (by kernel_rfl) (by kernel_rfl) (by kernel_rfl) (fun _ _ _ h => h) (Or.inl ⟨by rfl, fun V _ => ?hyo6⟩) (fun _ => hHeld) ?resto6
          case hyo6 => go_simp; try with_reducible rfl
          try simp only [Act.put, List.getElem_toArray, List.getElem_cons_zero, List.getElem_cons_succ, List.setIfInBounds_toArray, List.set_cons_zero, List.set_cons_succ]
          refine wpAnyU_load (i := 7) (v := ?vo7) rfl (by kernel_rfl) (by kernel_rfl) (by kernel_rfl) (by kernel_rfl) (fun _ _ _ h => h) (Or.inl ⟨by rfl, fun V hSw => ?hyo7⟩) hHeld ?resto7
          case hyo7 => (obtain ⟨hs0, hs1, hs2, hs3, hs4, hs5⟩ := hSw); go_simp; try with_reducible rfl
          try simp only [Act.put, List.getElem_toArray, List.getElem_cons_zero, List.getElem_cons_succ, List.setIfInBounds_toArray, List.set_cons_zero, List.set_cons_succ]
          refine wpAnyU_load (i := 8) (v := ?vo8) rfl (by kernel_rfl) (by kernel_rfl) (by kernel_rfl) (by kernel_rfl) (fun _ _ _ h => h) (Or.inl ⟨by rfl, fun V hSw => ?hyo8⟩) hHeld ?resto8
          case hyo8 => (obtain ⟨hs0, hs1, hs2, hs3, hs4, hs5⟩ := hSw); go_simp; try with_reducible rfl
          try simp only [Act.put, List.getElem_toArray, List.getElem_cons_zero, List.getElem_cons_succ, List.setIfInBounds_toArray, List.set_cons_zero, List.set_cons_succ]
          refine wpAnyU_ready (rs := [9]) (by kernel_rfl) (by simp) (AllU.cons (i := 9) rfl (fun K hK => ?_) AllU.nil)
          simp only [List.getElem_toArray, List.getElem_cons_zero, List.getElem_cons_succ]
          go_simp
          refine hK.out _ _ (fun _ => ⟨(HBA.out.cell (p := ⟨be, 0, none⟩) hbr).trans r0, (HBA.out.cell (p := ⟨be, 1, none⟩) hbr).trans r1, (HBA.out.cell (p := ⟨be, 2, none⟩) hbr).trans r2, (HBA.out.cell (p := ⟨be, 3, none⟩) hbr).trans r3, (HBA.out.cell (p := ⟨be, 4, none⟩) hbr).trans r4, (HBA.out.cell (p := ⟨w.heap.size + 1, f, none⟩) hz0).trans hvr⟩) ?re
          clear hK K
          try simp only [Act.put, List.getElem_toArray, List.getElem_cons_zero, List.getElem_cons_succ, List.setIfInBounds_toArray, List.set_cons_zero, List.set_cons_succ]
          refine wpAnyU_ready (rs := [10]) (by kernel_rfl) (by simp) (AllU.cons (i := 10) rfl (fun K hK => ?_) AllU.nil)
          have hown0 := own_keep HOR.out HBA.out
          have hbase : w.heap.size + 2 ≤ (wr.alloc (.cells #[.int .i64 f, .int .i64 et, .int .i64 ec, .int .i64 eb, .int .i64 em] 37)).drew.heap.size := Nat.le_trans hzz HBA.out.size
          refine step_append_edge _ (by rfl) _ _ _ (by rfl) (w.heap.size + 2) 37 i0 _ Try.underlying23 hi hi0 hi1 hi2 rfl (.slice Av nv cv) nv (edsV (fromE es f t)) (by rfl) (by exact hown0) ⟨wr.heap.size, 0, none⟩ 1 ⟨f, et, ec, eb, em⟩ (by rfl) (by exact one_edge wr ⟨f, et, ec, eb, em⟩ _) (by have := HNV.out; omega) (by exact hbase) ?_
          intro v' w2 hown hgrow hat
          obtain ⟨A', c', hve, hcc⟩ := own_edges hown
          have HRW := Lib.hid ((HRSR.out.below HBA.out).grow (x := ⟨f, et, ec, eb, em⟩) hfS (l := fromE es f t) ⟨HVF.out, rfl⟩ (by rw [HNL.out]; exact hown) hgrow hat)
          rw [hve] at HRW
          rw [hve] at hown hat ⊢
          have hb2 := below_own hown0 hgrow hbase
          have HB2 := Lib.hid hb2
          have hc2 : w2.cell? ⟨w.heap.size + 1, f, none⟩ = some (.slice Av nv cv) := (hb2.cell (p := ⟨w.heap.size + 1, f, none⟩) (by simp)).trans ((HBA.out.cell (p := ⟨w.heap.size + 1, f, none⟩) hz0).trans hvr)
          have hf2 : w2.frozen? ⟨w.heap.size + 1, f, none⟩ = false := (hb2.frozen (p := ⟨w.heap.size + 1, f, none⟩) (by simp)).trans ((HBA.out.frozen (p := ⟨w.heap.size + 1, f, none⟩) hz0).trans hfr)
          have hbs : be < (wr.alloc (.cells #[.int .i64 f, .int .i64 et, .int .i64 ec, .int .i64 eb, .int .i64 em] 37)).drew.heap.size := Nat.lt_of_lt_of_le hbr HBA.out.size
          have s0 : w2.cell? ⟨be, 0, none⟩ = some (.int .i64 f) := (hgrow.cell_far ⟨be, 0, none⟩ hbs HAP.out).trans ((HBA.out.cell (p := ⟨be, 0, none⟩) hbr).trans r0)
          have s1 : w2.cell? ⟨be, 1, none⟩ = some (.int .i64 et) := (hgrow.cell_far ⟨be, 1, none⟩ hbs HAP.out).trans ((HBA.out.cell (p := ⟨be, 1, none⟩) hbr).trans r1)
          have s2 : w2.cell? ⟨be, 2, none⟩ = some (.int .i64 ec) := (hgrow.cell_far ⟨be, 2, none⟩ hbs HAP.out).trans ((HBA.out.cell (p := ⟨be, 2, none⟩) hbr).trans r2)
          have s3 : w2.cell? ⟨be, 3, none⟩ = some (.int .i64 eb) := (hgrow.cell_far ⟨be, 3, none⟩ hbs HAP.out).trans ((HBA.out.cell (p := ⟨be, 3, none⟩) hbr).trans r3)
          have s4 : w2.cell? ⟨be, 4, none⟩ = some (.int .i64 em) := (hgrow.cell_far ⟨be, 4, none⟩ hbs HAP.out).trans ((HBA.out.cell (p := ⟨be, 4, none⟩) hbr).trans r4)
          clear hve hown0 hown hgrow hat hb2 hHeld
          have hHeld := And.intro s0 (And.intro s1 (And.intro s2 (And.intro s3 (And.intro s4 hc2))))
          refine hK.out _ _ (fun _ => hHeld) ?_
          clear hK K
          try simp only [Act.put, List.getElem_toArray, List.getElem_cons_zero, List.getElem_cons_succ, List.setIfInBounds_toArray, List.set_cons_zero, List.set_cons_succ]
          refine wpAnyU_pure (i := 11) (v := ?vq11) rfl (by kernel_rfl) (by kernel_rfl) (by kernel_rfl) (by kernel_rfl) (fun _ _ _ h => h) (Or.inl ⟨by rfl, fun V _ => ?hyq11⟩) (fun _ => hHeld) ?restq11
          case hyq11 => go_simp; try with_reducible rfl
          try simp only [Act.put, List.getElem_toArray, List.getElem_cons_zero, List.getElem_cons_succ, List.setIfInBounds_toArray, List.set_cons_zero, List.set_cons_succ]
          refine wpAnyU_ready (rs := [12]) (by kernel_rfl) (by simp) (AllU.cons (i := 12) rfl (fun K hK => ?_) AllU.nil)
          simp only [List.getElem_toArray, List.getElem_cons_zero, List.getElem_cons_succ]
          go_simp
          refine hK.out _ _ (fun h => by have h2 : false = true := h; cases h2) ?_
          clear hK K
          try simp only [Act.put, List.getElem_toArray, List.getElem_cons_zero, List.getElem_cons_succ, List.setIfInBounds_toArray, List.set_cons_zero, List.set_cons_succ]
          refine wpAnyU_done (by kernel_rfl) ?_ _
          clear hHeld
          go_wp2_with fail
          go_roundg q
          case measure => omega
          case rel =>
            refine ⟨t + 1, by omega, by go_num, ⟨_, ((((HROWE.out.of_block (HBi.out.block _ (by omega))).of_block (HBA.out.block _ hz0)).of_block (HB2.out.block _ (by omega))).set f (.slice A' (nv + 1) c')), ?_⟩, HNEXT, ?_, ?_⟩
            · have h1 := (HRW.out.put (a := ⟨w.heap.size + 1, f, none⟩) (by show w.heap.size + 1 < w.heap.size + 2; omega) (.slice A' (nv + 1) c')).lists (L' := fun s => fromE es s (t + 1)) (fun s hs => by
                show putE _ f _ s = fromE es s (t + 1)
                unfold putE
                by_cases e : s = f
                · subst e; rw [if_pos rfl, HYES.out]
                · rw [if_neg e, HNO.out s e])
              exact h1
            · exact (((HBXE.out.trans (HBi.out.mono (by omega))).trans (HBA.out.mono (by omega))).trans (HB2.out.mono (by omega))).setCell (p := ⟨w.heap.size + 1, f, none⟩) (by simp) _
            · have := Nat.le_trans hbase HB2.out.size
              show _ ≤ _
              simpa using this
        | succ g =>
          have hu1 : u < nv := by omega
          have hui2 : (u : Int) < (nv : Int) := by omega
          have hnv4 := HNV.out
          obtain ⟨gv, cap, hva, hgB, hgl, k0, k1, k2, k3, k4⟩ := own_edge (own_keep HOE.out HBi.out) HNL.out hu1
          injection hva with hva1 hva2 hva3
          subst hva1
          subst hva3
          have HF := Lib.hid (fun h => HFOUND.out u (by rw [HNL.out]; exact hu1) h)
          have HMORE := Lib.hid (fun (hno : ¬ HitP ((fromE es f t).getD u ed0) ⟨f, et, ec, eb, em⟩) => show ∀ x, x < u + 1 → ¬ HitP ((fromE es f t).getD x ed0) ⟨f, et, ec, eb, em⟩ from fun x hx => by
            by_cases e : x = u
            · subst e; exact hno
            · exact HH.out x (by omega))
          generalize (fromE es f t).getD u ed0 = y at *
          obtain ⟨yf, yt, yc, yb, ym⟩ := y
          simp only at k0 k1 k2 k3 k4
          obtain ⟨a1, ha1, HA1⟩ : ∃ a1, bits .and .i64 eb yc = a1 ∧ Hid (bits .and .i64 eb yc = a1) := ⟨_, rfl, rfl⟩
          obtain ⟨a2, ha2, HA2⟩ : ∃ a2, bits .and .i64 yb ec = a2 ∧ Hid (bits .and .i64 yb ec = a2) := ⟨_, rfl, rfl⟩
          have HIT := Lib.hid (show HitP ⟨yf, yt, yc, yb, ym⟩ ⟨f, et, ec, eb, em⟩ ↔ a1 = a2 by unfold HitP; simp only; rw [HA1.out, HA2.out])
          have HBW := Lib.hid (HB0.out.trans ((HBXE.out.trans (HBi.out.mono (by omega))).mono (by omega)))
          clear z0 z1 z2 z3 z4 hve
          by_cases h : a1 = a2
          · have HX := Lib.hid (HF.out (HIT.out.2 h))
            subst h
            go_wp2_with fail
            go_ret
            have HB9 := HBW.out.alloc HBW.out.size (.cells #[.int .i64 yf, .int .i64 yt, .int .i64 yc, .int .i64 yb, .int .i64 ym] 37)
            exact .inl ⟨rfl, HB9⟩
          · have HX := Lib.hid (HMORE.out (fun hh => h (HIT.out.1 hh)))
            have h1 : (a1 == a2) = false := by rw [beq_eq_false_iff_ne]; exact h
            have h2 : decide (a1 = a2) = false := decide_eq_false h
            go_wp2_with fail
            go_roundg g
            case measure => omega
            case rel => exact ⟨u + 1, by omega, by go_num, HX, HBi.out.alloc HBi.out.size _⟩

end Go.Proofs.Ytalgbcndifaaiaa.Wd

namespace Go.Proofs.Ytalgbcndifaaiaa.Wd
open Go.RowKit
set_option linter.unusedVariables false

/-- The contract of the reference's Valid. -/
def RefValidOK : Prop := ∀ (P S K M : Int) (A E : Option Addr) (n c ne ce : Nat) (st : List Int) (es : List Ed) (w : World), Ints w A n st → n ≤ 17592186044416 → EdgesAt w E ne es → ne ≤ 17592186044416 →
  Calls Try.prog 8 #[.agg #[.int .i64 P, .int .i64 S, .slice A n c, .int .i64 K, .int .i64 M, .slice E ne ce]] w fun e w' => e = .returned (.bool (autB P S K M st es)) ∧ Below w.heap.size w w'

theorem letter_six (x : Int) (p : Nat) (w : World) (hp : p ≤ 6) : Calls Try.prog 28 #[.int .i64 x, .int .i64 p] w fun e w' => e = .returned (.bool (decide (0 ≤ x ∧ x < 2 ^ p))) ∧ w = w' := by
  obtain ⟨PP, hPP, HPP⟩ : ∃ X : Int, IntKind.i64.wrap ((2 : Int) ^ p) = X ∧ Hid ((2 : Int) ^ p = X) := ⟨_, pow_wrap6 hp, rfl⟩
  rw [HPP.out]
  have hp0 : (0 : Int) ≤ (p : Int) := by omega
  have hp6 : (p : Int) ≤ 6 := by omega
  obtain ⟨d, hd, HD⟩ : ∃ d, decide (0 ≤ x ∧ x < PP) = d ∧ Hid (decide (0 ≤ x ∧ x < PP) = d) := ⟨_, rfl, rfl⟩
  rw [hd]
  clear hd
  have hc : x < 0 ∨ (0 ≤ x ∧ PP ≤ x) ∨ (0 ≤ x ∧ x < PP) := by omega
  rcases hc with h | ⟨h, h2⟩ | ⟨h, h2⟩
  · have HF := Lib.hid (show d = false by rw [← HD.out]; exact decide_eq_false (by omega))
    go_enter Try.func28, Try.ntmps28
    go_wp2_with fail
    go_ret
    exact ⟨ret_bool HF.out.symm, rfl⟩
  · have HF := Lib.hid (show d = false by rw [← HD.out]; exact decide_eq_false (by omega))
    go_enter Try.func28, Try.ntmps28
    go_wp2_with fail
    go_ret
    exact ⟨ret_bool (by rw [HF.out]; exact decide_eq_false (by omega)), rfl⟩
  · have HF := Lib.hid (show d = true by rw [← HD.out]; exact decide_eq_true ⟨h, h2⟩)
    go_enter Try.func28, Try.ntmps28
    go_wp2_with fail
    go_ret
    exact ⟨ret_bool HF.out.symm, rfl⟩

end Go.Proofs.Ytalgbcndifaaiaa.Wd

namespace Go.Proofs.Ytalgbcndifaaiaa.Wd
open Go.RowKit
set_option linter.unusedVariables false

/-- All bits are words of 64 bits. -/
def BitsOK (es : List Ed) : Prop := ∀ i, i < es.length → -9223372036854775808 ≤ (es.getD i ed0).b ∧ (es.getD i ed0).b < 9223372036854775808
theorem edge_ok {P M : Nat} {S : Int} {es : List Ed} (h : edgesB P S M es = true) {i : Nat} (hi : i < es.length) : edB P S M (es.getD i ed0) = true := by
  rw [List.getD_eq_getElem?_getD, List.getElem?_eq_getElem hi]
  exact List.all_eq_true.1 h es[i] (List.getElem_mem hi)
/-- The two ways to say that no two edges of a state have a letter in common. -/
theorem apart_clash {p S M : Nat} {es : List Ed} (hp : p ≤ 6) (h : edgesB p S M es = true) (hb : BitsOK es) : NoHit es es.length ↔ clashB p es es.length = false := by
  have hfr := fun i hi => (from_state h i hi).imp fun f hf => hf.1
  rw [← Bool.not_eq_true, clashB_iff p es es.length hfr]
  constructor
  · rintro hn ⟨i, j, h1, h2, h3, h4⟩
    exact hn i j h1 h2 h3 ((meet_iff hp (edge_ok h (by omega)) (edge_ok h h2) (hb i (by omega)) (hb j h2)).1 h4)
  · intro hn i j h1 h2 h3 h4
    exact hn ⟨i, j, h1, h2, h3, (meet_iff hp (edge_ok h (by omega)) (edge_ok h h2) (hb i (by omega)) (hb j h2)).2 h4⟩

set_option maxRecDepth 100000 in
set_option maxHeartbeats 2000000 in
theorem refOne_any (p S : Nat) (K M : Int) (A E : Option Addr) (n c ne ce : Nat) (st : List Int) (es : List Ed) (w : World) (hst : st.length = n) (hE : EdgesAt w E ne es) (hne : ne ≤ 40000) (hp : p ≤ 6) (hS : S ≤ 3000) (hes : edgesB p S M.toNat es = true) (hb : BitsOK es) :
    Calls Try.prog 10 #[.agg #[.int .i64 p, .int .i64 S, .slice A n c, .int .i64 K, .int .i64 M, .slice E ne ce]] w fun e w' => e = .returned (.bool (decide (st.length = 1) && !clashB p es es.length)) ∧ Below w.heap.size w w' := by
  have hL := hE.1
  have HAP := Lib.hid (fun W (hW : Below w.heap.size w W) => refApart_any p S K M A E n c ne ce es W (hE.below hW) hS hne (fun j hj => from_state hes j (by rw [hL]; exact hj)))
  have HCL := Lib.hid (apart_clash hp hes hb)
  rw [hL] at HCL
  rw [hst, hL]
  clear hE hes hb hL hst
  obtain ⟨cl, hcl, HC⟩ : ∃ cl, clashB p es ne = cl ∧ Hid (clashB p es ne = cl) := ⟨_, rfl, rfl⟩
  rw [hcl] at HCL ⊢
  clear hcl
  by_cases h1 : n = 1
  · subst h1
    go_enter Try.func10, Try.ntmps10
    go_wp2_with fail
    refine (HAP.out _ ((Below.refl _ _).alloc (Nat.le_refl _) _)).mono ?_
    rintro e w1 ⟨r, rfl, hr, hb1⟩
    have HB1 := Lib.hid (boxB hb1)
    obtain rfl : r = !cl := by
      have h2 : (r = true) ↔ cl = false := hr.trans HCL.out
      cases r <;> cases cl <;> simp_all
    clear hr hb1 HCL
    go_wp2_with fail
    go_ret
    exact ⟨ret_bool (by simp), HB1.out⟩
  · have h2 : ((n : Int) == 1) = false := by rw [beq_eq_false_iff_ne]; omega
    have h3 : ¬ (n : Int) = 1 := by omega
    have h4 : decide ((n : Int) = 1) = false := decide_eq_false h3
    go_enter Try.func10, Try.ntmps10
    go_wp2_with fail
    go_ret
    exact ⟨ret_bool (by rw [decide_eq_false h1]; rfl), (Below.refl _ _).alloc (Nat.le_refl _) _⟩

end Go.Proofs.Ytalgbcndifaaiaa.Wd

namespace Go.Proofs.Ytalgbcndifaaiaa.Wd
open Go.RowKit
set_option linter.unusedVariables false

/-- A list of bools in memory. -/
def BoolsAt (w : World) (A : Option Addr) (n : Nat) (F : Nat → Bool) : Prop := n = 0 ∨ ∃ b, A = some ⟨b, 0, none⟩ ∧ RowF w b n F
theorem BoolsAt.below {w w' : World} {A : Option Addr} {n : Nat} {F : Nat → Bool} (h : BoolsAt w A n F) (hb : Below w.heap.size w w') : BoolsAt w' A n F :=
  h.imp id fun ⟨b, e, hr⟩ => ⟨b, e, World.rowIs.of_block hr (hb.block _ hr.lt)⟩
def boolsB (n m : Nat) (F G : Nat → Bool) : Bool := decide (n = m) && (List.range n).all fun i => F i == G i
theorem boolsB_len {n m : Nat} {F G : Nat → Bool} (h : ¬ n = m) : boolsB n m F G = false := by unfold boolsB; rw [decide_eq_false h]; rfl
theorem boolsB_all {n : Nat} {F G : Nat → Bool} (h : ∀ i, i < n → F i = G i) : boolsB n n F G = true := by
  unfold boolsB
  rw [decide_eq_true rfl, Bool.true_and, List.all_eq_true]
  intro i hi
  rw [h i (List.mem_range.1 hi)]
  simp
theorem boolsB_part {n i : Nat} {F G : Nat → Bool} (hi : i < n) (h : ¬ F i = G i) : boolsB n n F G = false := by
  unfold boolsB
  rw [decide_eq_true rfl, Bool.true_and, Bool.eq_false_iff]
  intro ht
  exact h (by simpa using List.all_eq_true.1 ht i (List.mem_range.2 hi))

end Go.Proofs.Ytalgbcndifaaiaa.Wd

namespace Go.Proofs.Ytalgbcndifaaiaa.Wd
open Go.RowKit
set_option linter.unusedVariables false

/-- The Start states of a valid automaton are states. -/
theorem start_state {S : Nat} {st : List Int} (h : startB S st = true) : ∀ j, j < st.length → ∃ s : Nat, st.getD j 0 = (s : Int) ∧ s < S := by
  intro j hj
  have h1 := List.all_eq_true.1 h j (List.mem_range.2 hj)
  have h2 := of_decide_eq_true h1
  have h3 : -1 ≤ prv st j := by
    have key : ∀ k, k ≤ st.length → startP S st k = true := fun k hk => by
      unfold startP
      rw [List.all_eq_true]
      intro i hi
      exact List.all_eq_true.1 h i (List.mem_range.2 (by have := List.mem_range.1 hi; omega))
    exact prv_low (key j (by omega))
  exact ⟨(st.getD j 0).toNat, by omega, by omega⟩
/-- Both ends of a valid automaton's edges are states. -/
theorem ends_state {P M S : Nat} {es : List Ed} (h : edgesB P S M es = true) : ∀ j, j < es.length → ∃ a b : Nat, (es.getD j ed0).f = (a : Int) ∧ (es.getD j ed0).t = (b : Int) ∧ a < S ∧ b < S := by
  intro j hj
  have h1 := of_decide_eq_true (edge_ok h hj)
  exact ⟨(es.getD j ed0).f.toNat, (es.getD j ed0).t.toNat, by omega, by omega, by omega, by omega⟩

/-- What Reach comes to. -/
def ReaR (P S K M : Int) (st : List Int) (es : List Ed) (n : Nat) (F : Nat → Bool) (code : Int) : Prop :=
  (autB P S K M st es = false ∧ n = 0 ∧ code = 1) ∨ (autB P S K M st es = true ∧ n = S.toNat ∧ (∀ i, i < n → (F i = true ↔ Rch st es i)) ∧ code = 0)
theorem ReaR.unique {P S K M : Int} {st : List Int} {es : List Ed} {n n' : Nat} {F F' : Nat → Bool} {c c' : Int} (h : ReaR P S K M st es n F c) (h' : ReaR P S K M st es n' F' c') : boolsB n n' F F' = true ∧ c = c' := by
  rcases h with ⟨a1, rfl, rfl⟩ | ⟨a1, rfl, a2, rfl⟩ <;> rcases h' with ⟨b1, rfl, rfl⟩ | ⟨b1, rfl, b2, rfl⟩
  · exact ⟨boolsB_all (fun i hi => by omega), rfl⟩
  · rw [a1] at b1; cases b1
  · rw [a1] at b1; cases b1
  · refine ⟨boolsB_all (fun i hi => ?_), rfl⟩
    have h1 := (a2 i hi).trans (b2 i hi).symm
    cases hF : F i <;> cases hF' : F' i <;> simp_all
def ResF5 (w w' : World) (P S K M : Int) (st : List Int) (es : List Ed) (e : Ending) : Prop :=
  ∃ A n c F code, e = .returned (.tuple #[.slice A n c, .int .i64 code]) ∧ BoolsAt w' A n F ∧ n ≤ 3000 ∧ Hid (ReaR P S K M st es n F code) ∧ Below w.heap.size w w'

end Go.Proofs.Ytalgbcndifaaiaa.Wd
