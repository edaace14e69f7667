/-
  Walk of package aut, for all automata and words.
-/
import Derived.Test.YtalgbcndifaaiaaF36
import Derived.Test.YtalgbcndifaaiaaWdLeaf
namespace Go.Proofs.Ytalgbcndifaaiaa.Wd
open Go.RowKit Go.Maps
set_option linter.unusedVariables false
set_option linter.unusedSimpArgs false

/-- Is the automaton deterministic? -/
def detB (P : Int) (st : List Int) (es : List Ed) : Bool := decide (st.length = 1) && !clashB P.toNat es es.length
/-- What Walk comes to, where the run comes to Wk. -/
def WalR (P S K M : Int) (st : List Int) (es : List Ed) (sl lp : List Int) (Wk : Nat → Bool → Prop) (x : Int) (d : Bool) (code : Int) : Prop :=
  (autB P S K M st es = false ∧ x = 0 ∧ d = false ∧ code = 1) ∨
  (autB P S K M st es = true ∧ detB P st es = false ∧ x = 0 ∧ d = false ∧ code = 7) ∨
  (autB P S K M st es = true ∧ detB P st es = true ∧ validB P sl lp = false ∧ x = 0 ∧ d = false ∧ code = 2) ∨
  (autB P S K M st es = true ∧ detB P st es = true ∧ validB P sl lp = true ∧ (∃ xn : Nat, x = (xn : Int) ∧ Wk xn d) ∧ code = 0)
theorem WalR.unique {P S K M : Int} {st : List Int} {es : List Ed} {sl lp : List Int} {Wk Wk' : Nat → Bool → Prop} {x x' : Int} {d d' : Bool} {c c' : Int} (hw : validB P sl lp = true → ∀ x x' d d', Wk x d → Wk' x' d' → x = x' ∧ d = d') (h : WalR P S K M st es sl lp Wk x d c) (h' : WalR P S K M st es sl lp Wk' x' d' c') : x = x' ∧ d = d' ∧ c = c' := by
  rcases h with ⟨a1, rfl, rfl, rfl⟩ | ⟨a1, a2, rfl, rfl, rfl⟩ | ⟨a1, a2, a3, rfl, rfl, rfl⟩ | ⟨a1, a2, a3, ⟨xn, rfl, hx⟩, rfl⟩ <;> rcases h' with ⟨b1, rfl, rfl, rfl⟩ | ⟨b1, b2, rfl, rfl, rfl⟩ | ⟨b1, b2, b3, rfl, rfl, rfl⟩ | ⟨b1, b2, b3, ⟨yn, rfl, hy⟩, rfl⟩
  all_goals first
    | exact ⟨rfl, rfl, rfl⟩
    | (rw [a1] at b1; cases b1; done)
    | (rw [a2] at b2; cases b2; done)
    | (rw [a3] at b3; cases b3; done)
    | (obtain ⟨rfl, rfl⟩ := hw a3 _ _ _ _ hx hy; exact ⟨rfl, rfl, rfl⟩)
def ResW (R : Int → Bool → Int → Prop) (w w' : World) (e : Ending) : Prop := ∃ x d code, e = .returned (.tuple #[.int .i64 x, .bool d, .int .i64 code]) ∧ Hid (R x d code) ∧ Below w.heap.size w w'
theorem DetR.bad {P S K M : Int} {st : List Int} {es : List Ed} {r : Bool} {c : Int} (h : DetR P S K M st es r c) (hv : autB P S K M st es = false) : r = false ∧ c = 1 := by
  rcases h with ⟨_, rfl, rfl⟩ | ⟨h1, _⟩
  · exact ⟨rfl, rfl⟩
  · rw [hv] at h1; cases h1
theorem DetR.good {P S K M : Int} {st : List Int} {es : List Ed} {r : Bool} {c : Int} (h : DetR P S K M st es r c) (hv : autB P S K M st es = true) : r = detB P st es ∧ c = 0 := by
  rcases h with ⟨h1, _⟩ | ⟨_, rfl, rfl⟩
  · rw [hv] at h1; cases h1
  · exact ⟨rfl, rfl⟩

theorem marks_small {P S K M : Int} {es : List Ed} (hmk : marksB K M = true) (h : edgesB P.toNat S M.toNat es = true) {j : Nat} (hj : j < es.length) : 0 ≤ (es.getD j ed0).m ∧ (es.getD j ed0).m < 2 ^ 40 := by
  have h1 := of_decide_eq_true (edge_ok h hj)
  have h2 := marksB_few hmk
  obtain ⟨m, rfl⟩ := Int.eq_ofNat_of_zero_le h2.1
  rw [Int.toNat_natCast] at h1
  have h3 : (2 : Int) ^ m ≤ 2 ^ 40 := by
    have h4 : 2 ^ m ≤ 2 ^ 40 := Nat.pow_le_pow_right (by decide) (show m ≤ 40 by omega)
    have h5 : ((2 ^ m : Nat) : Int) ≤ ((2 ^ 40 : Nat) : Int) := Int.ofNat_le.2 h4
    simpa using h5
  exact ⟨h1.2.2.2.2.1, by have := h1.2.2.2.2.2; omega⟩

/-- The box of a word. -/
def Box2 (w : World) (b : Nat) (A : Option Addr) (n c : Nat) (B : Option Addr) (m d : Nat) : Prop := b < w.heap.size ∧ w.cell? ⟨b, 0, none⟩ = some (.slice A n c) ∧ w.cell? ⟨b, 1, none⟩ = some (.slice B m d)
theorem Box2.below {w w' : World} {b : Nat} {A : Option Addr} {n c : Nat} {B : Option Addr} {m d : Nat} (h : Box2 w b A n c B m d) (hb : Below w.heap.size w w') : Box2 w' b A n c B m d :=
  ⟨Nat.lt_of_lt_of_le h.1 hb.size, (hb.cell (p := ⟨b, 0, none⟩) h.1).trans h.2.1, (hb.cell (p := ⟨b, 1, none⟩) h.1).trans h.2.2⟩
theorem Box2.new (w : World) (A : Option Addr) (n c : Nat) (B : Option Addr) (m d : Nat) (t : TypeId) : Box2 (w.alloc (.cells #[.slice A n c, .slice B m d] t)) w.heap.size A n c B m d := ⟨by simp, by rw [box_last]; rfl, by rw [box_last]; rfl⟩
/-- Both boxes. -/
theorem boxes62 (w : World) (P S : Int) (A : Option Addr) (n c : Nat) (K M : Int) (E : Option Addr) (ne ce : Nat) (A' : Option Addr) (n' c' : Nat) (B' : Option Addr) (m' d' : Nat) :
    Below w.heap.size w ((w.alloc (.cells #[.int .i64 P, .int .i64 S, .slice A n c, .int .i64 K, .int .i64 M, .slice E ne ce] 25)).alloc (.cells #[.slice A' n' c', .slice B' m' d'] 27)) ∧
    Box6 ((w.alloc (.cells #[.int .i64 P, .int .i64 S, .slice A n c, .int .i64 K, .int .i64 M, .slice E ne ce] 25)).alloc (.cells #[.slice A' n' c', .slice B' m' d'] 27)) w.heap.size P S A n c K M E ne ce ∧
    Box2 ((w.alloc (.cells #[.int .i64 P, .int .i64 S, .slice A n c, .int .i64 K, .int .i64 M, .slice E ne ce] 25)).alloc (.cells #[.slice A' n' c', .slice B' m' d'] 27)) (w.heap.size + 1) A' n' c' B' m' d' := by
  have h2 := Box2.new (w.alloc (.cells #[.int .i64 P, .int .i64 S, .slice A n c, .int .i64 K, .int .i64 M, .slice E ne ce] 25)) A' n' c' B' m' d' 27
  rw [World.size_alloc] at h2
  exact ⟨((Below.refl _ _).alloc (Nat.le_refl _) _).alloc (by simp) _, (Box6.new w P S A n c K M E ne ce 25).below ((Below.refl _ _).alloc (Nat.le_refl _) _), h2⟩

set_option maxRecDepth 100000 in
set_option maxHeartbeats 4000000 in
theorem walk_bad (P S K M : Int) (A E : Option Addr) (n c ne ce : Nat) (st : List Int) (es : List Ed) (A' B' : Option Addr) (n' c' m' d' : Nat) (sl lp : List Int) (Wk : Nat → Bool → Prop) (w : World) (ha : Ints w A n st) (hn : n ≤ 17592186044416) (he : EdgesAt w E ne es) (hne : ne ≤ 17592186044416)
    (hb : autB P S K M st es = false ∨ (autB P S K M st es = true ∧ detB P st es = false)) :
    Calls Try.prog 16 #[.agg #[.int .i64 P, .int .i64 S, .slice A n c, .int .i64 K, .int .i64 M, .slice E ne ce], .agg #[.slice A' n' c', .slice B' m' d']] w fun e w' => ResW (WalR P S K M st es sl lp Wk) w w' e := by
  have HD := Lib.hid (fun W (hW : Below w.heap.size w W) => det_any P S K M A E n c ne ce st es W (ha.below hW) hn (he.below hW) hne)
  obtain ⟨hB0, hx6, hx2⟩ := boxes62 w P S A n c K M E ne ce A' n' c' B' m' d'
  have HB0 := Lib.hid hB0
  have HBAD := Lib.hid hb
  clear ha he hb hB0 hx6 hx2
  go_enter Try.func16, Try.ntmps16
  go_wp2_with fail
  refine (HD.out _ HB0.out).mono ?_
  rintro x w1 ⟨r, code, rfl, hR, hb1⟩
  have HB1 := Lib.hid (HB0.out.trans (hb1.mono HB0.out.size))
  clear hb1
  rcases HBAD.out with hv | ⟨hv, hd⟩
  · obtain ⟨rfl, rfl⟩ := hR.out.bad hv
    have HF := Lib.hid (show WalR P S K M st es sl lp Wk 0 false 1 from .inl ⟨hv, rfl, rfl, rfl⟩)
    clear hv
    go_wp2_with fail
    go_ret3
    exact ⟨0, false, 1, rfl, HF, HB1.out⟩
  · obtain ⟨hr, rfl⟩ := hR.out.good hv
    rw [hd] at hr
    subst hr
    have HF := Lib.hid (show WalR P S K M st es sl lp Wk 0 false 7 from .inr (.inl ⟨hv, hd, rfl, rfl, rfl⟩))
    clear hv hd
    go_wp2_with fail
    go_ret3
    exact ⟨0, false, 7, rfl, HF, HB1.out⟩

set_option maxRecDepth 100000 in
set_option maxHeartbeats 8000000 in
theorem walk_good (p S : Nat) (K M : Int) (A E : Option Addr) (n c ne ce : Nat) (st : List Int) (es : List Ed) (A' B' : Option Addr) (n' c' m' d' : Nat) (sl lp : List Int) (w : World) (ha : Ints w A n st) (hn : n ≤ 17592186044416) (he : EdgesAt w E ne es) (hne : ne ≤ 17592186044416) (hx : Ints w A' n' sl) (hy : Ints w B' m' lp) (hn' : n' ≤ 100000) (hm' : m' ≤ 100000)
    (hv : autB p S K M st es = true) (hd : detB p st es = true) :
    Calls Try.prog 16 #[.agg #[.int .i64 p, .int .i64 S, .slice A n c, .int .i64 K, .int .i64 M, .slice E ne ce], .agg #[.slice A' n' c', .slice B' m' d']] w fun e w' => ResW (WalR p S K M st es sl lp (WalkA es (at_ sl lp) (st.getD 0 0).toNat n' m' S)) w w' e := by
  obtain ⟨⟨_, _, _, hS3, _⟩, hmk, hst, hes4, h7⟩ := autB_true hv
  have hne4 : ne ≤ 40000 := by rw [← he.1]; exact hes4
  have hd1 : st.length = 1 := by unfold detB at hd; rw [Bool.and_eq_true] at hd; exact of_decide_eq_true hd.1
  obtain rfl : n = 1 := by rw [← ha.1]; exact hd1
  obtain ⟨s0, hs0, hs0S⟩ := start_state hst 0 (by omega)
  have hends := fun j (hj : j < ne) => ends_state h7 j (by rw [he.1]; exact hj)
  have hmarks := fun j (hj : j < ne) => marks_small hmk h7 (by rw [he.1]; exact hj)
  have e0 : (st.getD 0 0).toNat = s0 := by omega
  rw [e0]
  have HD := Lib.hid (fun W (hW : Below w.heap.size w W) => det_any p S K M A E 1 c ne ce st es W (ha.below hW) hn (he.below hW) hne)
  have HV := Lib.hid (fun W (hW : Below w.heap.size w W) => valid_any A' B' n' c' m' d' p sl lp W (hx.below hW) (hy.below hW) hn' hm')
  have HNW := Lib.hid (fun W (hW : Below w.heap.size w W) => newWalker_any p S K M A E c ne ce st es s0 W (ha.below hW) hs0 hs0S (he.below hW) (by omega) hne4 (fun j hj => (hends j hj).imp fun a h => ⟨h.choose_spec.1, h.choose_spec.2.2.1⟩))
  have HWK := Lib.hid (fun W0 (h0 : Below w.heap.size w W0) W (hW : Below W0.heap.size W0 W) r lo hi V (hk : WkS W r lo hi S V E ne ce es (some s0)) (hr : W0.heap.size ≤ r) (hl2 : ∀ k j, j < m' → at_ sl lp (n' + k * m' + j) = lp.getD j 0) => walk_run (at_ sl lp) s0 r lo hi S V E ne ce es A' B' n' c' m' d' sl lp W0.heap.size W hk hr (fun W' h => (he.below h0).below (hW.trans h)) (fun W' h => (hx.below h0).below (hW.trans h)) (fun W' h => (hy.below h0).below (hW.trans h)) hn' hm' hne4 (by omega) (fun j hj => by rw [Nat.zero_add]; exact at_lt (by rw [hx.1]; exact hj)) hl2 hends hmarks)
  have HL2 := Lib.hid (show validB p sl lp = true → ∀ k j, j < m' → at_ sl lp (n' + k * m' + j) = lp.getD j 0 from fun hvb k j hj => by
    have h1 := hx.1
    have h2 := hy.1
    rw [at_ge (by omega), h1, h2, show n' + k * m' + j - n' = j + m' * k by rw [Nat.mul_comm m' k]; omega, Nat.add_mul_mod_self_left, Nat.mod_eq_of_lt hj])
  obtain ⟨hB0, hx6, hx2⟩ := boxes62 w p S A 1 c K M E ne ce A' n' c' B' m' d'
  have HB0 := Lib.hid hB0
  have HX6 := Lib.hid hx6
  have HX2 := Lib.hid hx2
  have HVV := Lib.hid hv
  have HDD := Lib.hid hd
  clear ha he hx hy hv hd hB0 hx6 hx2 hmk hst hes4 h7 hends hmarks hs0 e0 hd1
  cases hvb : validB p sl lp
  all_goals
    rw [hvb] at HV
    have HVB := Lib.hid hvb
    clear hvb
    go_enter Try.func16, Try.ntmps16
    go_wp2_with fail
    refine (HD.out _ HB0.out).mono ?_
    rintro x w1 ⟨r, code, rfl, hR, hb1⟩
    have HB1 := Lib.hid (HB0.out.trans (hb1.mono HB0.out.size))
    have HX61 := Lib.hid (HX6.out.below hb1)
    have HX21 := Lib.hid (HX2.out.below hb1)
    obtain ⟨hr, rfl⟩ := hR.out.good HVV.out
    rw [HDD.out] at hr
    subst hr
    obtain ⟨hz, p0, p1, p2, p3, p4, p5⟩ := HX61.out
    obtain ⟨hz2, r0, r1⟩ := HX21.out
    clear hb1 hR HD HX6 HX2 HB0
    go_wp2_with fail
    refine (HV.out _ HB1.out).mono ?_
    rintro x w2 ⟨rfl, hb2⟩
    have HB2 := Lib.hid (HB1.out.trans (hb2.mono HB1.out.size))
    have HX62 := Lib.hid (HX61.out.below hb2)
    have HX22 := Lib.hid (HX21.out.below hb2)
    clear hb2 hz p0 p1 p2 p3 p4 p5 hz2 r0 r1 HX61 HX21 HB1 HV
    go_wp2_with fail
  · go_ret3
    exact ⟨0, false, 2, rfl, .inr (.inr (.inl ⟨HVV.out, HDD.out, HVB.out, rfl, rfl, rfl⟩)), HB2.out⟩
  · have HL3 := Lib.hid (HL2.out HVB.out)
    have HS := Lib.hid (show ∀ V, Below w2.heap.size w2 V → (V.cell? ⟨w.heap.size, 0, none⟩ = some (.int .i64 p) ∧ V.cell? ⟨w.heap.size, 1, none⟩ = some (.int .i64 S) ∧ V.cell? ⟨w.heap.size, 2, none⟩ = some (.slice A 1 c) ∧ V.cell? ⟨w.heap.size, 3, none⟩ = some (.int .i64 K) ∧ V.cell? ⟨w.heap.size, 4, none⟩ = some (.int .i64 M) ∧ V.cell? ⟨w.heap.size, 5, none⟩ = some (.slice E ne ce)) ∧ (V.cell? ⟨w.heap.size + 1, 0, none⟩ = some (.slice A' n' c') ∧ V.cell? ⟨w.heap.size + 1, 1, none⟩ = some (.slice B' m' d')) from fun V hV => ⟨(HX62.out.below hV).2, (HX22.out.below hV).2⟩)
    clear HX62 HX22
    go_region_held3 (fun V => (V.cell? ⟨w.heap.size, 0, none⟩ = some (.int .i64 p) ∧ V.cell? ⟨w.heap.size, 1, none⟩ = some (.int .i64 S) ∧ V.cell? ⟨w.heap.size, 2, none⟩ = some (.slice A 1 c) ∧ V.cell? ⟨w.heap.size, 3, none⟩ = some (.int .i64 K) ∧ V.cell? ⟨w.heap.size, 4, none⟩ = some (.int .i64 M) ∧ V.cell? ⟨w.heap.size, 5, none⟩ = some (.slice E ne ce)) ∧ (V.cell? ⟨w.heap.size + 1, 0, none⟩ = some (.slice A' n' c') ∧ V.cell? ⟨w.heap.size + 1, 1, none⟩ = some (.slice B' m' d')))
      (first
        | exact HS.out _ k2
        | exact HS.out _ k1
        | exact HS.out _ ((Below.refl w2.heap.size w2).drew))
      (first
        | (go_at_call 36; refine (HWK.out w2 HB2.out _ k1 r lo hi V h3 (by have h4 := h3.far; omega) HL3.out).mono ?_; rintro x z2 ⟨xn, d, rfl, hW2, b2⟩; have k2 : Below w2.heap.size w2 z2 := k1.trans b2; have HWW := Lib.hid hW2; clear hW2)
        | (go_at_call 35; refine (HNW.out _ HB2.out.drew).mono ?_; rintro x z1 ⟨r, lo, hi, V, rfl, h1, h2, h3, b1⟩; have k1 : Below w2.heap.size w2 z1 := ((Below.refl _ _).drew).trans b1; have h1' : w2.heap.size ≤ lo := h1; clear h1)
        | fail)
    go_wp2_with fail
    go_ret3
    exact ⟨_, d, 0, rfl, .inr (.inr (.inr ⟨HVV.out, HDD.out, HVB.out, ⟨xn, rfl, HWW.out⟩, rfl⟩)), HB2.out.trans (k2.mono HB2.out.size)⟩

end Go.Proofs.Ytalgbcndifaaiaa.Wd
