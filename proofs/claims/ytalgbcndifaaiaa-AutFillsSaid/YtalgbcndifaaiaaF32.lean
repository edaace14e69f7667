/-
  Ways of the reference: which marks a loop may not meet and which ones it has to meet, for the kinds that GoodBoth decides.
  GoodBoth and Good: from which nodes an endless path starts that is accepted.
  Which sets of marks a kind accepts, by ways. No program is looked at here.
-/
import Derived.Test.YtalgbcndifaaiaaF31
import Derived.BigQuiet
import Derived.Deep.QuietTactic
import Derived.Test.YtalgbcndifaaiaaAtAccepts2
namespace Go.Proofs.Ytalgbcndifaaiaa.Wd
open Go.RowKit Go.Deep
set_option linter.unusedVariables false
set_option linter.unusedSimpArgs false

structure Cl where
  n : Nat
  a : Nat
def cl0 : Cl := ⟨0, 0⟩
def clV (x : Cl) : List Value := [.int .i64 x.n, .int .i64 x.a]
def clsV (l : List Cl) : List Value := l.flatMap clV
theorem clsV_cons (e : Cl) (l : List Cl) : clsV (e :: l) = clV e ++ clsV l := rfl
theorem clsV_app (l r : List Cl) : clsV (l ++ r) = clsV l ++ clsV r := by unfold clsV; rw [List.flatMap_append]
theorem clsV_snoc (l : List Cl) (e : Cl) : clsV (l ++ [e]) = clsV l ++ clV e := by rw [clsV_app]; simp [clsV]
theorem clV_one (x : Cl) : ∀ u ∈ clV x, u.oneCell' = true := by
  intro u hu
  simp only [clV, List.mem_cons, List.not_mem_nil, or_false] at hu
  rcases hu with rfl | rfl <;> rfl
theorem clsV_at (l : List Cl) (u k : Nat) (hu : u < l.length) (hk : k < 2) : (clsV l)[u * 2 + k]? = (clV (l.getD u cl0))[k]? := by
  induction l generalizing u with
  | nil => simp at hu
  | cons e l ih =>
    rw [clsV_cons]
    cases u with
    | zero =>
      rw [List.getElem?_append_left (by show 0 * 2 + k < 2; omega)]
      simp
    | succ u =>
      rw [List.getElem?_append_right (by show 2 ≤ _; omega)]
      show (clsV l)[(u + 1) * 2 + k - 2]? = _
      rw [show (u + 1) * 2 + k - 2 = u * 2 + k by omega, ih u (by simpa using hu)]
      simp
theorem cl_info : (Try.prog.info? 95).map (fun i => (i.zero, i.size, i.bytes)) = some (some (.agg #[.int .i64 0, .int .i64 0]), 2, 16) := by kernel_rfl
theorem one_cl (w : World) (x : Cl) (t : TypeId) : ∀ j u, (clV x)[j]? = some u → (w.alloc (.cells #[.int .i64 x.n, .int .i64 x.a] t)).cell? ((⟨w.heap.size, 0, none⟩ : Addr).add j) = some u := by
  intro j u hu
  rw [Addr.add_lit, Nat.zero_add, box_last]
  simpa [clV] using hu
/-- Clauses in memory. -/
def ClsAt (w : World) (A : Option Addr) (k : Nat) (l : List Cl) : Prop :=
  l.length = k ∧ (0 < k → ∃ b, A = some ⟨b, 0, none⟩ ∧ b < w.heap.size ∧ ∀ j, j < k → w.cell? ⟨b, j * 2, none⟩ = some (.int .i64 (l.getD j cl0).n) ∧ w.cell? ⟨b, j * 2 + 1, none⟩ = some (.int .i64 (l.getD j cl0).a))
theorem ClsAt.below {w w' : World} {A : Option Addr} {k : Nat} {l : List Cl} (h : ClsAt w A k l) (hb : Below w.heap.size w w') : ClsAt w' A k l := ⟨h.1, fun hn => by
  obtain ⟨b, e, h2, hc⟩ := h.2 hn
  exact ⟨b, e, Nat.lt_of_lt_of_le h2 hb.size, fun j hj => ⟨(hb.cell (p := ⟨b, j * 2, none⟩) h2).trans (hc j hj).1, (hb.cell (p := ⟨b, j * 2 + 1, none⟩) h2).trans (hc j hj).2⟩⟩⟩
theorem ClsAt.of_own {w : World} {B k cap : Nat} {A : Option Addr} {l : List Cl} (h : w.ownsRow B 95 2 (.slice A k cap) k (clsV l)) (hl : l.length = k) : ClsAt w A k l := by
  refine ⟨hl, fun hn => ?_⟩
  rcases h.2 with ⟨he, h0⟩ | ⟨g, cap', cur, hv, hb, _⟩
  · omega
  · injection hv with hv _ _
    subst hv
    have hg : Value.ownBlock (.slice (some ⟨g, 0, none⟩) k cap) = some g := by simp [Value.ownBlock]
    refine ⟨g, rfl, (h.lt g hg).2, fun j hj => ?_⟩
    have key : ∀ q, q < 2 → ∀ x, (clV (l.getD j cl0))[q]? = some x → w.cell? ⟨g, j * 2 + q, none⟩ = some x := fun q hq x hx => by
      have := h.cells hg (j * 2 + q) x (by rw [clsV_at l j q (by omega) hq]; exact hx)
      rw [Addr.add_lit] at this
      simpa using this
    exact ⟨key 0 (by omega) _ rfl, key 1 (by omega) _ rfl⟩
theorem ClsAt.lit (w : World) (x : Cl) : ClsAt (w.alloc (.cells #[.int .i64 x.n, .int .i64 x.a] 95)) (some ⟨w.heap.size, 0, none⟩) 1 [x] := ⟨rfl, fun _ => ⟨w.heap.size, rfl, by simp, fun j hj => by
  obtain rfl : j = 0 := by omega
  exact ⟨box_last w _ _ 0, box_last w _ _ 1⟩⟩⟩

/-- The first k pairs. -/
def someL : Nat → List Cl
  | 0 => []
  | k + 1 => someL k ++ [⟨2 ^ (2 * k), 2 ^ (2 * k + 1)⟩]
theorem someL_len (k : Nat) : (someL k).length = k := by
  induction k with
  | zero => rfl
  | succ k ih => rw [someL, List.length_append, ih]; rfl
theorem someL_mem {k : Nat} {x : Cl} : x ∈ someL k ↔ ∃ j, j < k ∧ x = ⟨2 ^ (2 * j), 2 ^ (2 * j + 1)⟩ := by
  induction k with
  | zero => simp [someL]
  | succ k ih =>
    rw [someL, List.mem_append, ih, List.mem_singleton]
    constructor
    · rintro (⟨j, h1, h2⟩ | rfl)
      · exact ⟨j, by omega, h2⟩
      · exact ⟨k, by omega, rfl⟩
    · rintro ⟨j, h1, h2⟩
      by_cases e : j = k
      · subst e; exact .inr h2
      · exact .inl ⟨j, by omega, h2⟩
theorem shl_one {i : Nat} (hi : i ≤ 41) : IntKind.i64.wrap ((2 : Int) ^ i) = ((2 ^ i : Nat) : Int) := by
  have h : ∀ k : Fin 42, IntKind.i64.wrap ((2 : Int) ^ k.val) = ((2 ^ k.val : Nat) : Int) := by decide +kernel
  exact h ⟨i, by omega⟩
theorem low_mask {i : Nat} (hi : i ≤ 41) : IntKind.i64.wrap ((2 : Int) ^ i - 1) = ((2 ^ i - 1 : Nat) : Int) := by
  have h : ∀ k : Fin 42, IntKind.i64.wrap ((2 : Int) ^ k.val - 1) = ((2 ^ k.val - 1 : Nat) : Int) := by decide +kernel
  exact h ⟨i, by omega⟩

set_option maxRecDepth 100000 in
set_option maxHeartbeats 4000000 in
theorem some_any (K M : Nat) (hK : K ≤ 20) (hM : M = 2 * K) (w : World) : Calls Try.prog 72 #[.int .i64 M] w fun e w' => ∃ A c, e = .returned (.slice A K c) ∧ ClsAt w' A K (someL K) ∧ Below w.heap.size w w' := by
  obtain ⟨i0, hi, hi0, hi1, hi2⟩ := info_parts cl_info
  have HMK := Lib.hid hM
  have hM40 : M ≤ 40 := by omega
  clear hM
  go_enter Try.func72, Try.ntmps72
  go_wp2_with fail
  go_loopg [3, 4] K (fun g v iv wx => ∃ k i : Nat, k + g = K ∧ Hid (i = 2 * k) ∧ i ≤ M ∧ iv = .int .i64 i ∧ Hid (wx.ownsRow w.heap.size 95 2 v k (clsV (someL k))) ∧ Hid (Below w.heap.size w wx))
  case atStart => exact ⟨0, 0, by omega, rfl, by omega, rfl, World.ownsRow_nil _ _ _ _, Below.refl _ _⟩
  case round =>
    obtain ⟨k, i, hkg, HIK, hiM, rfl, HO, HBx⟩ := hrel
    have h0 : (0 : Int) ≤ (i : Int) := by omega
    cases gk with
    | zero =>
      obtain rfl : K = k := by omega
      have hiM2 : i = M := by have := HIK.out; have := HMK.out; omega
      subst hiM2
      obtain ⟨A, c, hv, _⟩ := own_any HO.out
      subst hv
      go_wp2_with fail
      go_ret
      exact ⟨A, c, rfl, ClsAt.of_own HO.out (someL_len K), HBx.out⟩
    | succ q =>
      have hiM2 : i < M := by have := HIK.out; have := HMK.out; omega
      have hiM3 : (i : Int) < (M : Int) := by omega
      have e1 := shl_one (i := i) (by omega)
      have e2 := two_shl (i := i) (by omega)
      have HX := Lib.hid (show someL (k + 1) = someL k ++ [⟨2 ^ i, 2 ^ (i + 1)⟩] by rw [HIK.out]; rfl)
      generalize 2 ^ (i + 1) = P2 at *
      generalize hP1 : (2 : Nat) ^ i = P1 at *
      clear hP1
      go_wp2_with fail
      refine wp_region_until_drew (st := []) (S := fun _ => True) (by kernel_rfl) True.intro (fun hHeld => ?_)
      refine wpAnyU_pure (i := 0) (v := ?vo0) rfl (by kernel_rfl) (by kernel_rfl) (by kernel_rfl) (by kernel_rfl) (fun _ _ _ h => h) (Or.inl ⟨by rfl, fun V _ => ?hyo0⟩) (fun _ => hHeld) ?resto0
      case hyo0 => go_simp; try with_reducible rfl
      try simp only [Act.put, List.getElem_toArray, List.getElem_cons_zero, List.getElem_cons_succ, List.setIfInBounds_toArray, List.set_cons_zero, List.set_cons_succ]
      refine wpAnyU_pure (i := 1) (v := ?vo1) rfl (by kernel_rfl) (by kernel_rfl) (by kernel_rfl) (by kernel_rfl) (fun _ _ _ h => h) (Or.inl ⟨by rfl, fun V _ => ?hyo1⟩) (fun _ => hHeld) ?resto1
      case hyo1 => go_simp; try with_reducible rfl
      try simp only [Act.put, List.getElem_toArray, List.getElem_cons_zero, List.getElem_cons_succ, List.setIfInBounds_toArray, List.set_cons_zero, List.set_cons_succ]
      refine wpAnyU_pure (i := 2) (v := ?vo2) rfl (by kernel_rfl) (by kernel_rfl) (by kernel_rfl) (by kernel_rfl) (fun _ _ _ h => h) (Or.inl ⟨by rfl, fun V _ => ?hyo2⟩) (fun _ => hHeld) ?resto2
      case hyo2 => go_simp; try with_reducible rfl
      try simp only [Act.put, List.getElem_toArray, List.getElem_cons_zero, List.getElem_cons_succ, List.setIfInBounds_toArray, List.set_cons_zero, List.set_cons_succ]
      refine wpAnyU_pure (i := 3) (v := ?vo3) rfl (by kernel_rfl) (by kernel_rfl) (by kernel_rfl) (by kernel_rfl) (fun _ _ _ h => h) (Or.inl ⟨by rfl, fun V _ => ?hyo3⟩) (fun _ => hHeld) ?resto3
      case hyo3 => go_simp; try with_reducible rfl
      try simp only [Act.put, List.getElem_toArray, List.getElem_cons_zero, List.getElem_cons_succ, List.setIfInBounds_toArray, List.set_cons_zero, List.set_cons_succ]
      refine wpAnyU_pure (i := 4) (v := ?vo4) rfl (by kernel_rfl) (by kernel_rfl) (by kernel_rfl) (by kernel_rfl) (fun _ _ _ h => h) (Or.inl ⟨by rfl, fun V _ => ?hyo4⟩) (fun _ => hHeld) ?resto4
      case hyo4 => go_simp; try with_reducible rfl
      try simp only [Act.put, List.getElem_toArray, List.getElem_cons_zero, List.getElem_cons_succ, List.setIfInBounds_toArray, List.set_cons_zero, List.set_cons_succ]
      refine wpAnyU_pure (i := 5) (v := ?vo5) rfl (by kernel_rfl) (by kernel_rfl) (by kernel_rfl) (by kernel_rfl) (fun _ _ _ h => h) (Or.inl ⟨by rfl, fun V _ => ?hyo5⟩) (fun _ => hHeld) ?resto5
      case hyo5 => go_simp; try with_reducible rfl
      try simp only [Act.put, List.getElem_toArray, List.getElem_cons_zero, List.getElem_cons_succ, List.setIfInBounds_toArray, List.set_cons_zero, List.set_cons_succ]
      refine wpAnyU_ready (rs := [6]) (by kernel_rfl) (by simp) (AllU.cons (i := 6) rfl (fun K hK => ?_) AllU.nil)
      simp only [List.getElem_toArray, List.getElem_cons_zero, List.getElem_cons_succ]
      go_simp
      refine hK.out _ _ (fun _ => True.intro) ?_
      clear hK K
      refine wpAnyU_ready (rs := [7]) (by kernel_rfl) (by simp) (AllU.cons (i := 7) rfl (fun K hK => ?_) AllU.nil)
      refine step_append_cells _ (by rfl) _ _ _ (by rfl) w.heap.size 95 2 16 i0 _ Try.underlying99 hi hi0 hi1 hi2 rfl (by decide) u3 k (clsV (someL k)) (by rfl) (by exact (own_keep HO.out (((Below.refl _ _).alloc (Nat.le_refl _) _).drew))) ⟨wr.heap.size, 0, none⟩ 1 1 (clV ⟨P1, P2⟩) (by rfl) (by rfl) (by exact one_cl wr ⟨P1, P2⟩ _) (by exact clV_one _) (by omega) (by decide) (by exact (HBx.out.alloc HBx.out.size _).size) ?_
      intro v' w4 hown hgrow _
      have HB4 := Lib.hid ((HBx.out.alloc HBx.out.size (.cells #[.int .i64 P1, .int .i64 P2] 95)).drew.trans (below_own (own_keep HO.out (((Below.refl _ _).alloc (Nat.le_refl _) _).drew)) hgrow (HBx.out.alloc HBx.out.size _).size))
      have HO4 := Lib.hid hown
      clear hown hgrow
      refine hK.out _ _ (fun _ => True.intro) ?_
      clear hK K
      refine wpAnyU_pure (i := 8) (v := ?vq8) rfl (by kernel_rfl) (by kernel_rfl) (by kernel_rfl) (by kernel_rfl) (fun _ _ _ h => h) (Or.inl ⟨by rfl, fun V _ => ?hyq8⟩) (fun _ => hHeld) ?restq8
      case hyq8 => go_simp; try with_reducible rfl
      try simp only [Act.put, List.getElem_toArray, List.getElem_cons_zero, List.getElem_cons_succ, List.setIfInBounds_toArray, List.set_cons_zero, List.set_cons_succ]
      refine wpAnyU_done (by kernel_rfl) ?_ _
      clear hHeld
      go_wp2_with fail
      go_roundg q
      case measure => omega
      case rel => exact ⟨k + 1, i + 2, by omega, (by have := HIK.out; show _ = _; omega), by have := HIK.out; have := HMK.out; omega, by go_num, (by rw [HX.out, clsV_snoc]; exact HO4.out), HB4.out⟩

/-- The marks from m + 1 on. -/
def aboveN (m M : Nat) : Nat := lessN (2 ^ M - 1) (2 ^ (m + 1) - 1)
theorem above_any (m M : Nat) (hm : m ≤ 40) (hM : M ≤ 40) (w : World) : Calls Try.prog 74 #[.int .i64 m, .int .i64 M] w fun e w' => ∃ k, e = .returned (.int .i64 (aboveN m M : Nat)) ∧ w' = w.drewN k := by
  have e1 := shl_one (i := M) (by omega)
  have e2 := shl_one (i := m + 1) (by omega)
  have l1 : ((2 ^ M : Nat) : Int) - 1 = ((2 ^ M - 1 : Nat) : Int) := by have := Nat.two_pow_pos M; omega
  have l2 : ((2 ^ (m + 1) : Nat) : Int) - 1 = ((2 ^ (m + 1) - 1 : Nat) : Int) := by have := Nat.two_pow_pos (m + 1); omega
  have b1 : (2 ^ M - 1 : Nat) < 2 ^ 62 := by have : 2 ^ M ≤ 2 ^ 40 := Nat.pow_le_pow_right (by decide) hM; omega
  have b2 : (2 ^ (m + 1) - 1 : Nat) < 2 ^ 62 := by have : 2 ^ (m + 1) ≤ 2 ^ 41 := Nat.pow_le_pow_right (by decide) (by omega); omega
  have e3 := andNot_i64 (2 ^ M - 1) (2 ^ (m + 1) - 1) b1
  have HX := Lib.hid (show lessN (2 ^ M - 1) (2 ^ (m + 1) - 1) = aboveN m M from rfl)
  have hm1 : IntKind.i64.wrap ((m : Int) + 1) = (m : Int) + 1 := by rw [IntKind.wrap_i64]; omega
  have hm2 : ((m : Int) + 1).toNat = m + 1 := by omega
  have hm3 : (0 : Int) ≤ (m : Int) + 1 := by omega
  have hM3 : (0 : Int) ≤ (M : Int) := by omega
  have w1 : IntKind.i64.wrap (((2 ^ M : Nat) : Int) - 1) = ((2 ^ M - 1 : Nat) : Int) := by rw [l1, IntKind.wrap_i64]; omega
  have w2 : IntKind.i64.wrap (((2 ^ (m + 1) : Nat) : Int) - 1) = ((2 ^ (m + 1) - 1 : Nat) : Int) := by rw [l2, IntKind.wrap_i64]; omega
  rw [HX.out] at e3
  generalize aboveN m M = R at *
  generalize hA : (2 ^ M - 1 : Nat) = A at *
  generalize hB : (2 ^ (m + 1) - 1 : Nat) = B at *
  generalize hC : (2 ^ M : Nat) = C at *
  generalize hD : (2 ^ (m + 1) : Nat) = D at *
  clear hA hB hC hD l1 l2 b1 b2 HX
  go_enter Try.func74, Try.ntmps74
  go_wp2_with fail
  go_quiet (fail)
  go_wp2_with fail
  go_ret
  exact ⟨_, rfl, rfl⟩

/-- The ways of a kind, by the reference. -/
def parL (M : Nat) : Nat → List Cl
  | 0 => []
  | m + 1 => if m % 2 = 0 then parL M m ++ [⟨aboveN m M, 2 ^ m⟩] else parL M m
theorem parL_len (M k : Nat) : (parL M k).length ≤ k := by
  induction k with
  | zero => exact Nat.le_refl _
  | succ k ih =>
    unfold parL
    split
    · rw [List.length_append]; show _ + 1 ≤ _; omega
    · omega
theorem parL_mem {M k : Nat} {x : Cl} : x ∈ parL M k ↔ ∃ m, m < k ∧ m % 2 = 0 ∧ x = ⟨aboveN m M, 2 ^ m⟩ := by
  induction k with
  | zero => simp [parL]
  | succ k ih =>
    unfold parL
    split
    · rename_i h
      rw [List.mem_append, ih, List.mem_singleton]
      constructor
      · rintro (⟨j, h1, h2⟩ | rfl)
        · exact ⟨j, by omega, h2⟩
        · exact ⟨k, by omega, h, rfl⟩
      · rintro ⟨j, h1, h2, h3⟩
        by_cases e : j = k
        · subst e; exact .inr h3
        · exact .inl ⟨j, by omega, h2, h3⟩
    · rename_i h
      rw [ih]
      constructor
      · rintro ⟨j, h1, h2⟩; exact ⟨j, by omega, h2⟩
      · rintro ⟨j, h1, h2, h3⟩
        by_cases e : j = k
        · subst e; exact absurd h2 h
        · exact ⟨j, by omega, h2, h3⟩
def waysL (kind M : Nat) : List Cl := if kind = 0 then [⟨0, 1⟩] else if kind = 1 then [⟨0, 2 ^ M - 1⟩] else if kind = 2 then [⟨1, 0⟩] else if kind = 3 then someL (M / 2) else parL M M
def ResWy (w w' : World) (kind M : Nat) (e : Ending) : Prop := ∃ A c, e = .returned (.slice A (waysL kind M).length c) ∧ ClsAt w' A (waysL kind M).length (waysL kind M) ∧ Below w.heap.size w w'

set_option maxHeartbeats 4000000 in
theorem ways_0 (M : Nat) (hM : M ≤ 40) (w : World) : Calls Try.prog 49 #[.int .i64 0, .int .i64 M, .bool true] w fun e w' => ResWy w w' 0 M e := by
  have HX := Lib.hid (show waysL 0 M = [⟨0, 1⟩] from rfl)
  have e1 := shl_one (i := M) (by omega)
  have hM3 : (0 : Int) ≤ (M : Int) := by omega
  generalize 2 ^ M = C at *
  go_enter Try.func49, Try.ntmps49
  go_wp2_with fail
  go_ret
  exact ⟨_, _, (by rw [HX.out]; rfl), (by rw [HX.out]; exact ClsAt.lit w ⟨0, 1⟩), (Below.refl _ _).alloc (Nat.le_refl _) _⟩
set_option maxHeartbeats 4000000 in
theorem ways_2 (M : Nat) (hM : M ≤ 40) (w : World) : Calls Try.prog 49 #[.int .i64 2, .int .i64 M, .bool true] w fun e w' => ResWy w w' 2 M e := by
  have HX := Lib.hid (show waysL 2 M = [⟨1, 0⟩] from rfl)
  have e1 := shl_one (i := M) (by omega)
  have hM3 : (0 : Int) ≤ (M : Int) := by omega
  generalize 2 ^ M = C at *
  go_enter Try.func49, Try.ntmps49
  go_wp2_with fail
  go_ret
  exact ⟨_, _, (by rw [HX.out]; rfl), (by rw [HX.out]; exact ClsAt.lit w ⟨1, 0⟩), (Below.refl _ _).alloc (Nat.le_refl _) _⟩
set_option maxHeartbeats 4000000 in
theorem ways_1 (M : Nat) (hM : M ≤ 40) (w : World) : Calls Try.prog 49 #[.int .i64 1, .int .i64 M, .bool true] w fun e w' => ResWy w w' 1 M e := by
  have e1 := shl_one (i := M) (by omega)
  have hM3 : (0 : Int) ≤ (M : Int) := by omega
  have l1 : IntKind.i64.wrap (((2 ^ M : Nat) : Int) - 1) = ((2 ^ M - 1 : Nat) : Int) := by have := Nat.two_pow_pos M; have : 2 ^ M ≤ 2 ^ 40 := Nat.pow_le_pow_right (by decide) hM; rw [IntKind.wrap_i64]; omega
  have HX := Lib.hid (show waysL 1 M = [⟨0, 2 ^ M - 1⟩] from rfl)
  generalize hA : (2 ^ M - 1 : Nat) = A at *
  generalize 2 ^ M = C at *
  clear hA
  go_enter Try.func49, Try.ntmps49
  go_wp2_with fail
  go_ret
  exact ⟨_, _, (by rw [HX.out]; rfl), (by rw [HX.out]; exact ClsAt.lit w ⟨0, A⟩), (Below.refl _ _).alloc (Nat.le_refl _) _⟩
set_option maxHeartbeats 4000000 in
theorem ways_3 (M : Nat) (hM : M ≤ 40) (hev : M % 2 = 0) (w : World) : Calls Try.prog 49 #[.int .i64 3, .int .i64 M, .bool true] w fun e w' => ResWy w w' 3 M e := by
  have e1 := shl_one (i := M) (by omega)
  have hM3 : (0 : Int) ≤ (M : Int) := by omega
  have HX := Lib.hid (show waysL 3 M = someL (M / 2) from rfl)
  have HS := Lib.hid (fun w => some_any (M / 2) M (by omega) (by omega) w)
  generalize 2 ^ M = C at *
  go_enter Try.func49, Try.ntmps49
  go_wp2_with fail
  refine (HS.out _).mono ?_
  rintro e w1 ⟨A, c, rfl, hc, hb⟩
  have HC := Lib.hid hc
  clear hc
  go_wp2_with fail
  go_ret
  exact ⟨A, c, (by rw [HX.out, someL_len]; rfl), (by rw [HX.out, someL_len]; exact HC.out), hb⟩
set_option maxRecDepth 100000 in
set_option maxHeartbeats 4000000 in
theorem ways_5 (M : Nat) (hM : M ≤ 40) (w : World) : Calls Try.prog 49 #[.int .i64 5, .int .i64 M, .bool true] w fun e w' => ResWy w w' 5 M e := by
  obtain ⟨i0, hi, hi0, hi1, hi2⟩ := info_parts cl_info
  have e1 := shl_one (i := M) (by omega)
  have hM3 : (0 : Int) ≤ (M : Int) := by omega
  have HX := Lib.hid (show waysL 5 M = parL M M from rfl)
  generalize 2 ^ M = C at *
  go_enter Try.func49, Try.ntmps49
  go_wp2_with fail
  go_loopg [10, 64] M (fun g v iv wx => ∃ m : Nat, m + g = M ∧ iv = .int .i64 m ∧ Hid (wx.ownsRow w.heap.size 95 2 v (parL M m).length (clsV (parL M m))) ∧ Hid (Below w.heap.size w wx))
  case atStart => exact ⟨0, by omega, rfl, World.ownsRow_nil _ _ _ _, Below.refl _ _⟩
  case round =>
    obtain ⟨m, hmg, rfl, HO, HBx⟩ := hrel
    have hm0 : (0 : Int) ≤ (m : Int) := by omega
    cases gk with
    | zero =>
      obtain rfl : M = m := by omega
      obtain ⟨A, c, hv, _⟩ := own_any HO.out
      subst hv
      go_wp2_with fail
      go_ret
      exact ⟨A, c, (by rw [HX.out]; rfl), (by rw [HX.out]; exact ClsAt.of_own HO.out rfl), HBx.out⟩
    | succ q =>
      have hm1 : m < M := by omega
      have hm2 : (m : Int) < (M : Int) := by omega
      have hmod : (m : Int).tmod 2 = ((m % 2 : Nat) : Int) := by rw [Int.tmod_eq_emod_of_nonneg hm0]; omega
      have HLN := Lib.hid (parL_len M m)
      by_cases hp : m % 2 = 0
      · rw [hp] at hmod
        have hmod2 : (m : Int) % 2 = 0 := by omega
        have e2 := shl_one (i := m) (by omega)
        have HY := Lib.hid (show parL M (m + 1) = parL M m ++ [⟨aboveN m M, 2 ^ m⟩] by rw [parL, if_pos hp])
        have HAB := Lib.hid (fun w => above_any m M (by omega) hM w)
        generalize aboveN m M = R at *
        generalize 2 ^ m = P1 at *
        clear hp
        go_wp2_with fail
        refine wp_region_until_drew (st := []) (S := fun _ => True) (by kernel_rfl) True.intro (fun hHeld => ?_)
        refine wpAnyU_pure (i := 0) (v := ?vo0) rfl (by kernel_rfl) (by kernel_rfl) (by kernel_rfl) (by kernel_rfl) (fun _ _ _ h => h) (Or.inl ⟨by rfl, fun V _ => ?hyo0⟩) (fun _ => hHeld) ?resto0
        case hyo0 => go_simp; try with_reducible rfl
        try simp only [Act.put, List.getElem_toArray, List.getElem_cons_zero, List.getElem_cons_succ, List.setIfInBounds_toArray, List.set_cons_zero, List.set_cons_succ]
        refine wpAnyU_pure (i := 1) (v := ?vo1) rfl (by kernel_rfl) (by kernel_rfl) (by kernel_rfl) (by kernel_rfl) (fun _ _ _ h => h) (Or.inl ⟨by rfl, fun V _ => ?hyo1⟩) (fun _ => hHeld) ?resto1
        case hyo1 => go_simp; try with_reducible rfl
        try simp only [Act.put, List.getElem_toArray, List.getElem_cons_zero, List.getElem_cons_succ, List.setIfInBounds_toArray, List.set_cons_zero, List.set_cons_succ]
        refine wpAnyU_pure (i := 2) (v := ?vo2) rfl (by kernel_rfl) (by kernel_rfl) (by kernel_rfl) (by kernel_rfl) (fun _ _ _ h => h) (Or.inl ⟨by rfl, fun V _ => ?hyo2⟩) (fun _ => hHeld) ?resto2
        case hyo2 => go_simp; try with_reducible rfl
        try simp only [Act.put, List.getElem_toArray, List.getElem_cons_zero, List.getElem_cons_succ, List.setIfInBounds_toArray, List.set_cons_zero, List.set_cons_succ]
        refine wpAnyU_pure (i := 4) (v := ?vo4) rfl (by kernel_rfl) (by kernel_rfl) (by kernel_rfl) (by kernel_rfl) (fun _ _ _ h => h) (Or.inl ⟨by rfl, fun V _ => ?hyo4⟩) (fun _ => hHeld) ?resto4
        case hyo4 => go_simp; try with_reducible rfl
        try simp only [Act.put, List.getElem_toArray, List.getElem_cons_zero, List.getElem_cons_succ, List.setIfInBounds_toArray, List.set_cons_zero, List.set_cons_succ]
        refine wpAnyU_pure (i := 5) (v := ?vo5) rfl (by kernel_rfl) (by kernel_rfl) (by kernel_rfl) (by kernel_rfl) (fun _ _ _ h => h) (Or.inl ⟨by rfl, fun V _ => ?hyo5⟩) (fun _ => hHeld) ?resto5
        case hyo5 => go_simp; try with_reducible rfl
        try simp only [Act.put, List.getElem_toArray, List.getElem_cons_zero, List.getElem_cons_succ, List.setIfInBounds_toArray, List.set_cons_zero, List.set_cons_succ]
        refine wpAnyU_ready (rs := [3]) (by kernel_rfl) (by simp) (AllU.cons (i := 3) rfl (fun K hK => ?_) AllU.nil)
        simp only [List.getElem_toArray, List.getElem_cons_zero, List.getElem_cons_succ]
        go_simp
        refine (HAB.out _).mono ?_
        rintro e w1 ⟨k1, rfl, rfl⟩
        refine hK.out _ _ (fun _ => True.intro) ?_
        clear hK K
        refine wpAnyU_pure (i := 6) (v := ?vq6) rfl (by kernel_rfl) (by kernel_rfl) (by kernel_rfl) (by kernel_rfl) (fun _ _ _ h => h) (Or.inl ⟨by rfl, fun V _ => ?hyq6⟩) (fun _ => hHeld) ?restq6
        case hyq6 => go_simp; try with_reducible rfl
        try simp only [Act.put, List.getElem_toArray, List.getElem_cons_zero, List.getElem_cons_succ, List.setIfInBounds_toArray, List.set_cons_zero, List.set_cons_succ]
        refine wpAnyU_ready (rs := [7]) (by kernel_rfl) (by simp) (AllU.cons (i := 7) rfl (fun K hK => ?_) AllU.nil)
        simp only [List.getElem_toArray, List.getElem_cons_zero, List.getElem_cons_succ]
        go_simp
        refine hK.out _ _ (fun _ => True.intro) ?_
        clear hK K
        obtain ⟨W6, hW6⟩ : ∃ W6, World.drewN wr (1 + k1) = W6 := ⟨_, rfl⟩
        have HB6 := Lib.hid (show Below wr.heap.size wr W6 by rw [← hW6]; exact below_drewN (Below.refl _ _) _)
        have HZ6 := Lib.hid (show W6.heap.size = wr.heap.size by rw [← hW6]; rfl)
        have HO6 := Lib.hid (own_keep HO.out HB6.out)
        have HBx6 := Lib.hid (HBx.out.trans (HB6.out.mono HBx.out.size))
        rw [hW6]
        clear hW6
        refine wpAnyU_ready (rs := [8]) (by kernel_rfl) (by simp) (AllU.cons (i := 8) rfl (fun K hK => ?_) AllU.nil)
        refine step_append_cells _ (by rfl) _ _ _ (by rfl) w.heap.size 95 2 16 i0 _ Try.underlying99 hi hi0 hi1 hi2 rfl (by decide) u10 (parL M m).length (clsV (parL M m)) (by rfl) (by exact (own_keep HO6.out ((Below.refl _ _).alloc (Nat.le_refl _) _))) ⟨wr.heap.size, 0, none⟩ 1 1 (clV ⟨R, P1⟩) (by rfl) (by rfl) (by have h := one_cl W6 ⟨R, P1⟩ 95; rw [HZ6.out] at h; exact h) (by exact clV_one _) (by have := HLN.out; omega) (by decide) (by exact (HBx6.out.alloc HBx6.out.size _).size) ?_
        intro v' w4 hown hgrow _
        have HB4 := Lib.hid ((HBx6.out.alloc HBx6.out.size (.cells #[.int .i64 R, .int .i64 P1] 95)).trans (below_own (own_keep HO6.out ((Below.refl _ _).alloc (Nat.le_refl _) _)) hgrow (HBx6.out.alloc HBx6.out.size _).size))
        have HO4 := Lib.hid hown
        clear hown hgrow
        refine hK.out _ _ (fun _ => True.intro) ?_
        clear hK K
        refine wpAnyU_pure (i := 9) (v := ?vs9) rfl (by kernel_rfl) (by kernel_rfl) (by kernel_rfl) (by kernel_rfl) (fun _ _ _ h => h) (Or.inl ⟨by rfl, fun V _ => ?hys9⟩) (fun _ => hHeld) ?rests9
        case hys9 => go_simp; try with_reducible rfl
        try simp only [Act.put, List.getElem_toArray, List.getElem_cons_zero, List.getElem_cons_succ, List.setIfInBounds_toArray, List.set_cons_zero, List.set_cons_succ]
        refine wpAnyU_done (by kernel_rfl) ?_ _
        clear hHeld
        go_wp2_with fail
        go_roundg q
        case measure => omega
        case rel => exact ⟨m + 1, by omega, by go_num, (by rw [HY.out, clsV_snoc, List.length_append]; exact HO4.out), HB4.out⟩
      · have hp1 : m % 2 = 1 := by omega
        rw [hp1] at hmod
        have hmod2 : (m : Int) % 2 = 1 := by omega
        have HY := Lib.hid (show parL M (m + 1) = parL M m by rw [parL, if_neg hp])
        clear hp hp1
        go_wp2_with fail
        go_roundg q
        case measure => omega
        case rel => exact ⟨m + 1, by omega, by go_num, (by rw [HY.out]; exact HO.out), HBx.out⟩

end Go.Proofs.Ytalgbcndifaaiaa.Wd

namespace Go.Proofs.Ytalgbcndifaaiaa.Wd
open Go.RowKit Go.Deep
set_option linter.unusedVariables false
set_option linter.unusedSimpArgs false

def cdL (x : Cd) : List Value := [.int .i64 x.n, .int .i64 x.a, .int .i64 x.n', .int .i64 x.a']
def cdsV (l : List Cd) : List Value := l.flatMap cdL
theorem cdsV_cons (e : Cd) (l : List Cd) : cdsV (e :: l) = cdL e ++ cdsV l := rfl
theorem cdsV_app (l r : List Cd) : cdsV (l ++ r) = cdsV l ++ cdsV r := by unfold cdsV; rw [List.flatMap_append]
theorem cdsV_snoc (l : List Cd) (e : Cd) : cdsV (l ++ [e]) = cdsV l ++ cdL e := by rw [cdsV_app]; simp [cdsV]
theorem cdL_one (x : Cd) : ∀ u ∈ cdL x, u.oneCell' = true := by
  intro u hu
  simp only [cdL, List.mem_cons, List.not_mem_nil, or_false] at hu
  rcases hu with rfl | rfl | rfl | rfl <;> rfl
theorem cdsV_at (l : List Cd) (u k : Nat) (hu : u < l.length) (hk : k < 4) : (cdsV l)[u * 4 + k]? = (cdL (l.getD u cd0))[k]? := by
  induction l generalizing u with
  | nil => simp at hu
  | cons e l ih =>
    rw [cdsV_cons]
    cases u with
    | zero =>
      rw [List.getElem?_append_left (by show 0 * 4 + k < 4; omega)]
      simp
    | succ u =>
      rw [List.getElem?_append_right (by show 4 ≤ _; omega)]
      show (cdsV l)[(u + 1) * 4 + k - 4]? = _
      rw [show (u + 1) * 4 + k - 4 = u * 4 + k by omega, ih u (by simpa using hu)]
      simp
theorem cd_info : (Try.prog.info? 97).map (fun i => (i.zero, i.size, i.bytes)) = some (some (.agg #[.int .i64 0, .int .i64 0, .int .i64 0, .int .i64 0]), 4, 32) := by kernel_rfl
theorem one_cd (w : World) (x : Cd) (t : TypeId) : ∀ j u, (cdL x)[j]? = some u → (w.alloc (.cells #[.int .i64 x.n, .int .i64 x.a, .int .i64 x.n', .int .i64 x.a'] t)).cell? ((⟨w.heap.size, 0, none⟩ : Addr).add j) = some u := by
  intro j u hu
  rw [Addr.add_lit, Nat.zero_add, box_last]
  simpa [cdL] using hu
/-- Conditions in memory. -/
def CdsAt (w : World) (A : Option Addr) (k : Nat) (l : List Cd) : Prop :=
  l.length = k ∧ (0 < k → ∃ b, A = some ⟨b, 0, none⟩ ∧ b < w.heap.size ∧ ∀ j, j < k → w.cell? ⟨b, j * 4, none⟩ = some (.int .i64 (l.getD j cd0).n) ∧ w.cell? ⟨b, j * 4 + 1, none⟩ = some (.int .i64 (l.getD j cd0).a) ∧
    w.cell? ⟨b, j * 4 + 2, none⟩ = some (.int .i64 (l.getD j cd0).n') ∧ w.cell? ⟨b, j * 4 + 3, none⟩ = some (.int .i64 (l.getD j cd0).a'))
theorem CdsAt.below {w w' : World} {A : Option Addr} {k : Nat} {l : List Cd} (h : CdsAt w A k l) (hb : Below w.heap.size w w') : CdsAt w' A k l := ⟨h.1, fun hn => by
  obtain ⟨b, e, h2, hc⟩ := h.2 hn
  refine ⟨b, e, Nat.lt_of_lt_of_le h2 hb.size, fun j hj => ?_⟩
  obtain ⟨c0, c1, c2, c3⟩ := hc j hj
  exact ⟨(hb.cell (p := ⟨b, j * 4, none⟩) h2).trans c0, (hb.cell (p := ⟨b, j * 4 + 1, none⟩) h2).trans c1, (hb.cell (p := ⟨b, j * 4 + 2, none⟩) h2).trans c2, (hb.cell (p := ⟨b, j * 4 + 3, none⟩) h2).trans c3⟩⟩
theorem CdsAt.of_own {w : World} {B k cap : Nat} {A : Option Addr} {l : List Cd} (h : w.ownsRow B 97 4 (.slice A k cap) k (cdsV l)) (hl : l.length = k) : CdsAt w A k l := by
  refine ⟨hl, fun hn => ?_⟩
  rcases h.2 with ⟨he, h0⟩ | ⟨g, cap', cur, hv, hb, _⟩
  · omega
  · injection hv with hv _ _
    subst hv
    have hg : Value.ownBlock (.slice (some ⟨g, 0, none⟩) k cap) = some g := by simp [Value.ownBlock]
    refine ⟨g, rfl, (h.lt g hg).2, fun j hj => ?_⟩
    have key : ∀ q, q < 4 → ∀ x, (cdL (l.getD j cd0))[q]? = some x → w.cell? ⟨g, j * 4 + q, none⟩ = some x := fun q hq x hx => by
      have := h.cells hg (j * 4 + q) x (by rw [cdsV_at l j q (by omega) hq]; exact hx)
      rw [Addr.add_lit] at this
      simpa using this
    exact ⟨key 0 (by omega) _ rfl, key 1 (by omega) _ rfl, key 2 (by omega) _ rfl, key 3 (by omega) _ rfl⟩

/-- Does an endless path start there that is accepted in one of these ways? -/
def GoodW (l : List Ac) (ways : List Cd) (i : Nat) : Prop := ∃ j, Rc l i j ∧ ∃ c ∈ ways, Cy l c j
theorem cy_node {l : List Ac} {c : Cd} {j n : Nat} (h : Cy l c j) (hl : SmallA n l) : j < n := by
  obtain ⟨x, y, ⟨p, hp0, hp, _, _⟩, _⟩ := h
  cases p with
  | nil => exact absurd rfl hp0
  | cons a p => rw [← hp.2.1]; exact (hl a hp.1).1
theorem goodW_reach {l : List Ac} {ways : List Cd} {n i : Nat} {F : Nat → Bool} (hl : SmallA n l) (hF : ∀ j, j < n → (F j = true ↔ ∃ c ∈ ways, Cy l c j)) : FromP F n (sub cd0 (turnAL l)) i ↔ GoodW l ways i := by
  rw [sub_cd0]
  constructor
  · rintro ⟨j, h1, h2, h3⟩
    exact ⟨j, rc_turn.1 h3, (hF j h1).1 h2⟩
  · rintro ⟨j, h1, c, h2, h3⟩
    have hj := cy_node h3 hl
    exact ⟨j, hj, (hF j hj).2 ⟨c, h2, h3⟩, rc_turn.2 h1⟩
theorem cds_take {l : List Cd} {t : Nat} (h : t < l.length) : l.take (t + 1) = l.take t ++ [l.getD t cd0] := by
  rw [List.take_succ_eq_append_getElem h, List.getD_eq_getElem?_getD, List.getElem?_eq_getElem h]; rfl
theorem cds_mem {l : List Cd} {t : Nat} (h : t < l.length) : l.getD t cd0 ∈ l := by
  rw [List.getD_eq_getElem?_getD, List.getElem?_eq_getElem h]; exact List.getElem_mem h
/-- The flags of the first u nodes joined with others. -/
def orG (F G : Nat → Bool) (u i : Nat) : Bool := F i || (decide (i < u) && G i)
theorem orG_zero (F G : Nat → Bool) (i : Nat) : orG F G 0 i = F i := by unfold orG; rw [decide_eq_false (Nat.not_lt_zero _), Bool.false_and, Bool.or_false]
theorem orG_all {F G : Nat → Bool} {n i : Nat} (hi : i < n) : orG F G n i = (F i || G i) := by unfold orG; rw [decide_eq_true hi, Bool.true_and]
theorem orG_at (F G : Nat → Bool) (u : Nat) : orG F G u u = F u := by unfold orG; rw [decide_eq_false (Nat.lt_irrefl _), Bool.false_and, Bool.or_false]
theorem orG_step (F G : Nat → Bool) (u j : Nat) : orG F G (u + 1) j = if j = u then (F u || G u) else orG F G u j := by
  unfold orG
  by_cases e : j = u
  · subst e
    rw [if_pos rfl, decide_eq_true (by omega : j < j + 1), Bool.true_and]
  · rw [if_neg e]
    by_cases h : j < u
    · rw [decide_eq_true h, decide_eq_true (by omega : j < u + 1)]
    · rw [decide_eq_false h, decide_eq_false (by omega : ¬ j < u + 1)]

/-- What GoodBoth and Good come to. -/
def ResG (w w' : World) (n : Nat) (P : Nat → Prop) (e : Ending) : Prop :=
  ∃ g F cap, e = .returned (.slice (some ⟨g, 0, none⟩) n cap) ∧ FlagsIn w' g n F ∧ Hid (∀ i, i < n → (F i = true ↔ P i)) ∧ Below w.heap.size w w'

set_option maxRecDepth 100000 in
set_option maxHeartbeats 8000000 in
theorem goodBoth_walk (n na ca k cw : Nat) (A A2 : Option Addr) (l : List Ac) (ways : List Cd) (w : World) (ha : ArcsAt w A na l) (hw : CdsAt w A2 k ways) (hn : n ≤ 100000) (hna : na ≤ 900000) (hl : SmallA n l) (hc : ∀ c ∈ ways, SmallC c) (hk : k ≤ 100000) :
    Calls Try.prog 50 #[.int .i64 n, .slice A na ca, .slice A2 k cw] w fun e w' => ResG w w' n (GoodW l ways) e := by
  have hmkb := run_make_row' (P := Try.prog) 64 4 (.bool false) 1 Try.underlying64 bool_info rfl .i64 .i64 n (by omega) (by omega)
  have HCY := Lib.hid (fun c (hcw : c ∈ ways) W (hW : Below w.heap.size w W) => cycles_walk n na ca A l c W (ha.below hW) hn hna hl (hc c hcw))
  have HT := Lib.hid (fun W (hW : Below w.heap.size w W) => turned_any A na ca l W (ha.below hW) hna)
  have HL := Lib.hid hl
  have HW := Lib.hid hw
  have HWL := Lib.hid hw.1
  have HAL := Lib.hid ha.1
  clear ha hl hc hw
  go_enter Try.func50, Try.ntmps50
  go_wp2_with fail
  obtain ⟨W1, hW1⟩ : ∃ W1, w.alloc (.cells (madeCells #[.bool false] n) 4) = W1 := ⟨_, rfl⟩
  have HF0 := Lib.hid (show FlagsIn W1 w.heap.size n (fun _ => false) by rw [← hW1]; exact FlagsIn.made w n)
  have HB1 := Lib.hid (show Below w.heap.size w W1 by rw [← hW1]; exact (Below.refl _ _).alloc (Nat.le_refl _) _)
  rw [hW1]
  clear hW1 hmkb
  go_loopg [16] k (fun g i wx => ∃ (t : Nat) (F : Nat → Bool), t + g = k ∧ i = .int .i64 t ∧ Hid (FlagsIn wx w.heap.size n F) ∧ Hid (∀ j, j < n → (F j = true ↔ ∃ c ∈ ways.take t, Cy l c j)) ∧ Hid (Below w.heap.size w wx))
  case atStart => exact ⟨0, _, by omega, rfl, HF0.out, (fun j _ => by simp), HB1.out⟩
  case round =>
    clear HF0 HB1
    obtain ⟨t, F, htg, rfl, HF, HFC, HBx⟩ := hrel
    have hti : (0 : Int) ≤ (t : Int) := by omega
    cases gk with
    | zero =>
      obtain rfl : k = t := by omega
      have HFC2 := Lib.hid (show ∀ j, j < n → (F j = true ↔ ∃ c ∈ ways, Cy l c j) by have h := HFC.out; rw [List.take_of_length_le (by rw [HWL.out]; exact Nat.le_refl _)] at h; exact h)
      go_wp2_with fail
      refine (HT.out _ HBx.out).mono ?_
      rintro e w2 ⟨vb, rfl, hob, hb2⟩
      obtain ⟨Ab, cb, hvb, _⟩ := own_any hob
      subst hvb
      have HRC := Lib.hid (show Calls Try.prog 47 #[.int .i64 n, .slice Ab na cb, .slice (some ⟨w.heap.size, 0, none⟩) n n, .agg #[.int .i64 0, .int .i64 0, .int .i64 0, .int .i64 0]] w2 fun e w' => _ from
        reach_walk n na cb n w.heap.size Ab (turnAL l) F cd0 w2 ((ArcsIn.of_own hob (by unfold turnAL; rw [List.length_map]; exact HAL.out)).wide (Nat.zero_le _) (Nat.le_refl _)) (HF.out.below hb2) hn hna (fun a ha => by
          unfold turnAL at ha
          obtain ⟨x, hx, rfl⟩ := List.mem_map.1 ha
          obtain ⟨h1, h2, h3, h4⟩ := HL.out x hx
          exact ⟨h2, h1, h3, h4⟩) ⟨by decide, by decide, by decide, by decide⟩)
      have HB2 := Lib.hid (HBx.out.trans (hb2.mono HBx.out.size))
      clear hob hb2
      go_wp2_with fail
      refine HRC.out.mono ?_
      rintro e w3 ⟨g, G, cap, rfl, hfg, _, _, hgr, hb3⟩
      have HG := Lib.hid (fun i (hi : i < n) => (hgr i hi).trans (goodW_reach HL.out HFC2.out))
      have HFG := Lib.hid hfg
      have HB3 := Lib.hid (HB2.out.trans (hb3.mono HB2.out.size))
      clear hgr hfg hb3
      go_wp2_with fail
      go_ret
      exact ⟨g, G, cap, rfl, HFG.out, HG.out, HB3.out⟩
    | succ q =>
      have ht1 : t < k := by omega
      have hti2 : (t : Int) < (k : Int) := by omega
      obtain ⟨b, rfl, hlt, hcell⟩ := (HW.out.below HBx.out).2 (by omega)
      obtain ⟨c0, c1, c2, c3⟩ := hcell t ht1
      have HMEM := Lib.hid (cds_mem (l := ways) (t := t) (by rw [HWL.out]; exact ht1))
      have HTK := Lib.hid (show ways.take (t + 1) = ways.take t ++ [ways.getD t cd0] from cds_take (by rw [HWL.out]; exact ht1))
      obtain ⟨c, hce, HCE⟩ : ∃ c, ways.getD t cd0 = c ∧ Hid (ways.getD t cd0 = c) := ⟨_, rfl, rfl⟩
      rw [hce] at c0 c1 c2 c3 HMEM HTK
      have HC1 := Lib.hid (fun W hW => HCY.out c HMEM.out W hW)
      unfold cdV at HC1
      clear hce hcell
      go_wp2_with fail
      have HBA := Lib.hid (HBx.out.alloc HBx.out.size (.cells #[.int .i64 c.n, .int .i64 c.a, .int .i64 c.n', .int .i64 c.a'] 97))
      have HFA := Lib.hid (HF.out.alloc (.cells #[.int .i64 c.n, .int .i64 c.a, .int .i64 c.n', .int .i64 c.a'] 97))
      refine (HC1.out _ HBA.out).mono ?_
      rintro e w4 ⟨g, G, rfl, hfg, hgg, hgc, hb4⟩
      have HG := Lib.hid hgc
      have HFG := Lib.hid hfg
      have HB4 := Lib.hid (HBA.out.trans (hb4.mono HBA.out.size))
      have HF4 := Lib.hid ((HFA.out.below hb4).congr (fun i _ => (orG_zero F G i).symm))
      have hgw : w.heap.size < g := by have h := HFA.out.lt; omega
      clear hgc hfg hb4 hgg HBA HFA c0 c1 c2 c3
      go_wp2_with fail
      go_loopg [25] n (fun gg i wx => ∃ u : Nat, u + gg = n ∧ i = .int .i64 u ∧ Hid (FlagsIn wx w.heap.size n (orG F G u)) ∧ Hid (FlagsIn wx g n G) ∧ Hid (Below w.heap.size w wx))
      case atStart => exact ⟨0, by omega, rfl, HF4, HFG, HB4⟩
      case round =>
        clear HF4 HFG HB4
        obtain ⟨u, hug, rfl, HF', HG', HBy⟩ := hrel
        have hu0 : (0 : Int) ≤ (u : Int) := by omega
        cases gk with
        | zero =>
          obtain rfl : n = u := by omega
          go_wp2_with fail
          go_roundg q
          case measure => omega
          case rel =>
            refine ⟨t + 1, _, by omega, by go_num, HF', fun j hj => ?_, HBy⟩
            rw [orG_all hj, Bool.or_eq_true, HFC.out j hj, HG.out j hj, HTK.out]
            constructor
            · rintro (⟨c', h1, h2⟩ | h)
              · exact ⟨c', by simp [h1], h2⟩
              · exact ⟨c, by simp, h⟩
            · rintro ⟨c', h1, h2⟩
              rcases List.mem_append.1 h1 with h1 | h1
              · exact .inl ⟨c', h1, h2⟩
              · have : c' = c := by simpa using h1
                subst this
                exact .inr h2
        | succ p =>
          have hu1 : u < n := by omega
          have hu2 : (u : Int) < (n : Int) := by omega
          have kf := HF'.out.cell hu1
          have kg := HG'.out.cell hu1
          have hfz := HF'.out.free u
          have hzr := HG'.out.lt
          rw [orG_at] at kf
          have HSTP := Lib.hid (fun j => orG_step F G u j)
          have hnd : ∀ v : Bool, (F u || G u) = v → Hid (FlagsIn (wr.setCell ⟨w.heap.size, u, none⟩ (.bool v)) w.heap.size n (orG F G (u + 1))) := fun v hv =>
            (HF'.out.set u v).congr (fun j _ => by rw [HSTP.out j, hv])
          have HND := Lib.hid hnd
          have HBS := Lib.hid (fun v => HBy.out.setCell (p := ⟨w.heap.size, u, none⟩) (Nat.le_refl _) v)
          have HGS := Lib.hid (fun v => HG'.out.of_block (w' := wr.setCell ⟨w.heap.size, u, none⟩ v) (blk_setCell_other _ _ _ _ (by show g ≠ w.heap.size; omega)))
          clear hnd
          cases hFu : F u
          · cases hGu : G u
            · rw [hFu] at kf HND
              rw [hGu] at kg HND
              have HNE := Lib.hid (HND.out false rfl)
              clear hFu hGu HND HSTP
              go_wp2_with fail
              go_roundg p
              case measure => omega
              case rel => exact ⟨u + 1, by omega, by go_num, HNE.out, HGS.out _, HBS.out _⟩
            · rw [hFu] at kf HND
              rw [hGu] at kg HND
              have HNE := Lib.hid (HND.out true rfl)
              clear hFu hGu HND HSTP
              go_wp2_with fail
              go_roundg p
              case measure => omega
              case rel => exact ⟨u + 1, by omega, by go_num, HNE.out, HGS.out _, HBS.out _⟩
          · rw [hFu] at kf HND
            have HNE := Lib.hid (HND.out true rfl)
            clear hFu HND HSTP
            go_wp2_with fail
            go_roundg p
            case measure => omega
            case rel => exact ⟨u + 1, by omega, by go_num, HNE.out, HGS.out _, HBS.out _⟩

end Go.Proofs.Ytalgbcndifaaiaa.Wd

namespace Go.Proofs.Ytalgbcndifaaiaa.Wd
open Go
set_option linter.unusedVariables false

def cdOf (c : Cl) : Cd := ⟨c.n, c.a, 0, 0⟩
theorem meets_of {c : Cl} {x y : Nat} : Meets (cdOf c) x y ↔ x &&& c.n = 0 ∧ inB c.a x := by
  unfold Meets cdOf
  simp only [Nat.and_zero, true_and]
  constructor
  · rintro ⟨h1, h2, _⟩; exact ⟨h1, h2⟩
  · rintro ⟨h1, h2⟩; exact ⟨h1, h2, fun b hb => by rw [Nat.zero_testBit] at hb; cases hb⟩
theorem inB_pow {m x : Nat} : inB (2 ^ m) x ↔ x.testBit m = true := by
  constructor
  · intro h; exact h m (by rw [Nat.testBit_two_pow_self])
  · intro h b hb
    rw [Nat.testBit_two_pow, decide_eq_true_iff] at hb
    rw [← hb]; exact h
theorem and_pow0 {m x : Nat} : x &&& 2 ^ m = 0 ↔ x.testBit m = false := by
  rw [disj_iff]
  constructor
  · intro h
    cases hx : x.testBit m
    · rfl
    · have := h m hx
      rw [Nat.testBit_two_pow_self] at this
      cases this
  · intro h b hb
    rw [Nat.testBit_two_pow, decide_eq_false_iff_not]
    intro e
    rw [← e, h] at hb
    cases hb
theorem pairB_iff {M x : Nat} (hM : M % 2 = 0) : pairB M (x : Int) = true ↔ ∃ j, j < M / 2 ∧ x.testBit (2 * j) = false ∧ x.testBit (2 * j + 1) = true := by
  unfold pairB
  rw [List.any_eq_true]
  have key : ∀ i : Nat, ((x : Int) / 2 ^ i % 4 = 2) ↔ x / 2 ^ i % 4 = 2 := fun i => by
    have h : ((x : Int) / 2 ^ i % 4) = ((x / 2 ^ i % 4 : Nat) : Int) := by simp
    rw [h]; omega
  constructor
  · rintro ⟨i, hi, h⟩
    rw [Bool.and_eq_true, decide_eq_true_iff, decide_eq_true_iff, key, quad] at h
    have hi := List.mem_range.1 hi
    refine ⟨i / 2, by omega, ?_⟩
    rw [show 2 * (i / 2) = i from by omega]
    exact h.2
  · rintro ⟨j, hj, h⟩
    refine ⟨2 * j, List.mem_range.2 (by omega), ?_⟩
    rw [Bool.and_eq_true, decide_eq_true_iff, decide_eq_true_iff, key, quad]
    exact ⟨by omega, h⟩
theorem str_iff {M x : Nat} (hM : M % 2 = 0) : accB 4 M (x : Int) = true ↔ StrP (M / 2) x := by
  show (!pairB M (x : Int)) = true ↔ _
  rw [Bool.not_eq_true', Bool.eq_false_iff, Ne, pairB_iff hM]
  constructor
  · intro h j hj h1
    cases h2 : x.testBit (2 * j)
    · exact absurd ⟨j, hj, h2, h1⟩ h
    · rfl
  · rintro h ⟨j, hj, h1, h2⟩
    rw [h j hj h2] at h1
    cases h1
theorem ones_iff {M x : Nat} (hx : x < 2 ^ M) : x = 2 ^ M - 1 ↔ inB (2 ^ M - 1) x := by
  constructor
  · rintro h b hb; rw [h]; exact hb
  · intro h
    apply Nat.eq_of_testBit_eq
    intro b
    rw [Nat.testBit_two_pow_sub_one]
    by_cases hb : b < M
    · rw [decide_eq_true hb]
      exact h b (by rw [Nat.testBit_two_pow_sub_one]; exact decide_eq_true hb)
    · rw [decide_eq_false hb]
      exact Nat.testBit_lt_two_pow (Nat.lt_of_lt_of_le hx (Nat.pow_le_pow_right (by decide) (by omega)))
theorem above_bit {m M b : Nat} (hM : M ≤ 40) : (aboveN m M).testBit b = (decide (b < M) && !decide (b < m + 1)) := by
  unfold aboveN
  rw [lessN_bit (by have : 2 ^ M ≤ 2 ^ 40 := Nat.pow_le_pow_right (by decide) hM; omega), Nat.testBit_two_pow_sub_one, Nat.testBit_two_pow_sub_one]
theorem top_iff {m M x : Nat} (hM : M ≤ 40) (hx : x < 2 ^ M) : (x &&& aboveN m M = 0 ∧ x.testBit m = true) ↔ Lib.bitLen x = m + 1 := by
  constructor
  · rintro ⟨h1, h2⟩
    have hlt : x < 2 ^ (m + 1) := by
      apply Nat.lt_pow_two_of_testBit
      intro b hb
      by_cases hbM : b < M
      · rw [Bool.eq_false_iff]
        intro hxb
        have := disj_iff.1 h1 b hxb
        rw [above_bit hM, decide_eq_true hbM, decide_eq_false (by omega)] at this
        cases this
      · exact Nat.testBit_lt_two_pow (Nat.lt_of_lt_of_le hx (Nat.pow_le_pow_right (by decide) (by omega)))
    have hge : 2 ^ m ≤ x := Nat.ge_two_pow_of_testBit h2
    have hm : m < 64 := by
      refine Nat.lt_of_not_le fun h => ?_
      have h3 : 2 ^ 64 ≤ 2 ^ m := Nat.pow_le_pow_right (by decide) h
      have h4 : 2 ^ M ≤ 2 ^ 40 := Nat.pow_le_pow_right (by decide) hM
      omega
    exact bitLen_between hm hge hlt
  · intro h
    have hx0 : x ≠ 0 := by
      rintro rfl
      rw [bitLen_zero] at h
      omega
    obtain ⟨h3, h4, h5⟩ := Lib.bitLenAux_bounds 64 x (Nat.lt_of_lt_of_le hx (Nat.pow_le_pow_right (by decide) (by omega))) hx0
    have hL : Lib.bitLenAux 64 x = m + 1 := h
    rw [hL] at h4 h5
    simp only [Nat.add_sub_cancel] at h4
    have hbit : x.testBit m = true := by
      rw [Nat.testBit_eq_decide_div_mod_eq, decide_eq_true_iff]
      rw [Nat.pow_succ] at h5
      have h6 : x / 2 ^ m = 1 := by
        apply Nat.div_eq_of_lt_le <;> omega
      rw [h6]
    refine ⟨disj_iff.2 fun b hb => ?_, hbit⟩
    rw [above_bit hM]
    have hbm : b < m + 1 := by
      refine Nat.lt_of_not_le fun h => ?_
      rw [Nat.testBit_lt_two_pow (Nat.lt_of_lt_of_le h5 (Nat.pow_le_pow_right (by decide) h))] at hb
      cases hb
    rw [decide_eq_true hbm, Bool.not_true, Bool.and_false]

/-- The ways say what is accepted, but for Streett. -/
theorem ways_iff {kind M x y : Nat} (hk : kind ≤ 5) (h4 : kind ≠ 4) (hm : marksB kind M = true) (hx : x < 2 ^ M) : accB kind M (x : Int) = true ↔ ∃ c ∈ (waysL kind M).map cdOf, Meets c x y := by
  have hM40 : M ≤ 40 := by have := marksB_few hm; omega
  rw [show (∃ c ∈ (waysL kind M).map cdOf, Meets c x y) ↔ ∃ c ∈ waysL kind M, x &&& c.n = 0 ∧ inB c.a x from by
    constructor
    · rintro ⟨c, hc, h⟩
      obtain ⟨d, hd, rfl⟩ := List.mem_map.1 hc
      exact ⟨d, hd, meets_of.1 h⟩
    · rintro ⟨c, hc, h⟩
      exact ⟨cdOf c, List.mem_map.2 ⟨c, hc, rfl⟩, meets_of.2 h⟩]
  have hcase : kind = 0 ∨ kind = 1 ∨ kind = 2 ∨ kind = 3 ∨ kind = 5 := by omega
  rcases hcase with rfl | rfl | rfl | rfl | rfl
  · have hM1 : M = 1 := by unfold marksB at hm; simp at hm; omega
    subst hM1
    have hx2 : x < 2 := hx
    show decide ((x : Int) = 1) = true ↔ _
    rw [decide_eq_true_iff]
    constructor
    · intro h
      have : x = 1 := by omega
      subst this
      exact ⟨⟨0, 1⟩, by simp [waysL], by decide, fun b hb => hb⟩
    · rintro ⟨c, hc, h1, h2⟩
      have : c = ⟨0, 1⟩ := by simpa [waysL] using hc
      subst this
      have h3 := h2 0 (by decide)
      have : x ≠ 0 := by rintro rfl; rw [Nat.zero_testBit] at h3; cases h3
      omega
  · show decide ((x : Int) = 2 ^ M - 1) = true ↔ _
    rw [decide_eq_true_iff]
    have hcast : ((x : Int) = 2 ^ M - 1) ↔ x = 2 ^ M - 1 := by
      have h1 : ((2 : Int) ^ M) = ((2 ^ M : Nat) : Int) := by simp
      have h2 := Nat.two_pow_pos M
      rw [h1]; omega
    rw [hcast, ones_iff hx]
    constructor
    · intro h; exact ⟨⟨0, 2 ^ M - 1⟩, by simp [waysL], Nat.and_zero _, h⟩
    · rintro ⟨c, hc, h1, h2⟩
      have : c = ⟨0, 2 ^ M - 1⟩ := by simpa [waysL] using hc
      subst this
      exact h2
  · have hM1 : M = 1 := by unfold marksB at hm; simp at hm; omega
    subst hM1
    have hx2 : x < 2 := hx
    show decide ((x : Int) = 0) = true ↔ _
    rw [decide_eq_true_iff]
    constructor
    · intro h
      have : x = 0 := by omega
      subst this
      exact ⟨⟨1, 0⟩, by simp [waysL], by decide, fun b hb => hb⟩
    · rintro ⟨c, hc, h1, h2⟩
      have : c = ⟨1, 0⟩ := by simpa [waysL] using hc
      subst this
      have : x ≠ 1 := by rintro rfl; exact absurd h1 (by decide)
      omega
  · have hev : M % 2 = 0 := by unfold marksB at hm; simp at hm; unfold evenMB at hm; have := of_decide_eq_true hm; omega
    show pairB M (x : Int) = true ↔ _
    rw [pairB_iff hev]
    constructor
    · rintro ⟨j, h1, h2, h3⟩
      exact ⟨⟨2 ^ (2 * j), 2 ^ (2 * j + 1)⟩, someL_mem.2 ⟨j, h1, rfl⟩, and_pow0.2 h2, inB_pow.2 h3⟩
    · rintro ⟨c, hc, h1, h2⟩
      obtain ⟨j, hj, rfl⟩ := someL_mem.1 (show c ∈ someL (M / 2) from hc)
      exact ⟨j, hj, and_pow0.1 h1, inB_pow.1 h2⟩
  · show evenB (x : Int).toNat = true ↔ _
    rw [Int.toNat_natCast]
    unfold evenB
    rw [decide_eq_true_iff]
    constructor
    · intro h
      have hpos : Lib.bitLen x = (Lib.bitLen x - 1) + 1 := by omega
      have hle := Lib.bitLen_le x M (by omega) hx
      refine ⟨⟨aboveN (Lib.bitLen x - 1) M, 2 ^ (Lib.bitLen x - 1)⟩, parL_mem.2 ⟨Lib.bitLen x - 1, by omega, by omega, rfl⟩, ?_⟩
      have h1 := (top_iff hM40 hx).2 hpos
      exact ⟨h1.1, inB_pow.2 h1.2⟩
    · rintro ⟨c, hc, h1, h2⟩
      obtain ⟨m, hm1, hm2, rfl⟩ := parL_mem.1 (show c ∈ parL M M from hc)
      have := (top_iff hM40 hx).1 ⟨h1, inB_pow.1 h2⟩
      omega

/-- Does an endless path start there that the kind accepts? -/
def GoodA (l : List Ac) (kind M i : Nat) : Prop := ∃ j, Rc l i j ∧ ∃ x y, Lp l j x y ∧ accB kind M (x : Int) = true
theorem mk_below {p : List Ac} {M : Nat} (h : ∀ a ∈ p, a.m < 2 ^ M) : mk p < 2 ^ M := by
  induction p with
  | nil => exact Nat.two_pow_pos M
  | cons a p ih => exact Nat.or_lt_two_pow (h a (by simp)) (ih fun x hx => h x (by simp [hx]))
theorem goodA_ways {l : List Ac} {kind M i : Nat} (hk : kind ≤ 5) (h4 : kind ≠ 4) (hm : marksB kind M = true) (hl : ∀ a ∈ l, a.m < 2 ^ M) : GoodW l ((waysL kind M).map cdOf) i ↔ GoodA l kind M i := by
  refine exists_congr fun j => and_congr Iff.rfl ?_
  constructor
  · rintro ⟨c, hc, x, y, hL, hmt⟩
    refine ⟨x, y, hL, (ways_iff hk h4 hm ?_).2 ⟨c, hc, hmt⟩⟩
    obtain ⟨p, _, hp, rfl, _⟩ := hL
    exact mk_below fun a ha => hl a (hp.mem a ha)
  · rintro ⟨x, y, hL, hac⟩
    have hx : x < 2 ^ M := by
      obtain ⟨p, _, hp, rfl, _⟩ := hL
      exact mk_below fun a ha => hl a (hp.mem a ha)
    obtain ⟨c, hc, hmt⟩ := (ways_iff (y := y) hk h4 hm hx).1 hac
    exact ⟨c, hc, x, y, hL, hmt⟩
theorem goodA_str {l : List Ac} {M i : Nat} (hM : M % 2 = 0) : (∃ j, Rc l i j ∧ Sy l (M / 2) j) ↔ GoodA l 4 M i := by
  refine exists_congr fun j => and_congr Iff.rfl ?_
  constructor
  · rintro ⟨x, y, hL, hs⟩; exact ⟨x, y, hL, (str_iff hM).2 hs⟩
  · rintro ⟨x, y, hL, hs⟩; exact ⟨x, y, hL, (str_iff hM).1 hs⟩

end Go.Proofs.Ytalgbcndifaaiaa.Wd
