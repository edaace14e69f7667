/-
  Arcs in memory, and as rows that a walk owns; rows of flags. No function is walked here.
  turned: the arcs the other way round.
  reach: the nodes that can be reached from some nodes by arcs without certain marks.
  reach, walked: the rows of successors.
-/
import Derived.Test.YtalgbcndifaaiaaF27
import Derived.Test.YtalgbcndifaaiaaF23
import Derived.Test.YtalgbcndifaaiaaF21
namespace Go.Proofs.Ytalgbcndifaaiaa.Wd
open Go.RowKit Go.Deep
set_option linter.unusedVariables false

def acV (a : Ac) : List Value := [.int .i64 a.f, .int .i64 a.t, .int .i64 a.m, .int .i64 a.o]
def acsV (l : List Ac) : List Value := l.flatMap acV
theorem acsV_cons (e : Ac) (l : List Ac) : acsV (e :: l) = acV e ++ acsV l := rfl
theorem acsV_app (l r : List Ac) : acsV (l ++ r) = acsV l ++ acsV r := by unfold acsV; rw [List.flatMap_append]
theorem acsV_snoc (l : List Ac) (e : Ac) : acsV (l ++ [e]) = acsV l ++ acV e := by rw [acsV_app]; simp [acsV]
theorem acsV_len (l : List Ac) : (acsV l).length = l.length * 4 := by
  induction l with
  | nil => rfl
  | cons e l ih => rw [acsV_cons, List.length_append, ih, List.length_cons]; show 4 + _ = _; omega
theorem acV_one (x : Ac) : ∀ u ∈ acV x, u.oneCell' = true := by
  intro u hu
  simp only [acV, List.mem_cons, List.not_mem_nil, or_false] at hu
  rcases hu with rfl | rfl | rfl | rfl <;> rfl
theorem acsV_at (l : List Ac) (u k : Nat) (hu : u < l.length) (hk : k < 4) : (acsV l)[u * 4 + k]? = (acV (l.getD u ac0))[k]? := by
  induction l generalizing u with
  | nil => simp at hu
  | cons e l ih =>
    rw [acsV_cons]
    cases u with
    | zero =>
      rw [List.getElem?_append_left (by show 0 * 4 + k < 4; omega)]
      simp
    | succ u =>
      rw [List.getElem?_append_right (by show 4 ≤ _; omega)]
      show (acsV l)[(u + 1) * 4 + k - 4]? = _
      rw [show (u + 1) * 4 + k - 4 = u * 4 + k by omega, ih u (by simpa using hu)]
      simp
theorem arc_info : (Try.prog.info? 63).map (fun i => (i.zero, i.size, i.bytes)) = some (some (.agg #[.int .i64 0, .int .i64 0, .int .i64 0, .int .i64 0]), 4, 32) := by kernel_rfl

/-- Arcs in memory, in a block from lo on and below hi. -/
def ArcsIn (w : World) (lo hi : Nat) (A : Option Addr) (n : Nat) (l : List Ac) : Prop :=
  l.length = n ∧ (0 < n → ∃ b, A = some ⟨b, 0, none⟩ ∧ lo ≤ b ∧ b < hi ∧ ∀ j, j < n → w.cell? ⟨b, j * 4, none⟩ = some (.int .i64 (l.getD j ac0).f) ∧ w.cell? ⟨b, j * 4 + 1, none⟩ = some (.int .i64 (l.getD j ac0).t) ∧
    w.cell? ⟨b, j * 4 + 2, none⟩ = some (.int .i64 (l.getD j ac0).m) ∧ w.cell? ⟨b, j * 4 + 3, none⟩ = some (.int .i64 (l.getD j ac0).o))
theorem ArcsIn.kept {w w' : World} {lo hi n : Nat} {A : Option Addr} {l : List Ac} (h : ArcsIn w lo hi A n l) (hk : ∀ j, lo ≤ j → j < hi → w'.heap[j]? = w.heap[j]?) : ArcsIn w' lo hi A n l := ⟨h.1, fun hn => by
  obtain ⟨b, e, h1, h2, hc⟩ := h.2 hn
  refine ⟨b, e, h1, h2, fun j hj => ?_⟩
  obtain ⟨c0, c1, c2, c3⟩ := hc j hj
  have hb := hk b h1 h2
  exact ⟨(World.cell?_of_block (a := ⟨b, _, none⟩) hb).trans c0, (World.cell?_of_block (a := ⟨b, _, none⟩) hb).trans c1, (World.cell?_of_block (a := ⟨b, _, none⟩) hb).trans c2, (World.cell?_of_block (a := ⟨b, _, none⟩) hb).trans c3⟩⟩
theorem ArcsIn.wide {w : World} {lo hi lo' hi' n : Nat} {A : Option Addr} {l : List Ac} (h : ArcsIn w lo hi A n l) (h1 : lo' ≤ lo) (h2 : hi ≤ hi') : ArcsIn w lo' hi' A n l := ⟨h.1, fun hn => by
  obtain ⟨b, e, l1, l2, hc⟩ := h.2 hn
  exact ⟨b, e, by omega, by omega, hc⟩⟩
/-- Arcs in memory. -/
def ArcsAt (w : World) (A : Option Addr) (n : Nat) (l : List Ac) : Prop := ArcsIn w 0 w.heap.size A n l
theorem ArcsAt.below {w w' : World} {A : Option Addr} {n : Nat} {l : List Ac} (h : ArcsAt w A n l) (hb : Below w.heap.size w w') : ArcsAt w' A n l :=
  (ArcsIn.kept h (fun j _ h2 => hb.block j h2)).wide (Nat.le_refl _) hb.size
theorem ArcsIn.of_own {w : World} {B n cap : Nat} {A : Option Addr} {l : List Ac} (h : w.ownsRow B 63 4 (.slice A n cap) n (acsV l)) (hl : l.length = n) : ArcsIn w B w.heap.size A n l := by
  refine ⟨hl, fun hn => ?_⟩
  rcases h.2 with ⟨he, h0⟩ | ⟨g, cap', cur, hv, hb, _⟩
  · omega
  · injection hv with hv _ _
    subst hv
    have hg : Value.ownBlock (.slice (some ⟨g, 0, none⟩) n cap) = some g := by simp [Value.ownBlock]
    have hlt := (h.lt g hg).2
    refine ⟨g, rfl, hb, hlt, fun j hj => ?_⟩
    have key : ∀ k, k < 4 → ∀ x, (acV (l.getD j ac0))[k]? = some x → w.cell? ⟨g, j * 4 + k, none⟩ = some x := fun k hk x hx => by
      have := h.cells hg (j * 4 + k) x (by rw [acsV_at l j k (by omega) hk]; exact hx)
      rw [Addr.add_lit] at this
      simpa using this
    exact ⟨key 0 (by omega) _ rfl, key 1 (by omega) _ rfl, key 2 (by omega) _ rfl, key 3 (by omega) _ rfl⟩
theorem one_arc (w : World) (x : Ac) (t : TypeId) : ∀ j u, (acV x)[j]? = some u → (w.alloc (.cells #[.int .i64 x.f, .int .i64 x.t, .int .i64 x.m, .int .i64 x.o] t)).cell? ((⟨w.heap.size, 0, none⟩ : Addr).add j) = some u := by
  intro j u hu
  rw [Addr.add_lit, Nat.zero_add, box_last]
  simpa [acV] using hu

/-- Flags in a block: the first n of its cells. -/
def FlagsIn (w : World) (b n : Nat) (F : Nat → Bool) : Prop := ∃ c : Array Value, w.heap[b]? = some (.cells c 4 (0, 0)) ∧ n ≤ c.size ∧ ∀ i, i < n → c[i]? = some (.bool (F i))
namespace FlagsIn
variable {w w' : World} {b n : Nat} {F G : Nat → Bool}
theorem cell (h : FlagsIn w b n F) {i : Nat} (hi : i < n) : w.cell? ⟨b, i, none⟩ = some (.bool (F i)) := by
  obtain ⟨c, hb, _, hc⟩ := h
  simp [World.cell?, hb, hc i hi]
theorem free (h : FlagsIn w b n F) (i : Nat) : w.frozen? ⟨b, i, none⟩ = false := by
  obtain ⟨c, hb, _, _⟩ := h
  simp [World.frozen?, hb]
theorem lt (h : FlagsIn w b n F) : b < w.heap.size := by
  obtain ⟨c, hb, _, _⟩ := h
  exact (Array.getElem?_eq_some_iff.1 hb).1
theorem of_block (h : FlagsIn w b n F) (e : w'.heap[b]? = w.heap[b]?) : FlagsIn w' b n F := by
  obtain ⟨c, hb, hn, hc⟩ := h
  exact ⟨c, e.trans hb, hn, hc⟩
theorem below (h : FlagsIn w b n F) (hb : Below w.heap.size w w') : FlagsIn w' b n F := h.of_block (hb.block _ h.lt)
theorem congr (h : FlagsIn w b n F) (e : ∀ i, i < n → F i = G i) : FlagsIn w b n G := by
  obtain ⟨c, hb, hn, hc⟩ := h
  exact ⟨c, hb, hn, fun i hi => by rw [hc i hi, e i hi]⟩
theorem alloc (h : FlagsIn w b n F) (o : Obj) : FlagsIn (w.alloc o) b n F := h.of_block (blk_alloc_lt _ _ _ h.lt)
theorem drew (h : FlagsIn w b n F) : FlagsIn w.drew b n F := h
/-- One flag is stored. -/
theorem set (h : FlagsIn w b n F) (i : Nat) (v : Bool) : FlagsIn (w.setCell ⟨b, i, none⟩ (.bool v)) b n (fun j => if j = i then v else F j) := by
  obtain ⟨c, hb, hn, hc⟩ := h
  refine ⟨c.setIfInBounds i (.bool v), ?_, by simpa using hn, fun j hj => ?_⟩
  · simp [World.setCell, Array.getElem?_modify, hb]
  · rw [Array.getElem?_setIfInBounds]
    by_cases e : j = i
    · subst e
      rw [if_pos rfl, if_pos (by omega)]
      show _ = some (Value.bool (if j = j then v else F j))
      rw [if_pos rfl]
    · rw [if_neg (fun h => e h.symm)]
      show _ = some (Value.bool (if j = i then v else F j))
      rw [if_neg e]
      exact hc j hj
theorem upd (h : FlagsIn w b n F) (i : Nat) : FlagsIn (w.setCell ⟨b, i, none⟩ (.bool true)) b n (updB F i) := (h.set i true).congr fun j _ => by unfold updB; rfl
/-- What make has laid. -/
theorem made (w : World) (n : Nat) : FlagsIn (w.alloc (.cells (madeCells #[.bool false] n) 4)) w.heap.size n (fun _ => false) := by
  obtain ⟨c, h1, h2, h3⟩ := World.rowIs_made w (.bool false) n 4
  exact ⟨c, h1, by omega, h3⟩
theorem row (h : RowF w b n F) : FlagsIn w b n F := by
  obtain ⟨c, h1, h2, h3⟩ := h
  exact ⟨c, h1, by omega, h3⟩
/-- As a list of values, for append. -/
def vals (n : Nat) (F : Nat → Bool) : List Value := (List.range n).map fun i => .bool (F i)
theorem vals_at (h : FlagsIn w b n F) : ∀ j u, (vals n F)[j]? = some u → w.cell? ((⟨b, 0, none⟩ : Addr).add j) = some u := by
  intro j u hu
  unfold vals at hu
  rw [List.getElem?_map, Option.map_eq_some_iff] at hu
  obtain ⟨k, hk, rfl⟩ := hu
  obtain ⟨h1, h2⟩ := List.getElem?_eq_some_iff.1 hk
  simp only [List.length_range] at h1
  simp only [List.getElem_range] at h2
  subst h2
  rw [Addr.add_lit, Nat.zero_add]
  exact h.cell h1
theorem of_own {B cap : Nat} {v : Value} (h : w.ownsRow B 4 1 v n (vals n F)) : n = 0 ∨ ∃ g cap, v = .slice (some ⟨g, 0, none⟩) n cap ∧ B ≤ g ∧ g < w.heap.size ∧ n ≤ cap ∧ FlagsIn w g n F := by
  rcases h.2 with ⟨_, h0⟩ | ⟨g, cap', cur, hv, hb, hg, h1, _, h2, h3⟩
  · exact .inl h0
  · refine .inr ⟨g, cap', hv, hb, (Array.getElem?_eq_some_iff.1 hg).1, h1, cur, hg, by omega, fun i hi => ?_⟩
    have h4 : (cur.toList.take (n * 1))[i]? = (vals n F)[i]? := by rw [h3]
    rw [List.getElem?_take, if_pos (by omega), Array.getElem?_toList] at h4
    rw [h4]
    unfold vals
    rw [List.getElem?_map, List.getElem?_range hi]
    rfl
end FlagsIn

/-- append of m structs, as a step of a region that draws its order. -/
theorem step_append_cells {P : Program} (w : World) {ops : Array Oper} {o : Oper} {a : Act} {K : Act → World → Prop} {Q : Exit → Act → World → Prop} {E : Prop} (hgd : o.guard = none) (s x : Operand) (t : TypeId)
    (ho : o.op = .call { callee := .builtin .append, args := #[s, x], argTypes := #[t, t] })
    (base : Nat) (e : TypeId) (sz by_ : Nat) (i : TypeInfo) (z : Value) (ht : P.underlying t = some (.slice e)) (hi : P.info? e = some i) (hz : i.zero = some z)
    (hsize : i.size = sz) (hby : i.bytes = by_) (hzs : z.cells.size = sz) (hsz0 : 0 < sz)
    (v : Value) (n : Nat) (xs : List Value) (hs : a.eval s = v) (hown : w.ownsRow base e sz v n xs)
    (ad : Addr) (m c : Nat) (ys : List Value) (hx : a.eval x = .slice (some ad) m c) (hl : ys.length = m * sz) (hnews : ∀ j u, ys[j]? = some u → w.cell? (ad.add j) = some u) (h1 : ∀ u ∈ ys, u.oneCell' = true) (hn : n + m ≤ 1000000) (hb2 : by_ ≤ 1000) (hbase : base ≤ w.heap.size)
    (h : ∀ v' w', w'.ownsRow base e sz v' (n + m) (xs ++ ys) → w.grownBy w' v.ownBlock → (v'.ownBlock = v.ownBlock ∨ v'.ownBlock = some w.heap.size) → K (a.put o.dst v') w') :
    if Region.wanted o (yielded ops a.tmps) = true then Oper.wp P o a w K Q else E := by
  have hw : Region.wanted o (yielded ops a.tmps) = true := by simp [Region.wanted, hgd]
  rw [if_pos hw]
  obtain ⟨v', w', hrun, h2, h3, _, h4⟩ := run_append_own_at (P := P) w base t o.type e i z sz by_ ht hi hz hsize hby hzs hsz0 v n xs hown ad m c ys hl hnews h1 (by unfold maxLen; omega) (by
    have : (n + m) * by_ ≤ 1000000 * 1000 := Nat.mul_le_mul hn hb2
    omega) hbase
  unfold Oper.wp execOp
  simp only [ho, resolve, invoke, builtin, Sem.run_bind, Sem.run_pure, Result.andThen_ok, List.map_toArray, List.map_cons, List.map_nil, hs, hx, hrun]
  exact h v' w' h2 h3 h4
theorem own_apartN {w : World} {B e sz n g : Nat} {v : Value} {xs : List Value} (h : w.ownsRow B e sz v n xs) (hg : w.heap.size ≤ g) : some g ≠ v.ownBlock := by
  intro he
  have := (h.lt g he.symm).2
  omega

/-- A shorter beginning of an own row. -/
theorem own_cut {w : World} {B n k cap sz : Nat} {e : TypeId} {A : Option Addr} {xs ys : List Value} (h : w.ownsRow B e sz (.slice A n cap) n (xs ++ ys)) (hk : k ≤ n) (hx : xs.length = k * sz) (hA : 0 < n) : w.ownsRow B e sz (.slice A k cap) k xs := by
  refine ⟨hx, ?_⟩
  rcases h.2 with ⟨_, h0⟩ | ⟨g, cap', cur, hv, hb, hg, h1, h2, h3, h4⟩
  · omega
  · injection hv with hv _ hc
    subst hv hc
    refine .inr ⟨g, cap, cur, rfl, hb, hg, by omega, h2, h3, ?_⟩
    have h5 : (cur.toList.take (n * sz)).take (k * sz) = xs := by rw [h4, ← hx, List.take_left']; rfl
    rw [List.take_take, Nat.min_eq_left (Nat.mul_le_mul_right _ hk)] at h5
    exact h5

end Go.Proofs.Ytalgbcndifaaiaa.Wd

namespace Go.Proofs.Ytalgbcndifaaiaa.Wd
open Go.RowKit
set_option linter.unusedVariables false

theorem turnAL_snoc (l : List Ac) (a : Ac) : turnAL (l ++ [a]) = turnAL l ++ [turnA a] := by unfold turnAL; rw [List.map_append]; rfl
theorem take_snocA {l : List Ac} {t : Nat} (h : t < l.length) : l.take (t + 1) = l.take t ++ [l.getD t ac0] := by
  rw [List.take_succ_eq_append_getElem h, List.getD_eq_getElem?_getD, List.getElem?_eq_getElem h]; rfl
theorem acsD_mem {l : List Ac} {t : Nat} (h : t < l.length) : l.getD t ac0 ∈ l := by
  rw [List.getD_eq_getElem?_getD, List.getElem?_eq_getElem h]; exact List.getElem_mem h

set_option maxRecDepth 100000 in
set_option maxHeartbeats 4000000 in
theorem turned_any (A : Option Addr) (n c : Nat) (l : List Ac) (w : World) (ha : ArcsAt w A n l) (hn : n ≤ 900000) :
    Calls Try.prog 48 #[.slice A n c] w fun e w' => ∃ v, e = .returned v ∧ w'.ownsRow w.heap.size 63 4 v n (acsV (turnAL l)) ∧ Below w.heap.size w w' := by
  obtain ⟨i0, hi, hi0, hi1, hi2⟩ := info_parts arc_info
  have HA := Lib.hid ha
  have HL := Lib.hid ha.1
  clear ha
  go_enter Try.func48, Try.ntmps48
  go_wp2_with fail
  go_loopg [3, 8] n (fun g v i wx => ∃ t : Nat, t + g = n ∧ i = .int .i64 t ∧ Hid (wx.ownsRow w.heap.size 63 4 v t (acsV (turnAL (l.take t)))) ∧ Hid (Below w.heap.size w wx))
  case atStart => exact ⟨0, by omega, rfl, World.ownsRow_nil _ _ _ _, Below.refl _ _⟩
  case round =>
    obtain ⟨t, htg, rfl, HR, HBx⟩ := hrel
    have hti : (0 : Int) ≤ (t : Int) := by omega
    cases gk with
    | zero =>
      obtain rfl : n = t := by omega
      go_wp2_with fail
      go_ret
      exact ⟨_, rfl, by have h := HR.out; rw [List.take_of_length_le (by rw [HL.out]; exact Nat.le_refl _)] at h; exact h, HBx.out⟩
    | succ q =>
      have ht1 : t < n := by omega
      have hti2 : (t : Int) < (n : Int) := by omega
      obtain ⟨b, rfl, _, hlt, hcell⟩ := (HA.out.below HBx.out).2 (by omega)
      obtain ⟨c0, c1, c2, c3⟩ := hcell t ht1
      have HX := Lib.hid (show turnAL (l.take (t + 1)) = turnAL (l.take t) ++ [turnA (l.getD t ac0)] by rw [take_snocA (by rw [HL.out]; exact ht1), turnAL_snoc])
      generalize l.getD t ac0 = x at *
      obtain ⟨xf, xt, xm, xo⟩ := x
      simp only at c0 c1 c2 c3
      clear hcell
      go_wp2_with (at_builtin; refine wpList_append_cells _ (by rfl) _ _ 60 (by rfl) w.heap.size 63 4 32 i0 _ Try.underlying60 hi hi0 hi1 hi2 rfl (by decide) u3 t (acsV (turnAL (l.take t))) (by rfl) (by exact (own_below' HR.out ((Below.refl _ _).alloc (Nat.le_refl _) _)).alloc _) ⟨wr.heap.size + 1, 0, none⟩ 1 1 (acV ⟨xt, xf, xm, xo⟩) (by rfl) (by rfl) (by have := one_arc (wr.alloc (.cells #[.int .i64 xf, .int .i64 xt, .int .i64 xm, .int .i64 xo] 63)) ⟨xt, xf, xm, xo⟩ 63; simpa using this) (by exact acV_one _) (by omega) (by decide) (by exact ((HBx.out.alloc HBx.out.size _).alloc (HBx.out.alloc HBx.out.size _).size _).size) ?_)
      intro v' w4 hown hgrow _
      have HB4 := Lib.hid (((HBx.out.alloc HBx.out.size (.cells #[.int .i64 xf, .int .i64 xt, .int .i64 xm, .int .i64 xo] 63)).alloc (HBx.out.alloc HBx.out.size _).size (.cells #[.int .i64 xt, .int .i64 xf, .int .i64 xm, .int .i64 xo] 63)).trans (below_own ((own_below' HR.out ((Below.refl _ _).alloc (Nat.le_refl _) _)).alloc _) hgrow ((HBx.out.alloc HBx.out.size _).alloc (HBx.out.alloc HBx.out.size _).size _).size))
      have HO4 := Lib.hid hown
      clear hown hgrow
      go_wp2_with fail
      go_roundg q
      case measure => omega
      case rel => exact ⟨t + 1, by omega, by go_num, (by rw [HX.out, acsV_snoc]; exact HO4.out), HB4.out⟩

end Go.Proofs.Ytalgbcndifaaiaa.Wd

namespace Go.Proofs.Ytalgbcndifaaiaa.Wd
open Go.RowKit Go.Deep
set_option linter.unusedVariables false
set_option linter.unusedSimpArgs false

/-- Rows of small numbers, in blocks from lo on and below hi. -/
def KeptIn (lo hi : Nat) (w w' : World) : Prop := ∀ j, lo ≤ j → j < hi → w'.heap[j]? = w.heap[j]?
def RowAt (w : World) (lo hi ob s : Nat) (N : List Nat) : Prop :=
  ∃ A c, w.cell? ⟨ob, s, none⟩ = some (.slice A N.length c) ∧
    (0 < N.length → ∃ b off, A = some ⟨b, off, none⟩ ∧ lo ≤ b ∧ b < hi ∧ ∀ u, u < N.length → w.cell? ⟨b, off + u, none⟩ = some (.int .i64 (N.getD u 0 : Nat)))
def NextAt (w : World) (lo hi ob S : Nat) (N : Nat → List Nat) : Prop :=
  lo ≤ ob ∧ ob < hi ∧ ∀ s, s < S → RowAt w lo hi ob s (N s)
theorem NextAt.kept {w w' : World} {lo hi ob S : Nat} {N : Nat → List Nat} (h : NextAt w lo hi ob S N) (hk : ∀ j, lo ≤ j → j < hi → w'.heap[j]? = w.heap[j]?) : NextAt w' lo hi ob S N := by
  obtain ⟨h1, h2, h3⟩ := h
  refine ⟨h1, h2, fun s hs => ?_⟩
  obtain ⟨A, c, hc, hx⟩ := h3 s hs
  refine ⟨A, c, (World.cell?_of_block (a := ⟨ob, s, none⟩) (hk ob h1 h2)).trans hc, fun hp => ?_⟩
  obtain ⟨b, off, e, l1, l2, hu⟩ := hx hp
  exact ⟨b, off, e, l1, l2, fun u hlt => (World.cell?_of_block (a := ⟨b, off + u, none⟩) (hk b l1 l2)).trans (hu u hlt)⟩
theorem RowAt.cells {w : World} {lo hi ob s : Nat} {N : List Nat} (h : RowAt w lo hi ob s N) : ∃ A c, w.cell? ⟨ob, s, none⟩ = some (.slice A N.length c) ∧ ∀ w', KeptIn lo hi w w' → ∀ u, u < N.length → ∃ b off, A = some ⟨b, off, none⟩ ∧ w'.cell? ⟨b, off + u, none⟩ = some (.int .i64 (N.getD u 0 : Nat)) := by
  obtain ⟨A, c, hc, hx⟩ := h
  refine ⟨A, c, hc, fun w' hk u hu => ?_⟩
  obtain ⟨b, off, e, l1, l2, hcl⟩ := hx (by omega)
  exact ⟨b, off, e, (World.cell?_of_block (a := ⟨b, off + u, none⟩) (hk b l1 l2)).trans (hcl u hu)⟩
def ints (L : List Nat) : List Int := L.map fun (x : Nat) => (x : Int)
theorem ints_len (L : List Nat) : (ints L).length = L.length := List.length_map ..
theorem ints_snoc (L : List Nat) (x : Nat) : ints (L ++ [x]) = ints L ++ [(x : Int)] := by unfold ints; rw [List.map_append]; rfl
theorem ints_at {L : List Nat} {u : Nat} (h : u < L.length) : (ints L).getD u 0 = ((L.getD u 0 : Nat) : Int) := by
  unfold ints
  rw [List.getD_eq_getElem?_getD, List.getD_eq_getElem?_getD, List.getElem?_map, List.getElem?_eq_getElem h]
  rfl
theorem NextAt.of_rows {w : World} {lo S : Nat} {V : Nat → Value} {N : Nat → List Nat} (hr : w.rowIs lo 22 S V) (ho : Rows (lo + 1) S w V (fun s => ints (N s))) : NextAt w lo w.heap.size lo S N := by
  refine ⟨Nat.le_refl _, hr.lt, fun s hs => ?_⟩
  have hown := ho.own s hs
  obtain ⟨A, c, hv, _⟩ := own_slice hown
  rw [ints_len] at hv
  refine ⟨A, c, by rw [hr.cell hs, hv], fun hp => ?_⟩
  rw [hv] at hown
  obtain ⟨g, cap, hg, h1, h2⟩ := hown.form (by rw [ints_len]; exact hp)
  rw [ints_len] at hown
  obtain ⟨b, off, e, _, hc⟩ := (Ints.of_own hown).2 hp
  have hb : b = g := by injection hg with hg; rw [e] at hg; injection hg with hg; injection hg
  exact ⟨b, off, e, by omega, by omega, fun u hu => by rw [hc u hu, ints_at hu]⟩

/-- The last element of an own row of small numbers. -/
theorem own_last' {w : World} {B c : Nat} {A : Option Addr} {L : List Nat} {i : Nat} (h : w.ownsRow B 3 1 (.slice A (L.length + 1) c) (L.length + 1) ((ints (L ++ [i])).map (Value.int .i64))) :
    ∃ b, A = some ⟨b, 0, none⟩ ∧ b < w.heap.size ∧ B ≤ b ∧ w.cell? ⟨b, L.length, none⟩ = some (.int .i64 (i : Nat)) ∧ L.length + 1 ≤ c ∧ w.ownsRow B 3 1 (.slice A L.length c) L.length ((ints L).map (Value.int .i64)) := by
  obtain ⟨g, cap, hg, h1, h2⟩ := h.form (by omega)
  injection hg with hg _ hcap
  subst hg
  subst hcap
  obtain ⟨A', c', hv, hcc⟩ := own_slice h
  have hcc : L.length + 1 ≤ c := by injection hv with _ _ hv; omega
  have hc := h.cells (g := g) (by simp [Value.ownBlock]) L.length (.int .i64 (i : Nat)) (by
    rw [ints_snoc, List.map_append, List.getElem?_append_right (by rw [List.length_map, ints_len]; exact Nat.le_refl _), List.length_map, ints_len, Nat.sub_self]
    rfl)
  rw [Addr.add_lit, Nat.zero_add] at hc
  refine ⟨g, rfl, h2, h1, hc, hcc, ?_⟩
  rw [ints_snoc, List.map_append] at h
  exact own_cut h (by omega) (by rw [List.length_map, ints_len, Nat.mul_one]) (by omega)
theorem own_last {w : World} {B c k : Nat} {A : Option Addr} {L : List Nat} {i : Nat} (hk : L.length = k) (h : w.ownsRow B 3 1 (.slice A (k + 1) c) (k + 1) ((ints (L ++ [i])).map (Value.int .i64))) :
    ∃ b, A = some ⟨b, 0, none⟩ ∧ b < w.heap.size ∧ B ≤ b ∧ w.cell? ⟨b, k, none⟩ = some (.int .i64 (i : Nat)) ∧ k + 1 ≤ c ∧ w.ownsRow B 3 1 (.slice A k c) k ((ints L).map (Value.int .i64)) := by
  subst hk
  exact own_last' h
/-- Behind append to an own slice that is not nil. -/
theorem own_flags {w : World} {B n : Nat} {v : Value} {F : Nat → Bool} (h : w.ownsRow B 4 1 v n (FlagsIn.vals n F)) (hv : v.ownBlock ≠ none) : ∃ g cap, v = .slice (some ⟨g, 0, none⟩) n cap ∧ B ≤ g ∧ n ≤ cap ∧ FlagsIn w g n F := by
  rcases h.2 with ⟨rfl, _⟩ | ⟨g, cap', cur, rfl, hb, hg, h1, h2, h3, h4⟩
  · exact absurd rfl hv
  · refine ⟨g, cap', rfl, hb, h1, cur, hg, by omega, fun i hi => ?_⟩
    have h4 : (cur.toList.take (n * 1))[i]? = (FlagsIn.vals n F)[i]? := by rw [h4]
    rw [List.getElem?_take, if_pos (by omega), Array.getElem?_toList] at h4
    rw [h4]
    unfold FlagsIn.vals
    rw [List.getElem?_map, List.getElem?_range hi]
    rfl

/-- The arcs are between nodes, their marks are small. -/
def SmallA (n : Nat) (l : List Ac) : Prop := ∀ a ∈ l, a.f < n ∧ a.t < n ∧ a.m < 2 ^ 62 ∧ a.o < 2 ^ 62
def SmallC (c : Cd) : Prop := c.n < 2 ^ 62 ∧ c.a < 2 ^ 62 ∧ c.n' < 2 ^ 62 ∧ c.a' < 2 ^ 62
def cdV (c : Cd) : Value := .agg #[.int .i64 c.n, .int .i64 c.a, .int .i64 c.n', .int .i64 c.a']

theorem vals_one (n : Nat) (F : Nat → Bool) : ∀ u ∈ FlagsIn.vals n F, u.oneCell' = true := by
  intro u hu
  unfold FlagsIn.vals at hu
  obtain ⟨i, _, rfl⟩ := List.mem_map.1 hu
  rfl
theorem vals_len (n : Nat) (F : Nat → Bool) : (FlagsIn.vals n F).length = n := by unfold FlagsIn.vals; rw [List.length_map, List.length_range]
/-- An empty slice that is not nil. -/
theorem own_none (w : World) (e : TypeId) (sz : Nat) : (w.alloc (.cells #[] e)).ownsRow w.heap.size e sz (.slice (some ⟨w.heap.size, 0, none⟩) 0 0) 0 [] := World.ownsRow_made w #[] 0 (Nat.le_refl _) (by unfold maxLen; omega) (by simp)

end Go.Proofs.Ytalgbcndifaaiaa.Wd

namespace Go.Proofs.Ytalgbcndifaaiaa.Wd
open Go.RowKit Go.Deep
set_option linter.unusedVariables false
set_option linter.unusedSimpArgs false

set_option maxRecDepth 100000 in
set_option maxHeartbeats 8000000 in
theorem reach_walk (n na ca cf bf : Nat) (A : Option Addr) (l : List Ac) (F0 : Nat → Bool) (c : Cd) (w : World) (ha : ArcsAt w A na l) (hf : FlagsIn w bf n F0) (hn : n ≤ 100000) (hna : na ≤ 900000) (hl : SmallA n l) (hc : SmallC c) :
    Calls Try.prog 47 #[.int .i64 n, .slice A na ca, .slice (some ⟨bf, 0, none⟩) n cf, cdV c] w fun e w' =>
      ∃ g F cap, e = .returned (.slice (some ⟨g, 0, none⟩) n cap) ∧ FlagsIn w' g n F ∧ w.heap.size ≤ g ∧ n ≤ cap ∧ (∀ i, i < n → (F i = true ↔ FromP F0 n (sub c l) i)) ∧ Below w.heap.size w w' := by
  obtain ⟨i0, hi, hi0, hi1, hi2⟩ := info_parts bool_info
  obtain ⟨j0, hj, hj0, hj1, hj2⟩ := info_parts int_row
  have hmk := run_make_row' (P := Try.prog) 103 22 (.slice none 0 0) 24 Try.underlying103 row_info rfl .i64 .i64 n (by omega) (by omega)
  have HA := Lib.hid ha
  have HAL := Lib.hid ha.1
  have HL := Lib.hid hl
  have HC := Lib.hid hc
  clear ha hl hc
  unfold cdV
  go_enter Try.func47, Try.ntmps47
  have HO := Lib.hid (show ((w.alloc (.cells #[.int .i64 c.n, .int .i64 c.a, .int .i64 c.n', .int .i64 c.a'] 97)).alloc (.cells #[] 4)).ownsRow (w.heap.size + 1) 4 1 (.slice (some ⟨w.heap.size + 1, 0, none⟩) 0 0) 0 [] by
    have h := own_none (w.alloc (.cells #[.int .i64 c.n, .int .i64 c.a, .int .i64 c.n', .int .i64 c.a'] 97)) 4 1
    rw [show (w.alloc (.cells #[.int .i64 c.n, .int .i64 c.a, .int .i64 c.n', .int .i64 c.a'] 97)).heap.size = w.heap.size + 1 from by simp] at h
    exact h)
  have HB0 := Lib.hid (show Below w.heap.size w ((w.alloc (.cells #[.int .i64 c.n, .int .i64 c.a, .int .i64 c.n', .int .i64 c.a'] 97)).alloc (.cells #[] 4)) from ((Below.refl _ _).alloc (Nat.le_refl _) _).alloc (by simp) _)
  go_wp2_with (at_builtin; refine wpList_append_cells _ (by rfl) _ _ 64 (by rfl) (w.heap.size + 1) 4 1 1 i0 _ Try.underlying64 hi hi0 hi1 hi2 rfl (by decide) (.slice (some ⟨w.heap.size + 1, 0, none⟩) 0 0) 0 [] (by rfl) (by exact HO.out) ⟨bf, 0, none⟩ n cf (FlagsIn.vals n F0) (by rfl) (by rw [vals_len, Nat.mul_one]) (by exact (hf.below HB0.out).vals_at) (by exact vals_one _ _) (by omega) (by decide) (by simp) ?_)
  intro v1 w1 hown hgrow hat
  obtain ⟨g, cap, rfl, hg1, hcap, hfl⟩ := own_flags hown (by rcases hat with h | h <;> rw [h] <;> simp [Value.ownBlock])
  have HBX := below_own HO.out hgrow (by simp)
  have HB1 := Lib.hid (HB0.out.trans (HBX.mono (by simp)))
  have p0 : w1.cell? ⟨w.heap.size, 0, none⟩ = some (.int .i64 c.n) := (HBX.cell (p := ⟨w.heap.size, 0, none⟩) (by simp)).trans (box_first w #[.int .i64 c.n, .int .i64 c.a, .int .i64 c.n', .int .i64 c.a'] 97 (.cells #[] 4) 0)
  have p2 : w1.cell? ⟨w.heap.size, 2, none⟩ = some (.int .i64 c.n') := (HBX.cell (p := ⟨w.heap.size, 2, none⟩) (by simp)).trans (box_first w #[.int .i64 c.n, .int .i64 c.a, .int .i64 c.n', .int .i64 c.a'] 97 (.cells #[] 4) 2)
  have hz01 : w.heap.size + 1 < w1.heap.size := by have := HBX.size; simp at this; omega
  have HFL := Lib.hid hfl
  have hgz := hfl.lt
  clear HBX HO HB0 hown hgrow hat hfl hf
  go_wp2_with fail
  obtain ⟨z1, hz1, HZ1⟩ : ∃ z1, w1.heap.size = z1 ∧ Hid (w1.heap.size = z1) := ⟨_, rfl, rfl⟩
  obtain ⟨W1, hW1⟩ : ∃ W1, w1.alloc (.cells (madeCells #[.slice none 0 0] n) 22) = W1 := ⟨_, rfl⟩
  have HR0 := Lib.hid (show W1.rowIs z1 22 n (fun _ => .slice none 0 0) by rw [← hW1, ← hz1]; exact World.rowIs_made w1 _ n _)
  have HBN := Lib.hid (show Below z1 w1 W1 by rw [← hW1, ← hz1]; exact (Below.refl _ _).alloc (Nat.le_refl _) _)
  have HZW := Lib.hid (show W1.heap.size = z1 + 1 by rw [← hW1]; simp [hz1])
  rw [hW1]
  rw [hz1] at hz01 hgz ⊢
  clear hW1 hz1
  go_loopg [26] na (fun g i wx => ∃ t : Nat, t + g = na ∧ i = .int .i64 t ∧ Hid (∃ V, wx.rowIs z1 22 n V ∧ Rows (z1 + 1) n wx V (fun s => ints (nextL c l s t))) ∧ Hid (Below z1 w1 wx) ∧ Hid (z1 + 1 ≤ wx.heap.size))
  case atStart => exact ⟨0, by omega, rfl, ⟨_, HR0.out, Rows.start _ _ _⟩, HBN.out, (by have := HZW.out; show _ ≤ _; omega)⟩
  case round =>
    obtain ⟨t, htg, rfl, HR, HBx, HZ⟩ := hrel
    have hti : (0 : Int) ≤ (t : Int) := by omega
    have HBw := Lib.hid (HB1.out.trans (HBx.out.mono (by omega)))
    obtain ⟨V, hrow, hrs⟩ := HR.out
    have HROW := Lib.hid hrow
    have HRS := Lib.hid hrs
    have q0 := (HBx.out.cell (p := ⟨w.heap.size, 0, none⟩) (by show w.heap.size < z1; omega)).trans p0
    have q2 := (HBx.out.cell (p := ⟨w.heap.size, 2, none⟩) (by show w.heap.size < z1; omega)).trans p2
    clear hrow hrs HR p0 p2
    cases gk with
    | zero =>
      obtain rfl : na = t := by omega
      have HNX := Lib.hid (NextAt.of_rows (N := fun s => nextL c l s na) HROW.out HRS.out)
      have HNL := Lib.hid (show l.length ≤ na by rw [HAL.out]; exact Nat.le_refl _)
      have HFL2 := Lib.hid (HFL.out.of_block (HBx.out.block _ hgz))
      clear q0 q2 HROW HRS HBN HR0 HZW HC HA HAL HB1 HFL htg hti hmk
      obtain ⟨z3, hz3, HZ3⟩ : ∃ z3, wr.heap.size = z3 ∧ Hid (wr.heap.size = z3) := ⟨_, rfl, rfl⟩
      have hzz := HZ.out
      rw [hz3] at HNX hzz
      clear hz3 HZ HBx
      generalize wr = W3 at *
      go_wp2_with fail
      go_loopg [13, 62] n (fun gk lv i wx => ∃ t : Nat, t + gk = n ∧ i = .int .i64 t ∧ Hid (wx.ownsRow z3 3 1 lv (thereL F0 t).length ((ints (thereL F0 t)).map (Value.int .i64))) ∧ Hid (Below z3 W3 wx))
      case atStart => exact ⟨0, by omega, rfl, World.ownsRow_nil _ _ _ _, Below.refl _ _⟩
      case round =>
        obtain ⟨t, htg, rfl, HR, HBx⟩ := hrel
        have hti : (0 : Int) ≤ (t : Int) := by omega
        have HZx := Lib.hid (show z3 ≤ wr.heap.size by rw [← HZ3.out]; exact HBx.out.size)
        have HFX := Lib.hid (HFL2.out.of_block (HBx.out.block _ (show g < z3 by omega)))
        cases gk with
        | zero =>
          obtain rfl : n = t := by omega
          have HNXX := Lib.hid (HNX.out.kept (fun j _ h => HBx.out.block j h))
          have HBY := Lib.hid (HBw.out.trans (HBx.out.mono (by omega)))
          obtain ⟨L, hL, HLL⟩ : ∃ L, thereL F0 n = L ∧ Hid (thereL F0 n = L) := ⟨_, rfl, rfl⟩
          have hcnt := thereL_cnt F0 n
          rw [hL] at HR hcnt
          have hlln : (sub c l).length ≤ 900000 := by have := List.length_filter_le (okA c) l; unfold sub; have := HNL.out; omega
          have HD := Lib.hid (Dfs.init (F0 := F0) (n := n) (l := sub c l) (L := L) (fun a ha => (HL.out a (mem_sub.1 ha).1).1) (fun x => by rw [← hL]; exact thereL_mem))
          clear hL HLL HFL2 HNX HBx hti htg
          go_wp2_with fail
          have HBY0 := HBY
          have HZX0 := HZx
          have HFX0 := HFX
          have HNX0 := HNXX
          have HR0' := HR
          clear HR HBY HZx HFX HNXX
          go_loopg [13] (2 * n) (fun gk lv wx => ∃ (F : Nat → Bool) (L : List Nat), Hid (wx.ownsRow z3 3 1 lv L.length ((ints L).map (Value.int .i64))) ∧ Hid (FlagsIn wx g n F) ∧ Hid (Dfs F0 n (sub c l) F L (fun _ _ => False)) ∧
            Hid (NextAt wx z1 z3 z1 n (fun s => nextL c l s na)) ∧ Hid (Below w.heap.size w wx) ∧ Hid (z3 ≤ wx.heap.size) ∧ 2 * cntF F n + L.length ≤ gk ∧ gk ≤ 2 * n)
          case atStart => exact ⟨F0, L, HR0', HFX0, HD, HNX0, HBY0, HZX0, by omega, Nat.le_refl _⟩
          case round =>
            clear HR0' HFX0 HD HNX0 HBY0 HZX0 hcnt L
            obtain ⟨F, L, HR, HFX, HD, HNX, HBY, HZx, hme, hgn⟩ := hrel
            rcases List.eq_nil_or_concat L with rfl | ⟨L', i, hLc⟩
            · obtain ⟨A', c', hv, _⟩ := own_slice HR.out
              have hv : u13 = .slice A' 0 c' := hv
              subst hv
              have HDN := Lib.hid (HD.out.done (fun a ha => ⟨(HL.out a (mem_sub.1 ha).1).1, (HL.out a (mem_sub.1 ha).1).2.1⟩))
              clear HD hme HR
              go_wp2_with fail
              go_ret
              exact ⟨g, F, cap, rfl, HFX.out, by omega, hcap, HDN.out, HBY.out⟩
            · rw [List.concat_eq_append] at hLc
              subst hLc
              have HN := Lib.hid (fun a (ha : a ∈ sub c l) (hf : a.f = i) => (nextL_mem (s := i) (y := a.t) HNL.out).2 ⟨a, ha, hf, rfl⟩)
              have HM := Lib.hid (fun y => (nextL_mem (c := c) (s := i) (y := y) HNL.out).1)
              obtain ⟨hin, hFi, hDP⟩ := HD.out.pop HN.out
              obtain ⟨_, _, hnx⟩ := HNX.out
              obtain ⟨A2, c2, kn, hnc⟩ := (show RowAt wr z1 z3 z1 i (nextL c l i na) from hnx i hin).cells
              have HDP := Lib.hid hDP
              have HFI := Lib.hid hFi
              have HNC := Lib.hid hnc
              clear hDP hFi hnc hnx HD
              have hlen : (nextL c l i na).length ≤ na := nextL_len c l i na
              obtain ⟨N, hN, HNN⟩ : ∃ N, nextL c l i na = N ∧ Hid (nextL c l i na = N) := ⟨_, rfl, rfl⟩
              rw [hN] at hlen kn
              rw [hN] at HNC
              rw [hN] at HDP
              have HM := Lib.hid (show ∀ y ∈ N, ∃ a ∈ sub c l, a.f = i ∧ a.t = y from fun y hy => HM.out y (by rw [hN]; exact hy))
              clear hN HN
              obtain ⟨m, hm, HMM⟩ : ∃ m, N.length = m ∧ Hid (N.length = m) := ⟨_, rfl, rfl⟩
              rw [hm] at hlen kn
              clear hm
              have hR := HR.out
              obtain ⟨k, hk, HKK⟩ : ∃ k, L'.length = k ∧ Hid (L'.length = k) := ⟨_, rfl, rfl⟩
              rw [show (L' ++ [i]).length = k + 1 from by simp [hk]] at hR
              rw [show (L' ++ [i]).length = k + 1 from by simp [hk]] at hme
              obtain ⟨A', c', hv, _⟩ := own_slice hR
              subst hv
              obtain ⟨b, rfl, hbl, hzb, hcl, hcc, hcut⟩ := own_last hk hR
              have HCUT := Lib.hid hcut
              clear hR hcut HR
              clear hk
              cases gk with
              | zero => omega
              | succ q =>
                have hk0 : (0 : Int) ≤ (k : Int) := by omega
                have hk1 : (k : Int) ≤ 900000 := by omega
                have hi0' : (0 : Int) ≤ (i : Int) := by omega
                have hi1' : (i : Int) < (n : Int) := by omega
                go_wp2_with fail
                have HRQ := Lib.hid (show wr.ownsRow z3 3 1 (.slice (some ⟨b, 0, none⟩) k c') L'.length ((ints L').map (Value.int .i64)) by rw [HKK.out]; exact HCUT.out)
                have hmq : 2 * cntF F n + L'.length ≤ q := by have := HKK.out; omega
                have HFX0 := HFX
                have HNX0 := HNX
                have HBY0 := HBY
                have HZX0 := HZx
                clear HCUT hme hcl hbl hzb hcc hk0 hk1 HFX HNX HBY HZx kn HKK
                go_loopg [13, 92] m (fun gk lv iv wx => ∃ (u : Nat) (F : Nat → Bool) (L : List Nat), u + gk = m ∧ iv = .int .i64 u ∧ Hid (wx.ownsRow z3 3 1 lv L.length ((ints L).map (Value.int .i64))) ∧ Hid (FlagsIn wx g n F) ∧ Hid (F i = true) ∧ Hid (Dfs F0 n (sub c l) F L (fun x y => x = i ∧ y ∈ N.drop u)) ∧
                  Hid (KeptIn z1 z3 wr wx) ∧ Hid (Below w.heap.size w wx) ∧ Hid (z3 ≤ wx.heap.size) ∧ 2 * cntF F n + L.length ≤ q)
                case atStart => exact ⟨0, F, L', by omega, rfl, HRQ, HFX0, HFI, HDP, (fun j _ _ => rfl), HBY0, HZX0, hmq⟩
                case round =>
                  clear HRQ HFX0 HFI HDP HBY0 HZX0 hmq F
                  obtain ⟨u, F, L, hug, rfl, HR, HFX, HFI, HD, HKP, HBY, HZx, hmq⟩ := hrel
                  have hu0 : (0 : Int) ≤ (u : Int) := by omega
                  cases gk with
                  | zero =>
                    obtain rfl : m = u := by omega
                    have HDO := Lib.hid (HD.out.out (by rw [HMM.out]; exact Nat.le_refl _))
                    go_wp2_with fail
                    go_roundg q
                    case measure => omega
                    case rel => exact ⟨F, L, HR, HFX, HDO, HNX0.out.kept HKP.out, HBY, HZx, hmq, by omega⟩
                  | succ p =>
                    have hu1 : u < m := by omega
                    have hu2 : (u : Int) < (m : Int) := by omega
                    obtain ⟨b2, off2, hA2, kc⟩ := HNC.out _ HKP.out u (by rw [HMM.out]; exact hu1)
                    subst hA2
                    obtain ⟨k, hk, HKK⟩ : ∃ k, N.getD u 0 = k ∧ Hid (N.getD u 0 = k) := ⟨_, rfl, rfl⟩
                    rw [hk] at kc
                    clear hk
                    have hkn : k < n := by
                      obtain ⟨a, ha, _, hat⟩ := HM.out k (by
                        have hlt : u < N.length := by rw [HMM.out]; exact hu1
                        rw [← HKK.out, List.getD_eq_getElem?_getD, List.getElem?_eq_getElem hlt]; exact List.getElem_mem hlt)
                      rw [← hat]; exact (HL.out a (mem_sub.1 ha).1).2.1
                    have hkk0 : (0 : Int) ≤ (k : Int) := by omega
                    have hkk1 : (k : Int) < (n : Int) := by omega
                    have kf := HFX.out.cell hkn
                    have kz := HFX.out.free k
                    cases hFk : F k
                    · rw [hFk] at kf
                      have HDM := Lib.hid (HD.out.meet (by rw [HMM.out]; exact hu1) HKK.out hkn hin HFI.out HM.out)
                      have HCN := Lib.hid (cntF_set hFk n hkn)
                      have hll : L.length ≤ 900000 := by omega
                      have HRS := Lib.hid (ownsRow_setCell_below HR.out (a := ⟨g, k, none⟩) (by show g < z3; omega) (.bool true))
                      have HBS := Lib.hid (HBY.out.setCell (p := ⟨g, k, none⟩) (by show w.heap.size ≤ g; omega) (.bool true))
                      have hzs : z3 ≤ (wr.setCell ⟨g, k, none⟩ (.bool true)).heap.size := by have := HZx.out; simpa using this
                      have HZS := Lib.hid hzs
                      clear hFk hzs
                      go_wp2_with (at_builtin; refine wpList_append_cells _ (by rfl) _ _ 22 (by rfl) z3 3 1 8 j0 _ Try.underlying22 hj hj0 hj1 hj2 rfl (by decide) u13 L.length ((ints L).map (Value.int .i64)) (by rfl) (by exact HRS.out.alloc _) ⟨wr.heap.size, 0, none⟩ 1 1 [.int .i64 (k : Int)] (by rfl) (by rfl) (by
                        intro j u hu
                        have h := box_last (wr.setCell ⟨g, k, none⟩ (.bool true)) #[.int .i64 (k : Int)] 3 j
                        rw [show (wr.setCell ⟨g, k, none⟩ (.bool true)).heap.size = wr.heap.size from by simp] at h
                        rw [Addr.add_lit, Nat.zero_add, h]; simpa using hu) (by intro u hu; rw [List.mem_singleton.1 hu]; rfl) (by omega) (by decide) (by have := HZS.out; rw [show ((wr.setCell ⟨g, k, none⟩ (.bool true)).alloc (.cells #[.int .i64 (k : Int)] 3)).heap.size = (wr.setCell ⟨g, k, none⟩ (.bool true)).heap.size + 1 from by simp]; omega) ?_)
                      intro v' w4 hown hgrow _
                      have hb4 := below_own (HRS.out.alloc _) hgrow (by have := HZS.out; rw [show ((wr.setCell ⟨g, k, none⟩ (.bool true)).alloc (.cells #[.int .i64 (k : Int)] 3)).heap.size = (wr.setCell ⟨g, k, none⟩ (.bool true)).heap.size + 1 from by simp]; omega)
                      have HB4 := Lib.hid (((Below.refl z3 _).alloc HZS.out (.cells #[.int .i64 (k : Int)] 3)).trans hb4)
                      have HO4 := Lib.hid hown
                      clear hown hgrow hb4
                      go_wp2_with fail
                      go_roundg p
                      case measure => omega
                      case rel =>
                        refine ⟨u + 1, updB F k, L ++ [k], by omega, by go_num, ?_, ?_, updB_mono HFI.out, HDM, ?_, HBS.out.trans (HB4.out.mono (by omega)), Nat.le_trans HZS.out HB4.out.size, ?_⟩
                        · show World.ownsRow _ _ _ _ _ _ _
                          rw [ints_snoc, List.length_append, List.map_append]; exact HO4.out
                        · exact (HFX.out.upd k).of_block (HB4.out.block _ (by omega))
                        · intro j h1 h2
                          exact (HB4.out.block j h2).trans ((blk_setCell_other _ _ _ _ (by show j ≠ g; omega)).trans (HKP.out j h1 h2))
                        · have := HCN.out; rw [List.length_append]; show _ + (_ + 1) ≤ _; omega
                    · rw [hFk] at kf
                      have HDS := Lib.hid (HD.out.seen (by rw [HMM.out]; exact hu1) HKK.out hFk)
                      clear hFk
                      go_wp2_with fail
                      go_roundg p
                      case measure => omega
                      case rel => exact ⟨u + 1, F, L, by omega, by go_num, HR, HFX, HFI, HDS, HKP, HBY, HZx, hmq⟩
        | succ q =>
          have ht1 : t < n := by omega
          have hti2 : (t : Int) < (n : Int) := by omega
          have kx := HFX.out.cell ht1
          cases hF : F0 t
          · rw [hF] at kx
            have HX := Lib.hid (thereL_no hF)
            clear hF
            go_wp2_with fail
            go_roundg q
            case measure => omega
            case rel => exact ⟨t + 1, by omega, by go_num, by rw [HX.out]; exact HR.out, HBx.out⟩
          · rw [hF] at kx
            have HX := Lib.hid (thereL_yes hF)
            have HLN := Lib.hid (thereL_len F0 t)
            clear hF
            go_wp2_with (at_builtin; refine wpList_append_cells _ (by rfl) _ _ 22 (by rfl) z3 3 1 8 j0 _ Try.underlying22 hj hj0 hj1 hj2 rfl (by decide) u13 (thereL F0 t).length ((ints (thereL F0 t)).map (Value.int .i64)) (by rfl) (by exact HR.out.alloc _) ⟨wr.heap.size, 0, none⟩ 1 1 [.int .i64 (t : Int)] (by rfl) (by rfl) (by intro j u hu; rw [Addr.add_lit, Nat.zero_add, box_last]; simpa using hu) (by intro u hu; rw [List.mem_singleton.1 hu]; rfl) (by have := HLN.out; omega) (by decide) (by have := HZx.out; simp; omega) ?_)
            intro v' w4 hown hgrow _
            have HB4 := Lib.hid ((HBx.out.alloc HZx.out (.cells #[.int .i64 (t : Int)] 3)).trans (below_own (HR.out.alloc _) hgrow (by have := HZx.out; simp; omega)))
            have HO4 := Lib.hid hown
            clear hown hgrow
            go_wp2_with fail
            go_roundg q
            case measure => omega
            case rel => exact ⟨t + 1, by omega, by go_num, (by rw [HX.out, ints_snoc, List.length_append, List.map_append]; exact HO4.out), HB4.out⟩
    | succ q =>
      have ht1 : t < na := by omega
      have hti2 : (t : Int) < (na : Int) := by omega
      obtain ⟨b, rfl, _, hlt, hcell⟩ := (HA.out.below HBw.out).2 (by omega)
      obtain ⟨c0, c1, c2, c3⟩ := hcell t ht1
      obtain ⟨hxf, hxt, hxm, hxo⟩ := HL.out _ (acsD_mem (l := l) (by rw [HAL.out]; exact ht1))
      have HYES := Lib.hid (fun x (hx : l.getD t ac0 = x) h => nextL_yes (c := c) (by rw [HAL.out]; exact ht1) hx h)
      have HNO := Lib.hid (fun s x (hx : l.getD t ac0 = x) h => nextL_no (c := c) (s := s) (by rw [HAL.out]; exact ht1) hx h)
      obtain ⟨x, hx, HXX⟩ : ∃ x, l.getD t ac0 = x ∧ Hid (l.getD t ac0 = x) := ⟨_, rfl, rfl⟩
      rw [hx] at c0 c1 c2 c3 hxf hxt hxm hxo
      clear hx hcell
      obtain ⟨xf, xt, xm, xo⟩ := x
      simp only at c0 c1 c2 c3 hxf hxt hxm hxo
      have HLN := Lib.hid (nextL_len c l xf t)
      have HMB := Lib.hid (And.intro hxm hxo)
      have hf0 : (0 : Int) ≤ (xf : Int) := by omega
      have hf1 : (xf : Int) < (n : Int) := by omega
      have HFS := Lib.hid hxf
      clear hxm hxo
      have hz0 : z1 < wr.heap.size := by have := HZ.out; omega
      have hzq : w.heap.size < wr.heap.size := by omega
      by_cases h1 : xm &&& c.n = 0
      · have e1 : bits .and .i64 (xm : Int) (c.n : Int) = 0 := by rw [and_i64 _ _ HMB.out.1 HC.out.1, h1]; rfl
        have H1 := Lib.hid h1
        clear h1
        by_cases h2 : xo &&& c.n' = 0
        · have e2 : bits .and .i64 (xo : Int) (c.n' : Int) = 0 := by rw [and_i64 _ _ HMB.out.2 HC.out.2.2.1, h2]; rfl
          have HX := Lib.hid (HYES.out _ HXX.out (by unfold okA; rw [H1.out, h2]; rfl))
          have HY := Lib.hid (fun s (hs : xf ≠ s) => HNO.out s _ HXX.out (.inr hs))
          clear h2 HYES HNO HXX H1 HMB
          obtain ⟨v, hvf, HVF⟩ : ∃ v, V xf = v ∧ Hid (V xf = v) := ⟨_, rfl, rfl⟩
          have hv : wr.cell? ⟨z1, xf, none⟩ = some v := by rw [← hvf]; exact HROW.out.cell hxf
          have hfz := HROW.out.frozen xf
          have hfS := HFS.out
          have HO := Lib.hid (show wr.ownsRow (z1 + 1) 3 1 v (nextL c l xf t).length ((ints (nextL c l xf t)).map (Value.int .i64)) by rw [← hvf]; have h := HRS.out.own xf hxf; rw [ints_len] at h; exact h)
          clear hvf
          go_wp2_with fail
          have HBA := Lib.hid (show Below wr.heap.size wr ((wr.alloc (.cells #[.int .i64 xf, .int .i64 xt, .int .i64 xm, .int .i64 xo] 63)).alloc (.cells #[.int .i64 xt] 3)).drew from (((Below.refl _ _).alloc (Nat.le_refl _) _).alloc (by simp) _).drew)
          refine wp_region_until_drew (st := [13]) (S := fun V => V.cell? ⟨wr.heap.size, 0, none⟩ = some (.int .i64 xf) ∧ V.cell? ⟨wr.heap.size, 1, none⟩ = some (.int .i64 xt) ∧ V.cell? ⟨z1, xf, none⟩ = some v) (by kernel_rfl) ⟨by show World.cell? (wr.alloc _) _ = _; rw [box_last]; rfl, by show World.cell? (wr.alloc _) _ = _; rw [box_last]; rfl, by show World.cell? (wr.alloc _) _ = _; rw [Below.cell ((Below.refl wr.heap.size wr).alloc (Nat.le_refl _) _) hz0]; exact hv⟩ (fun hHeld => ?_)
          refine wpAnyU_pure (i := 0) (v := ?vo0) rfl (by kernel_rfl) (by kernel_rfl) (by kernel_rfl) (by kernel_rfl) (fun _ _ _ h => h) (Or.inl ⟨by rfl, fun V _ => ?hyo0⟩) (fun _ => hHeld) ?resto0
          case hyo0 => go_simp; try with_reducible rfl
          try simp only [Act.put, List.getElem_toArray, List.getElem_cons_zero, List.getElem_cons_succ, List.setIfInBounds_toArray, List.set_cons_zero, List.set_cons_succ]
          refine wpAnyU_pure (i := 1) (v := ?vo1) rfl (by kernel_rfl) (by kernel_rfl) (by kernel_rfl) (by kernel_rfl) (fun _ _ _ h => h) (Or.inl ⟨by rfl, fun V _ => ?hyo1⟩) (fun _ => hHeld) ?resto1
          case hyo1 => go_simp; try with_reducible rfl
          try simp only [Act.put, List.getElem_toArray, List.getElem_cons_zero, List.getElem_cons_succ, List.setIfInBounds_toArray, List.set_cons_zero, List.set_cons_succ]
          refine wpAnyU_load (i := 2) (v := ?vo2) rfl (by kernel_rfl) (by kernel_rfl) (by kernel_rfl) (by kernel_rfl) (fun _ _ _ h => h) (Or.inl ⟨by rfl, fun V hSw => ?hyo2⟩) hHeld ?resto2
          case hyo2 => (obtain ⟨hs1, hs2, hs3⟩ := hSw); go_simp; try with_reducible rfl
          try simp only [Act.put, List.getElem_toArray, List.getElem_cons_zero, List.getElem_cons_succ, List.setIfInBounds_toArray, List.set_cons_zero, List.set_cons_succ]
          refine wpAnyU_pure (i := 3) (v := ?vo3) rfl (by kernel_rfl) (by kernel_rfl) (by kernel_rfl) (by kernel_rfl) (fun _ _ _ h => h) (Or.inl ⟨by rfl, fun V _ => ?hyo3⟩) (fun _ => hHeld) ?resto3
          case hyo3 => go_simp; try with_reducible rfl
          try simp only [Act.put, List.getElem_toArray, List.getElem_cons_zero, List.getElem_cons_succ, List.setIfInBounds_toArray, List.set_cons_zero, List.set_cons_succ]
          refine wpAnyU_pure (i := 4) (v := ?vo4) rfl (by kernel_rfl) (by kernel_rfl) (by kernel_rfl) (by kernel_rfl) (fun _ _ _ h => h) (Or.inl ⟨by rfl, fun V _ => ?hyo4⟩) (fun _ => hHeld) ?resto4
          case hyo4 => go_simp; try with_reducible rfl
          try simp only [Act.put, List.getElem_toArray, List.getElem_cons_zero, List.getElem_cons_succ, List.setIfInBounds_toArray, List.set_cons_zero, List.set_cons_succ]
          refine wpAnyU_load (i := 5) (v := ?vo5) rfl (by kernel_rfl) (by kernel_rfl) (by kernel_rfl) (by kernel_rfl) (fun _ _ _ h => h) (Or.inl ⟨by rfl, fun V hSw => ?hyo5⟩) hHeld ?resto5
          case hyo5 => (obtain ⟨hs1, hs2, hs3⟩ := hSw); go_simp; try with_reducible rfl
          try simp only [Act.put, List.getElem_toArray, List.getElem_cons_zero, List.getElem_cons_succ, List.setIfInBounds_toArray, List.set_cons_zero, List.set_cons_succ]
          refine wpAnyU_pure (i := 6) (v := ?vo6) rfl (by kernel_rfl) (by kernel_rfl) (by kernel_rfl) (by kernel_rfl) (fun _ _ _ h => h) (Or.inl ⟨by rfl, fun V _ => ?hyo6⟩) (fun _ => hHeld) ?resto6
          case hyo6 => go_simp; try with_reducible rfl
          try simp only [Act.put, List.getElem_toArray, List.getElem_cons_zero, List.getElem_cons_succ, List.setIfInBounds_toArray, List.set_cons_zero, List.set_cons_succ]
          refine wpAnyU_load (i := 7) (v := ?vo7) rfl (by kernel_rfl) (by kernel_rfl) (by kernel_rfl) (by kernel_rfl) (fun _ _ _ h => h) (Or.inl ⟨by rfl, fun V hSw => ?hyo7⟩) hHeld ?resto7
          case hyo7 => (obtain ⟨hs1, hs2, hs3⟩ := hSw); go_simp; try with_reducible rfl
          try simp only [Act.put, List.getElem_toArray, List.getElem_cons_zero, List.getElem_cons_succ, List.setIfInBounds_toArray, List.set_cons_zero, List.set_cons_succ]
          refine wpAnyU_pure (i := 8) (v := ?vo8) rfl (by kernel_rfl) (by kernel_rfl) (by kernel_rfl) (by kernel_rfl) (fun _ _ _ h => h) (Or.inl ⟨by rfl, fun V _ => ?hyo8⟩) (fun _ => hHeld) ?resto8
          case hyo8 => go_simp; try with_reducible rfl
          try simp only [Act.put, List.getElem_toArray, List.getElem_cons_zero, List.getElem_cons_succ, List.setIfInBounds_toArray, List.set_cons_zero, List.set_cons_succ]
          refine wpAnyU_load (i := 9) (v := ?vo9) rfl (by kernel_rfl) (by kernel_rfl) (by kernel_rfl) (by kernel_rfl) (fun _ _ _ h => h) (Or.inl ⟨by rfl, fun V hSw => ?hyo9⟩) hHeld ?resto9
          case hyo9 => (obtain ⟨hs1, hs2, hs3⟩ := hSw); go_simp; try with_reducible rfl
          try simp only [Act.put, List.getElem_toArray, List.getElem_cons_zero, List.getElem_cons_succ, List.setIfInBounds_toArray, List.set_cons_zero, List.set_cons_succ]
          refine wpAnyU_ready (rs := [10]) (by kernel_rfl) (by simp) (AllU.cons (i := 10) rfl (fun K hK => ?_) AllU.nil)
          simp only [List.getElem_toArray, List.getElem_cons_zero, List.getElem_cons_succ]
          go_simp
          refine hK.out _ _ (fun _ => ⟨?se, ?sf, (HBA.out.cell (p := ⟨z1, xf, none⟩) hz0).trans hv⟩) ?re
          case se => exact (box_first wr #[.int .i64 xf, .int .i64 xt, .int .i64 xm, .int .i64 xo] 63 (.cells #[.int .i64 xt] 3) 0)
          case sf => exact (box_first wr #[.int .i64 xf, .int .i64 xt, .int .i64 xm, .int .i64 xo] 63 (.cells #[.int .i64 xt] 3) 1)
          clear hK K
          try simp only [Act.put, List.getElem_toArray, List.getElem_cons_zero, List.getElem_cons_succ, List.setIfInBounds_toArray, List.set_cons_zero, List.set_cons_succ]
          refine wpAnyU_ready (rs := [11]) (by kernel_rfl) (by simp) (AllU.cons (i := 11) rfl (fun K hK => ?_) AllU.nil)
          have hown0 := own_keep HO.out HBA.out
          have hbase : z1 + 1 ≤ ((wr.alloc (.cells #[.int .i64 xf, .int .i64 xt, .int .i64 xm, .int .i64 xo] 63)).alloc (.cells #[.int .i64 xt] 3)).drew.heap.size := Nat.le_trans HZ.out HBA.out.size
          refine step_append_ints _ (by rfl) _ _ _ (by rfl) (z1 + 1) 3 j0 _ Try.underlying22 hj hj0 hj1 hj2 rfl v (nextL c l xf t).length ((ints (nextL c l xf t)).map (Value.int .i64)) (by rfl) (by exact hown0) (some ⟨wr.heap.size + 1, 0, none⟩) 1 1 [(xt : Int)] (by rfl) (by exact one_new (wr.alloc (.cells #[.int .i64 xf, .int .i64 xt, .int .i64 xm, .int .i64 xo] 63)) (wr.heap.size + 1) (by simp) xt _) (by have := HLN.out; omega) (by exact hbase) ?_
          intro v' w2 hown hgrow hat
          obtain ⟨A', c', hve, hcc⟩ := own_slice hown
          have HRW := Lib.hid ((HRS.out.below HBA.out).grow hfS (l := ints (nextL c l xf t)) ⟨HVF.out, rfl⟩ (by rw [ints_len]; exact hown) hgrow hat)
          rw [hve] at HRW
          rw [hve] at hown hat ⊢
          have hb2 := below_own hown0 hgrow hbase
          have HB2 := Lib.hid hb2
          have HOW := Lib.hid hown
          have hc2 : w2.cell? ⟨z1, xf, none⟩ = some v := (hb2.cell (p := ⟨z1, xf, none⟩) (by simp)).trans ((HBA.out.cell (p := ⟨z1, xf, none⟩) hz0).trans hv)
          have hf2 : w2.frozen? ⟨z1, xf, none⟩ = false := (hb2.frozen (p := ⟨z1, xf, none⟩) (by simp)).trans ((HBA.out.frozen (p := ⟨z1, xf, none⟩) hz0).trans hfz)
          have he2 : w2.cell? ⟨wr.heap.size, 0, none⟩ = some (.int .i64 xf) := (hgrow.cell_far ⟨wr.heap.size, 0, none⟩ (by simp; omega) (own_apart0 HO.out (Nat.le_refl _))).trans (box_first wr #[.int .i64 xf, .int .i64 xt, .int .i64 xm, .int .i64 xo] 63 (.cells #[.int .i64 xt] 3) 0)
          have he3 : w2.cell? ⟨wr.heap.size, 1, none⟩ = some (.int .i64 xt) := (hgrow.cell_far ⟨wr.heap.size, 1, none⟩ (by simp; omega) (own_apart0 HO.out (Nat.le_refl _))).trans (box_first wr #[.int .i64 xf, .int .i64 xt, .int .i64 xm, .int .i64 xo] 63 (.cells #[.int .i64 xt] 3) 1)
          clear hve hown0 hown hgrow hat hb2 hHeld
          have hHeld := And.intro he2 (And.intro he3 hc2)
          refine hK.out _ _ (fun _ => hHeld) ?_
          clear hK K
          try simp only [Act.put, List.getElem_toArray, List.getElem_cons_zero, List.getElem_cons_succ, List.setIfInBounds_toArray, List.set_cons_zero, List.set_cons_succ]
          refine wpAnyU_pure (i := 12) (v := ?vq12) rfl (by kernel_rfl) (by kernel_rfl) (by kernel_rfl) (by kernel_rfl) (fun _ _ _ h => h) (Or.inl ⟨by rfl, fun V _ => ?hyq12⟩) (fun _ => hHeld) ?restq12
          case hyq12 => go_simp; try with_reducible rfl
          try simp only [Act.put, List.getElem_toArray, List.getElem_cons_zero, List.getElem_cons_succ, List.setIfInBounds_toArray, List.set_cons_zero, List.set_cons_succ]
          refine wpAnyU_ready (rs := [13]) (by kernel_rfl) (by simp) (AllU.cons (i := 13) rfl (fun K hK => ?_) AllU.nil)
          simp only [List.getElem_toArray, List.getElem_cons_zero, List.getElem_cons_succ]
          go_simp
          refine hK.out _ _ (fun h => by have h2 : false = true := h; cases h2) ?_
          clear hK K
          try simp only [Act.put, List.getElem_toArray, List.getElem_cons_zero, List.getElem_cons_succ, List.setIfInBounds_toArray, List.set_cons_zero, List.set_cons_succ]
          refine wpAnyU_done (by kernel_rfl) ?_ _
          clear hHeld
          go_wp2_with fail
          go_roundg q
          case measure => omega
          case rel =>
            refine ⟨t + 1, by omega, by go_num, ⟨_, (((HROW.out.of_block (HBA.out.block _ hz0)).of_block (HB2.out.block _ (by omega))).set xf (.slice A' ((nextL c l xf t).length + 1) c')), ?_⟩, ?_, ?_⟩
            · have h1 := (HRW.out.put (a := ⟨z1, xf, none⟩) (by show z1 < z1 + 1; omega) (.slice A' ((nextL c l xf t).length + 1) c')).lists (L' := fun s => ints (nextL c l s (t + 1))) (fun s hs => by
                show putL _ xf _ s = ints (nextL c l s (t + 1))
                unfold putL
                by_cases e : s = xf
                · subst e; rw [if_pos rfl, HX.out, ints_snoc]
                · rw [if_neg e, HY.out s (fun h => e h.symm)])
              exact h1
            · exact ((HBx.out.trans (HBA.out.mono (by omega))).trans (HB2.out.mono (by omega))).setCell (p := ⟨z1, xf, none⟩) (by simp) _
            · have := Nat.le_trans hbase HB2.out.size
              show _ ≤ _
              simpa using this
        · have e2 : bits .and .i64 (xo : Int) (c.n' : Int) = ((xo &&& c.n' : Nat) : Int) := and_i64 _ _ HMB.out.2 HC.out.2.2.1
          have HY := Lib.hid (fun s => HNO.out s _ HXX.out (.inl (by unfold okA; rw [H1.out, beq_false_of_ne h2, Bool.and_false])))
          generalize xo &&& c.n' = r2 at *
          have e3 : ((r2 : Int) == 0) = false := by simpa using h2
          clear HYES HNO HXX H1 HMB h2
          go_wp2_with fail
          go_roundg q
          case measure => omega
          case rel =>
            refine ⟨t + 1, by omega, by go_num, ⟨V, HROW.out.alloc _, ?_⟩, HBx.out.alloc (by have := HZ.out; omega) _, ?_⟩
            · have h1 := (HRS.out.below ((Below.refl _ _).alloc (Nat.le_refl _) (.cells #[.int .i64 xf, .int .i64 xt, .int .i64 xm, .int .i64 xo] 63))).lists (L' := fun s => ints (nextL c l s (t + 1))) (fun s hs => by rw [HY.out s])
              exact h1
            · have := HZ.out
              show _ ≤ _
              simp; omega
      · have e1 : bits .and .i64 (xm : Int) (c.n : Int) = ((xm &&& c.n : Nat) : Int) := and_i64 _ _ HMB.out.1 HC.out.1
        have HY := Lib.hid (fun s => HNO.out s _ HXX.out (.inl (by unfold okA; rw [beq_false_of_ne h1, Bool.false_and])))
        generalize xm &&& c.n = r2 at *
        have e3 : ((r2 : Int) == 0) = false := by simpa using h1
        clear HYES HNO HXX HMB h1
        go_wp2_with fail
        go_roundg q
        case measure => omega
        case rel =>
          refine ⟨t + 1, by omega, by go_num, ⟨V, HROW.out.alloc _, ?_⟩, HBx.out.alloc (by have := HZ.out; omega) _, ?_⟩
          · have h1 := (HRS.out.below ((Below.refl _ _).alloc (Nat.le_refl _) (.cells #[.int .i64 xf, .int .i64 xt, .int .i64 xm, .int .i64 xo] 63))).lists (L' := fun s => ints (nextL c l s (t + 1))) (fun s hs => by rw [HY.out s])
            exact h1
          · have := HZ.out
            show _ ≤ _
            simp; omega

end Go.Proofs.Ytalgbcndifaaiaa.Wd
