/-
  first of package word: the first letters of a word.
-/
import Derived.Test.YteidikkeoaolgaaDoorWdLetters
import Derived.Test.YteidikkeoaolgaaDoorWdRdS
namespace Go.Proofs.YteidikkeoaolgaaDoor.Wd
open Go.RowKit Go.Shelf
set_option linter.unusedVariables false

attribute [local go_sem] Oper.semAt_some

set_option maxHeartbeats 1000000 in
theorem letters_in (F : Fence) (q : Nat) (h119 : F.fn 101) (hro : F.round = none) (A B : Option Addr) (n c m d : Nat) (w : World) :
    CallsIn F q Tryd.prog 101 #[.agg #[.slice A n c, .slice B m d]] w fun e w' => e = .returned (.func (.func 128) #[] #[.pointer (some ⟨w.heap.size, 0, none⟩)]) ∧ w' = w.alloc (.cells #[.slice A n c, .slice B m d] 24) := by
  refine callsIn_of_wp Tryd.func101 rfl h119 ?_ hro
  simp only [Tryd.ntmps101, List.size_toArray, List.length_cons, List.length_nil, Nat.reduceAdd, Nat.reduceSub, Array.replicate_succ, Array.replicate_zero, List.push_toArray, List.append_toArray, List.nil_append, List.cons_append]
  gi_wp2
  go_ret
  exact ⟨rfl, rfl⟩

/-- The first letters. -/
def firstL (s l : List Int) (k : Nat) : List Value := ((List.range k).map (at_ s l)).map (Value.int .i64)
theorem firstL_succ (s l : List Int) (k : Nat) : firstL s l (k + 1) = firstL s l k ++ [.int .i64 (at_ s l k)] := by simp [firstL, List.range_succ]

/-- Between two rounds: k letters have come. -/
structure FirstI (w : World) (b N : Nat) (A : Option Addr) (n c : Nat) (B : Option Addr) (m d : Nat) (s l : List Int) (k : Nat) (W : World) : Prop where
  le : k ≤ N
  row : ∃ v, Boxed W (b + 1 + 1 + 1) 22 v ∧ W.ownsRow (b + 1 + 1) 3 1 v k (firstL s l k)
  cnt : Boxed W (b + 1) 3 (.int .i64 N)
  it : W.heap[b + 1 + 1 + 1 + 1]? = some (.cells #[.slice A n c, .slice B m d] 24)
  bel : Below b w W

theorem own_le {W : World} {base base' size n : Nat} {e : TypeId} {v : Value} {xs : List Value} (h : W.ownsRow base e size v n xs) (hb : base' ≤ base) : W.ownsRow base' e size v n xs :=
  ⟨h.1, h.2.imp id fun ⟨g, cap, cur, hv, hB, r⟩ => ⟨g, cap, cur, hv, Nat.le_trans hb hB, r⟩⟩
theorem row_not_it {W : World} {base size n g : Nat} {e t : TypeId} {v : Value} {xs : List Value} {cs : Array Value} (h : W.ownsRow base e size v n xs) (hg : W.heap[g]? = some (.cells cs t)) (hne : t ≠ e) : some g ≠ v.ownBlock := by
  intro he
  rcases h.2 with ⟨rfl, _⟩ | ⟨g', cap, cur, rfl, _, hg', _⟩
  · simp [Value.ownBlock] at he
  · simp only [Value.ownBlock, Option.some.injEq] at he
    subst he
    rw [hg] at hg'
    injection hg' with hg'
    injection hg' with _ h2
    exact hne h2

section
variable {w : World} {b N n c m d k : Nat} {A B : Option Addr} {s l : List Int} {W : World}

theorem FirstI.put (h : FirstI w b N A n c B m d s l k W) {r : Nat} {o : Obj} (o' : Obj) (hr : b + 5 ≤ r) (hl : W.heap[r]? = some o) (ho : o.isCells = false) : FirstI w b N A n c B m d s l k (W.putObj r o') where
  le := h.le
  row := by
    obtain ⟨v, hv, hrow⟩ := h.row
    exact ⟨v, (World.putObj_heap_other (by omega)).trans hv, ownsRow_putObj hrow _ hl ho⟩
  cnt := (World.putObj_heap_other (by omega)).trans h.cnt
  it := (World.putObj_heap_other (by omega)).trans h.it
  bel := h.bel.grown (grownBy_putObj' W r o') (by have := (Array.getElem?_eq_some_iff.1 hl).1; omega) (fun k e => by cases e; omega)

theorem FirstI.alloc (h : FirstI w b N A n c B m d s l k W) (o : Obj) : FirstI w b N A n c B m d s l k (W.alloc o) where
  le := h.le
  row := by
    obtain ⟨v, hv, hrow⟩ := h.row
    exact ⟨v, hv.alloc o, hrow.alloc o⟩
  cnt := h.cnt.alloc o
  it := (Below.heap_alloc _ _ _ (Array.getElem?_eq_some_iff.1 h.it).1).trans h.it
  bel := h.bel.alloc (by have := (Array.getElem?_eq_some_iff.1 h.it).1; omega) o

theorem FirstI.reads (h : FirstI w b N A n c B m d s l k W) (ha : IntsAt w b A n s) (hb : IntsAt w b B m l) : LetSt (b + 1 + 1 + 1 + 1) b A n c B m d s l W :=
  ⟨⟨by simp [World.cell?, h.it], by simp [World.cell?, h.it]⟩, ha.below h.bel, hb.below h.bel⟩
end

set_option maxRecDepth 100000 in
set_option maxHeartbeats 2000000 in
theorem first_in (F : Fence) (q : Nat) (h82 : F.fn 61) (h119 : F.fn 101) (h149 : F.fn 128) (hro : F.round = none) (hq : 3 ≤ q) (A B : Option Addr) (n c m d : Nat) (s l : List Int) (N : Nat) (w : World) (ha : Ints w A n s) (hb : Ints w B m l) (hn : n ≤ 100000) (hm : m ≤ 100000) (hm0 : 0 < m) (hN : N ≤ 100000) :
    CallsIn F q Tryd.prog 61 #[.agg #[.slice A n c, .slice B m d], .int .i64 N] w fun e w' => ∃ v, e = .returned v ∧ w'.ownsRow w.heap.size 3 1 v N (firstL s l N) ∧ Below w.heap.size w w' := by
  have h1 : 1 ≤ q := by omega
  obtain ⟨i0, hi, hz0, hz1, hz2⟩ := info_parts int_info
  obtain ⟨MC, hMC, hmk⟩ : ∃ MC : Array Value, MC.size = N ∧ ∀ W : World, (Instr.makeSlice 22 (.int .i64 0) (.int .i64 (N : Int))).run Tryd.prog W = .ok (.slice (some ⟨W.heap.size, 0, none⟩) 0 N) (W.alloc (.cells MC 3)) := by
    refine ⟨madeCells (Value.int .i64 0).cells (N * 1), by rw [size_madeCells]; omega, fun W => ?_⟩
    have := run_make W 22 3 i0 (.int .i64 0) Tryd.underlying22 hi hz0 .i64 .i64 0 (N : Int) (by omega) (by omega) (by rw [hz2]; omega) (by omega)
    rw [hz1] at this
    simpa using this
  refine callsIn_of_wp_marks Tryd.func61 rfl h82 ?_ hro
  simp only [Tryd.ntmps61, List.size_toArray, List.length_cons, List.length_nil, Nat.reduceAdd, Nat.reduceSub, Array.replicate_succ, Array.replicate_zero, List.push_toArray, List.append_toArray, List.nil_append, List.cons_append]
  gi_wp2_with (gi_at_call 101; refine (letters_in F (q - 1) h119 hro _ _ _ _ _ _ _).mono ?_; rintro e w' ⟨rfl, rfl⟩)
  have HA := Lib.hid (ha.atB (Nat.le_refl _))
  have HB := Lib.hid (hb.atB (Nat.le_refl _))
  clear ha hb
  obtain ⟨W0, hW0⟩ : ∃ W0, (((((w.alloc (.cells #[.slice A n c, .slice B m d] 24)).alloc (.cells #[.int .i64 N] 3)).alloc (.cells MC 3)).alloc (.cells #[.slice (some ⟨w.heap.size + 1 + 1, 0, none⟩) 0 N] 22)).alloc (.cells #[.slice A n c, .slice B m d] 24)) = W0 := ⟨_, rfl⟩
  have hI0 : FirstI w w.heap.size N A n c B m d s l 0 W0 := by
    rw [← hW0]
    have b1 := Boxed.new (w.alloc (.cells #[.slice A n c, .slice B m d] 24)) 3 (.int .i64 N)
    have b3 := Boxed.new (((w.alloc (.cells #[.slice A n c, .slice B m d] 24)).alloc (.cells #[.int .i64 N] 3)).alloc (.cells MC 3)) 22 (.slice (some ⟨w.heap.size + 1 + 1, 0, none⟩) 0 N)
    have r2 := World.ownsRow_made (base := w.heap.size + 1 + 1) (e := 3) (size := 1) ((w.alloc (.cells #[.slice A n c, .slice B m d] 24)).alloc (.cells #[.int .i64 N] 3)) MC N (by simp) (by unfold maxLen; omega) (by omega)
    have i4 := World.alloc_heap_new ((((w.alloc (.cells #[.slice A n c, .slice B m d] 24)).alloc (.cells #[.int .i64 N] 3)).alloc (.cells MC 3)).alloc (.cells #[.slice (some ⟨w.heap.size + 1 + 1, 0, none⟩) 0 N] 22)) (.cells #[.slice A n c, .slice B m d] 24)
    simp only [World.size_alloc] at b1 b3 r2 i4
    exact ⟨Nat.zero_le _, ⟨_, b3.alloc _, (r2.alloc _).alloc _⟩, ((b1.alloc _).alloc _).alloc _, i4, (((((Below.refl _ w).alloc (Nat.le_refl _) _).alloc (by simp) _).alloc (by simp; omega) _).alloc (by simp; omega) _).alloc (by simp; omega) _⟩
  have hsz : W0.heap.size = w.heap.size + 5 := by rw [← hW0]; simp
  have HSZ := Lib.hid hsz
  clear hsz
  rw [hW0]
  clear hW0
  refine range_until hro h1 (gf := 128) (lb := #[.pointer (some ⟨w.heap.size + 1 + 1 + 1 + 1, 0, none⟩)]) rfl h149 (enters_of Tryd.func128 (by kernel_rfl) rfl)
    (fun k => .int .i64 (at_ s l k)) N 0 (LetSt (w.heap.size + 1 + 1 + 1 + 1) w.heap.size A n c B m d s l) rfl
    (fun r J X W hJ hY h0 => letters1_in F (q - 1) h149 hro (by omega) r (w.heap.size + 1 + 1 + 1 + 1) w.heap.size A B n c m d s l hn hm hm0 N J X hJ hY W h0)
    (FirstI w w.heap.size N A n c B m d s l) (FirstI w w.heap.size N A n c B m d s l N) (fun k W h => ⟨h.le, h.reads HA.out HB.out⟩)
    (fun o o' => (hI0.alloc o).alloc o')
    (fun k W r o o' h hr hl ho => h.put o' (by have := HSZ.out; omega) hl ho)
    (fun W r o o' h hr hl ho => h.put o' (by have := HSZ.out; omega) hl ho)
    (fun x => { tmps := #[.agg #[.slice A n c, .slice B m d], .int .i64 N, .pointer (some ⟨w.heap.size, 0, none⟩), .pointer (some ⟨w.heap.size + 1, 0, none⟩), .slice none 0 0, .pointer (some ⟨w.heap.size + 1 + 1 + 1, 0, none⟩), x, .int .i64 N,
      .slice (some ⟨w.heap.size + 1 + 1, 0, none⟩) 0 N, .agg #[.slice A n c, .slice B m d], .func (.func 128) #[] #[.pointer (some ⟨w.heap.size + 1 + 1 + 1 + 1, 0, none⟩)], x, undef, undef, undef, undef, undef, undef, undef, undef, undef], defers := [] }) ?assign ?body ?stop
  case assign =>
    intro r x W K hK
    gi_wp2
    exact hK
  case body =>
    intro r k W h
    obtain ⟨v, hv, hrow⟩ := h.row
    have hc := hv.cell
    have hcn := h.cnt.cell
    have hle := h.le
    obtain ⟨A', c', rfl, hkc⟩ := own_slice hrow
    have HI := Lib.hid h
    generalize hx : at_ s l k = x
    have HX := Lib.hid hx
    clear h hx
    by_cases hlt : k < N
    · have hne : ((k : Int) == (N : Int)) = false := by simp; omega
      have hWs : w.heap.size + 5 ≤ W.heap.size := by have := (Array.getElem?_eq_some_iff.1 HI.out.it).1; omega
      gi_wp2_with (gi_at_builtin; refine wpListIn_append_own _ rfl _ _ 22 rfl (w.heap.size + 1 + 1) 3 i0 (.int .i64 0) 1 8 Tryd.underlying22 hi hz0 hz1 hz2 rfl (by decide) _ _ _ rfl (hrow.alloc _) ⟨W.heap.size, 0, none⟩ 1 1 [.int .i64 x] rfl rfl (cell_one_new _ _ _) (by simp [Value.oneCell']) (by unfold maxLen; omega) (by omega) (by simp; omega) ?_; intro v' w1 hown' hgrow _; obtain ⟨g', cap', rfl⟩ := ownsRow_succ hown'; obtain ⟨hv1, hv2, hr2, hk2, hb2⟩ := hv.appended (by decide) hrow (by omega) (by omega) hown' hgrow; have hc1 := hv1.cell; have hf1 := hv1.frozen)
      have hne4 : some (w.heap.size + 1 + 1 + 1 + 1) ≠ (Value.slice A' k c').ownBlock := row_not_it hrow HI.out.it (by decide)
      refine ⟨hk2, ⟨by omega, ⟨_, hv2, by rw [firstL_succ, HX.out]; exact hr2⟩, (hb2.block _ (by omega)).trans HI.out.cnt, ?_, HI.out.bel.trans (hb2.mono (by omega))⟩⟩
      rw [Below.heap_setCell _ _ _ _ (by simp), hgrow.block _ (by simp; omega) hne4, Below.heap_alloc _ _ _ (by omega)]
      exact HI.out.it
    · obtain rfl : k = N := by omega
      gi_wp2
      exact ⟨rfl, KeepsOthers.refl _, HI.out⟩
  case stop =>
    intro D W hD h hK
    obtain ⟨v, hv, hrow⟩ := h.row
    have hc := hv.cell
    obtain ⟨A', c', rfl, hkc⟩ := own_slice hrow
    gi_wp2
    refine ⟨by simp, .inl ⟨_, _, rfl, run_takeDeferred hK, ?_⟩⟩
    exact ⟨_, results_tmp rfl _ _ _, _, rfl, ownsRow_putObj (own_le hrow (by omega)) _ hK rfl, (h.put (.deferred none) (by have := HSZ.out; omega) hK rfl).bel⟩

/-- The same outside a fence, the result written as a slice. -/
theorem first_any (A B : Option Addr) (n c m d : Nat) (s l : List Int) (N : Nat) (w : World) (ha : Ints w A n s) (hb : Ints w B m l) (hn : n ≤ 100000) (hm : m ≤ 100000) (hm0 : 0 < m) (hN : N ≤ 100000) :
    Calls Tryd.prog 61 #[.agg #[.slice A n c, .slice B m d], .int .i64 N] w fun e w' => ∃ A' c', e = .returned (.slice A' N c') ∧ Hid (w'.ownsRow w.heap.size 3 1 (.slice A' N c') N (firstL s l N)) ∧ N ≤ c' ∧ Below w.heap.size w w' :=
  (callsIn_wide.1 (first_in Fence.wide 3 trivial trivial trivial rfl (Nat.le_refl _) A B n c m d s l N w ha hb hn hm hm0 hN)).mono fun _ _ ⟨v, he, ho, hb⟩ => by
    obtain ⟨A', c', rfl, hc⟩ := own_slice ho
    exact ⟨A', c', he, ho, hc, hb⟩

end Go.Proofs.YteidikkeoaolgaaDoor.Wd
