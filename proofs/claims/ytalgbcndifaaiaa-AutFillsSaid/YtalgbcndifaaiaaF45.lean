/-
  Same of the reference at two automata with the same data; Half.
  Whole of the reference, for all automata.
  Complete of the reference, for all automata.
  AutFills of layer 5: what it needs of Fill, and the law's walk.
-/
import Derived.Test.YtalgbcndifaaiaaF36
import Derived.Test.YtalgbcndifaaiaaF33
import Derived.BigQuiet
import Derived.Deep.QuietTactic
import Derived.Test.YtalgbcndifaaiaaF23
import Derived.Test.YtalgbcndifaaiaaF22
import Derived.Deep.RegionHeld3
import Derived.Deep.MidRow
import Derived.Deep.WholeRow
import Derived.Deep.OwnRows
import Derived.Test.YtalgbcndifaaiaaF44
namespace Go.Proofs.Ytalgbcndifaaiaa.Wd
open Go.RowKit
set_option linter.unusedVariables false
set_option linter.unusedSimpArgs false

set_option maxRecDepth 100000 in
set_option maxHeartbeats 2000000 in
theorem refHalf_any (p S : Nat) (K M : Int) (A E : Option Addr) (n c ne ce : Nat) (es : List Ed) (w : World) (hE : EdgesAt w E ne es) (hne : ne ≤ 40000) (hn : n ≤ 17592186044416) (hp : p ≤ 6) (hS : S ≤ 3000) (hes : edgesB p S M.toNat es = true) (hb : BitsOK es) :
    Calls Try.prog 9 #[.agg #[.int .i64 p, .int .i64 S, .slice A n c, .int .i64 K, .int .i64 M, .slice E ne ce]] w fun e w' => e = .returned (.bool (decide (n ≤ 1) && !clashB p es ne)) ∧ Below w.heap.size w w' := by
  have hL := hE.1
  have HAP := Lib.hid (fun W (hW : Below w.heap.size w W) => refApart_any p S K M A E n c ne ce es W (hE.below hW) hS hne (fun j hj => from_state hes j (by rw [hL]; exact hj)))
  have HCL := Lib.hid (apart_clash hp hes hb)
  rw [hL] at HCL
  clear hE hes hb hL
  obtain ⟨cl, hcl, HC⟩ : ∃ cl, clashB p es ne = cl ∧ Hid (clashB p es ne = cl) := ⟨_, rfl, rfl⟩
  rw [hcl] at HCL ⊢
  clear hcl
  by_cases h1 : n ≤ 1
  · have h2 : (n : Int) ≤ 1 := by omega
    have HN := Lib.hid (decide_eq_true h1)
    go_enter Try.func9, Try.ntmps9
    go_wp2_with fail
    refine (HAP.out _ ((Below.refl _ _).alloc (Nat.le_refl _) _)).mono ?_
    rintro e w1 ⟨r, rfl, hr, hb1⟩
    have HB1 := Lib.hid (boxB hb1)
    obtain rfl : r = !cl := by
      have h2 : (r = true) ↔ cl = false := hr.trans HCL.out
      cases r <;> cases cl <;> simp_all
    clear hr hb1 HCL
    go_wp2_with fail
    go_ret
    exact ⟨ret_bool (by simp [HN.out]), HB1.out⟩
  · have h3 : ¬ (n : Int) ≤ 1 := by omega
    have h4 : decide ((n : Int) ≤ 1) = false := decide_eq_false h3
    have HN := Lib.hid (decide_eq_false h1)
    clear h1
    go_enter Try.func9, Try.ntmps9
    go_wp2_with fail
    go_ret
    exact ⟨ret_bool (by rw [HN.out]; rfl), (Below.refl _ _).alloc (Nat.le_refl _) _⟩

theorem eqB_self (s : List Int) : eqB s s = true := by simp [eqB]

set_option maxRecDepth 100000 in
set_option maxHeartbeats 4000000 in
theorem refSame_true (P S K M : Int) (A B E F : Option Addr) (n c d ne ce de : Nat) (st : List Int) (es : List Ed) (w : World) (ha : Ints w A n st) (hb : Ints w B n st) (he : EdgesAt w E ne es) (hf : EdgesAt w F ne es) (hn : n ≤ 100000) (hne : ne ≤ 100000) :
    Calls Try.prog 12 #[.agg #[.int .i64 P, .int .i64 S, .slice A n c, .int .i64 K, .int .i64 M, .slice E ne ce], .agg #[.int .i64 P, .int .i64 S, .slice B n d, .int .i64 K, .int .i64 M, .slice F ne de]] w fun e w' => e = .returned (.bool true) ∧ Below w.heap.size w w' := by
  have HLI := Lib.hid (fun W (hW : Below w.heap.size w W) => show Calls Try.prog 27 #[.slice A n c, .slice B n d] W fun e w' => ∃ k : Nat, e = .returned (.bool true) ∧ w' = W.drewN k by
    have h := list_any A B n c n d st st W (ha.below hW) (hb.below hW) hn hn
    rw [eqB_self] at h
    exact h)
  have HE := Lib.hid he
  have HF := Lib.hid hf
  clear ha hb he hf
  go_enter Try.func12, Try.ntmps12
  have e1 : (P != P) = false := by simp
  have e2 : (S != S) = false := by simp
  have e3 : (K != K) = false := by simp
  have e4 : (M != M) = false := by simp
  have e5 : ((ne : Int) != (ne : Int)) = false := by simp
  have HB0 := Lib.hid (show Below w.heap.size w ((w.alloc (.cells #[.int .i64 P, .int .i64 S, .slice A n c, .int .i64 K, .int .i64 M, .slice E ne ce] 25)).alloc (.cells #[.int .i64 P, .int .i64 S, .slice B n d, .int .i64 K, .int .i64 M, .slice F ne de] 25)) from ((Below.refl _ _).alloc (Nat.le_refl _) _).alloc (by simp) _)
  go_wp2_with fail
  refine (HLI.out _ HB0.out).mono ?_
  rintro e w1 ⟨k, rfl, rfl⟩
  have HB1 := Lib.hid (below_drewN HB0.out k)
  obtain ⟨W1, hW1⟩ : ∃ W1, World.drewN ((w.alloc (.cells #[.int .i64 P, .int .i64 S, .slice A n c, .int .i64 K, .int .i64 M, .slice E ne ce] 25)).alloc (.cells #[.int .i64 P, .int .i64 S, .slice B n d, .int .i64 K, .int .i64 M, .slice F ne de] 25)) k = W1 := ⟨_, rfl⟩
  have hx : ∀ i, W1.cell? ⟨w.heap.size, i, none⟩ = #[Value.int .i64 P, .int .i64 S, .slice A n c, .int .i64 K, .int .i64 M, .slice E ne ce][i]? := fun i => by rw [← hW1]; exact box_first w _ _ _ i
  have hy : ∀ i, W1.cell? ⟨w.heap.size + 1, i, none⟩ = #[Value.int .i64 P, .int .i64 S, .slice B n d, .int .i64 K, .int .i64 M, .slice F ne de][i]? := fun i => by
    have h := box_last (w.alloc (.cells #[.int .i64 P, .int .i64 S, .slice A n c, .int .i64 K, .int .i64 M, .slice E ne ce] 25)) #[.int .i64 P, .int .i64 S, .slice B n d, .int .i64 K, .int .i64 M, .slice F ne de] 25 i
    rw [World.size_alloc] at h
    rw [← hW1]; exact h
  rw [hW1] at HB1
  rw [hW1]
  clear hW1
  have x3 : W1.cell? ⟨w.heap.size, 3, none⟩ = some (.int .i64 K) := hx 3
  have x4 : W1.cell? ⟨w.heap.size, 4, none⟩ = some (.int .i64 M) := hx 4
  have x5 : W1.cell? ⟨w.heap.size, 5, none⟩ = some (.slice E ne ce) := hx 5
  have y3 : W1.cell? ⟨w.heap.size + 1, 3, none⟩ = some (.int .i64 K) := hy 3
  have y4 : W1.cell? ⟨w.heap.size + 1, 4, none⟩ = some (.int .i64 M) := hy 4
  have y5 : W1.cell? ⟨w.heap.size + 1, 5, none⟩ = some (.slice F ne de) := hy 5
  have X5 := Lib.hid (And.intro x5 y5)
  clear hx hy
  go_wp2_with fail
  clear x3 x4 x5 y3 y4 y5
  go_loopg [52] ne (fun g i wx => ∃ t k : Nat, t + g = ne ∧ i = .int .i64 t ∧ wx = W1.drewN k)
  case atStart => exact ⟨0, 0, by omega, rfl, rfl⟩
  case round =>
    obtain ⟨t, k2, htg, rfl, rfl⟩ := hrel
    have hti : (0 : Int) ≤ (t : Int) := by omega
    have HBw := Lib.hid (below_drewN HB1.out k2)
    cases gk with
    | zero =>
      obtain rfl : ne = t := by omega
      go_wp2_with fail
      go_ret
      exact ⟨rfl, HBw.out⟩
    | succ q =>
      have ht1 : t < ne := by omega
      have hti2 : (t : Int) < (ne : Int) := by omega
      obtain ⟨b, off, rfl, hlt, hcell⟩ := (HE.out.below HB1.out).2 (by omega)
      obtain ⟨b', off', rfl, hlt', hcell'⟩ := (HF.out.below HB1.out).2 (by omega)
      obtain ⟨c0, c1, c2, c3, c4⟩ := hcell t ht1
      obtain ⟨d0, d1, d2, d3, d4⟩ := hcell' t ht1
      have x5 := X5.out.1
      have y5 := X5.out.2
      generalize es.getD t ed0 = ee at *
      obtain ⟨ef, et, ec, eb, em⟩ := ee
      simp only at c0 c1 c2 c3 c4 d0 d1 d2 d3 d4
      clear hcell hcell'
      go_wp2_with fail
      go_quiet (fail)
      go_wp2_with fail
      go_roundg q
      case measure => omega
      case rel => exact ⟨t + 1, _, by omega, by go_num, rfl⟩

end Go.Proofs.Ytalgbcndifaaiaa.Wd

namespace Go.Proofs.Ytalgbcndifaaiaa.Wd
open Go.RowKit
set_option linter.unusedVariables false
set_option linter.unusedSimpArgs false

section
variable {P : Program}
/-- A whole array is stored into the block that was laid last. -/
theorem wpList_store_new {ops : Array Oper} {rest : List Oper} {op : Oper} {a : Act} {w : World} {Q : Exit → Act → World → Prop} (hgd : op.guard = none) (ty : TypeId) (x y : Operand) (ho : op.op = .store ty x y)
    (c CS : Array Value) (hx : a.eval x = .pointer (some ⟨w.heap.size, 0, none⟩)) (hy : a.eval y = .agg CS) (hi : (P.info? ty).map (·.size) = some CS.size) (hc : c.size = CS.size) (h1 : CS.all (·.oneCell') = true)
    (h : wpList P ops Q rest (a.put op.dst undef) (w.alloc (.cells CS ty))) : wpList P ops Q (op :: rest) a (w.alloc (.cells c ty)) :=
  wpList_plain hgd fun _ hK => by
    unfold Oper.wp execOp
    simp only [ho, hx, hy, run_storeAt_new w ty c CS hi hc h1, Sem.run_bind, Sem.run_pure, Result.andThen_ok]
    exact hK _ _ h
end

theorem row64_info : (Try.prog.info? 56).map (fun i => (i.zero, i.size, i.bytes)) = some (some (.agg (Array.replicate 64 (.bool false))), 64, 64) := by kernel_rfl

/-- A slice of S arrays of 64 bools. -/
def RowT (w : World) (b S : Nat) (T : Nat → Bool) : Prop := w.rowIs b 56 (S * 64) (fun i => .bool (T i))
theorem RowT.congr' {w : World} {b S : Nat} {T T' : Nat → Bool} (h : RowT w b S T) (e : ∀ i, T i = T' i) : RowT w b S T' := World.rowIs.congr h (fun i _ => by rw [e i])
theorem RowT.put {w : World} {b S : Nat} {p : Nat} {es : List Ed} {t f : Nat} {x : Ed} {l : Nat} (h : RowT w b S (midT p es t f x l)) (hl : l < 64) {r : Bool} (hr : (bitT p es t (f * 64 + l) || letB (l : Int) x) = r) :
    RowT (w.setCell ⟨b, f * 64 + l, none⟩ (.bool r)) b S (midT p es t f x (l + 1)) :=
  (World.rowIs.set h (f * 64 + l) (.bool r)).congr (fun i _ => by
    rw [midT_step p es t f x hl i]
    by_cases e : i = f * 64 + l
    · subst e; rw [if_pos rfl, if_pos rfl, hr]
    · rw [if_neg e, if_neg e])

set_option maxRecDepth 100000 in
set_option maxHeartbeats 8000000 in
theorem refWhole_any (p S : Nat) (K M : Int) (A E : Option Addr) (n c ne ce : Nat) (es : List Ed) (w : World) (hE : EdgesAt w E ne es) (hne : ne ≤ 40000) (hp : p ≤ 6) (hS : S ≤ 3000)
    (hfr : ∀ j, j < ne → ∃ f : Nat, (es.getD j ed0).f = (f : Int) ∧ f < S) :
    Calls Try.prog 11 #[.agg #[.int .i64 p, .int .i64 S, .slice A n c, .int .i64 K, .int .i64 M, .slice E ne ce]] w fun r w' => r = .returned (.bool (fullB p es S)) ∧ Below w.heap.size w w' := by
  obtain ⟨i0, hi, hz0, hz1, hz2⟩ := info_parts row64_info
  obtain ⟨MC, hMC, hMC2, hmk⟩ : ∃ MC : Array Value, MC.size = S * 64 ∧ (∀ i, i < S * 64 → MC[i]? = some (.bool false)) ∧ ∀ W : World, (Instr.makeSlice 55 (.int .i64 (S : Int)) (.int .i64 (S : Int))).run Try.prog W = .ok (.slice (some ⟨W.heap.size, 0, none⟩) S S) (W.alloc (.cells MC 56)) := by
    refine ⟨madeCells (Value.agg (Array.replicate 64 (.bool false))).cells (S * 64), by rw [size_madeCells], fun i hi => by simp [madeCells, hi, Value.cells, Nat.mod_lt], fun W => ?_⟩
    have := run_make W 55 56 i0 (.agg (Array.replicate 64 (.bool false))) Try.underlying55 hi hz0 .i64 .i64 (S : Int) (S : Int) (by omega) (by omega) (by rw [hz2]; omega) (by omega)
    rw [hz1] at this
    simpa using this
  have HA := Lib.hid hE
  have HFR := Lib.hid hfr
  have HEL := Lib.hid hE.1
  obtain ⟨N, hN, HN⟩ : ∃ N : Nat, IntKind.i64.wrap ((2 : Int) ^ p) = (N : Int) ∧ Hid (2 ^ p = N) := ⟨2 ^ p, (pow_six hp).1, rfl⟩
  have hN64 : N ≤ 64 := by rw [← HN.out]; exact (pow_six hp).2
  have hp0 : (0 : Int) ≤ (p : Int) := by omega
  have hp6 : (p : Int) ≤ 6 := by omega
  have HMC := Lib.hid (⟨hMC, hMC2⟩ : MC.size = S * 64 ∧ (∀ i, i < S * 64 → MC[i]? = some (.bool false)))
  have HFU := Lib.hid (show ∀ s l, s < S → l < 2 ^ p → bitT p es es.length (s * 64 + l) = false → fullB p es S = false from fun s l h1 h2 h3 => full_no hp h1 h2 h3)
  have HFY := Lib.hid (show RowsB p es S → fullB p es S = true from fun h => (full_bits hp es).2 h)
  clear hE hfr hMC hMC2
  go_enter Try.func11, Try.ntmps11
  go_wp2_with fail
  obtain ⟨W0, hW0⟩ : ∃ W0, w.alloc (.cells #[.int .i64 p, .int .i64 S, .slice A n c, .int .i64 K, .int .i64 M, .slice E ne ce] 25) = W0 := ⟨_, rfl⟩
  have q0 : W0.cell? ⟨w.heap.size, 0, none⟩ = some (.int .i64 p) := by rw [← hW0, box_last]; rfl
  have hz : W0.heap.size = w.heap.size + 1 := by rw [← hW0]; simp
  have HB0 := Lib.hid (show Below w.heap.size w W0 by rw [← hW0]; exact (Below.refl _ _).alloc (Nat.le_refl _) _)
  rw [hW0]
  clear hW0
  obtain ⟨W1, hW1⟩ : ∃ W1, W0.alloc (.cells MC 56) = W1 := ⟨_, rfl⟩
  have HR0 := Lib.hid (show RowT W1 (w.heap.size + 1) S (bitT p es 0) by
    have h := World.rowIs_alloc W0 MC 56 (fun i => .bool false) (fun i hi => HMC.out.2 i (by rw [← HMC.out.1]; exact hi))
    rw [HMC.out.1, hW1, hz] at h
    exact World.rowIs.congr h (fun i _ => by rw [bitT_zero]))
  have HB1 := Lib.hid (show Below (w.heap.size + 1) W0 W1 by rw [← hW1, ← hz]; exact (Below.refl _ _).alloc (Nat.le_refl _) _)
  have hz1 : W1.heap.size = w.heap.size + 2 := by rw [← hW1]; simp [hz]
  rw [hW1]
  clear hW1
  go_loopg [16] ne (fun g i wx => ∃ t : Nat, t + g = ne ∧ i = .int .i64 t ∧ Hid (RowT wx (w.heap.size + 1) S (bitT p es t)) ∧ Hid (Below (w.heap.size + 1) W0 wx))
  case atStart => exact ⟨0, by omega, rfl, HR0.out, HB1.out⟩
  case round =>
    obtain ⟨t, htg, rfl, HR, HBx⟩ := hrel
    have hti : (0 : Int) ≤ (t : Int) := by omega
    have HBw := Lib.hid (HB0.out.trans (HBx.out.mono (by omega)))
    have r0 := (HBx.out.cell (p := ⟨w.heap.size, 0, none⟩) (by simp)).trans q0
    have hzr : w.heap.size + 1 < wr.heap.size := HR.out.lt
    have hzr0 : w.heap.size < wr.heap.size := by omega
    cases gk with
    | zero =>
      obtain rfl : ne = t := by omega
      go_wp2_with fail
      have HR2 := Lib.hid (show RowT wr (w.heap.size + 1) S (bitT p es es.length) by rw [HEL.out]; exact HR.out)
      clear HR HR0 HB1 HBw
      go_loopg [48] S (fun g i wx => ∃ s : Nat, s + g = S ∧ i = .int .i64 s ∧ Hid (RowsB p es s) ∧ Hid (RowT wx (w.heap.size + 1) S (bitT p es es.length)) ∧ Hid (Below (w.heap.size + 1) W0 wx))
      case atStart => exact ⟨0, by omega, rfl, (fun s l hs => by omega), HR2.out, HBx.out⟩
      case round =>
        clear HR2 HBx
        obtain ⟨s, hsg, rfl, HRB, HR, HBx⟩ := hrel
        have hsi : (0 : Int) ≤ (s : Int) := by omega
        have r1 := (HBx.out.cell (p := ⟨w.heap.size, 0, none⟩) (by simp)).trans q0
        have hzr1 : w.heap.size + 1 < wr.heap.size := HR.out.lt
        have hzr2 : w.heap.size < wr.heap.size := by omega
        cases gk with
        | zero =>
          obtain rfl : S = s := by omega
          have HF := Lib.hid (HFY.out HRB.out)
          have HBw := Lib.hid (HB0.out.trans (HBx.out.mono (by omega)))
          go_wp2_with fail
          go_ret
          exact ⟨ret_bool HF.out.symm, HBw.out⟩
        | succ q =>
          have hs1 : s < S := by omega
          have hsi2 : (s : Int) < (S : Int) := by omega
          obtain ⟨CS, hCS, HCS⟩ : ∃ CS : Array Value, CS.size = 64 ∧ Hid (∀ l, l < 64 → CS[l]? = some (.bool (bitT p es es.length (s * 64 + l)))) := ⟨(Array.range 64).map (fun l => .bool (bitT p es es.length (s * 64 + l))), by simp, fun l hl => by simp [hl]⟩
          have HLD := Lib.hid (show wr.rangeAt (w.heap.size + 1) (s * 64) CS.toList from fun j v hv => by
            have hj : j < 64 := by
              have := (List.getElem?_eq_some_iff.1 hv).1
              simp at this; omega
            have h1 := HCS.out j hj
            rw [Array.getElem?_toList, h1] at hv
            rw [← hv]
            exact World.rowIs.cell HR.out (i := s * 64 + j) (by omega))
          have HALL := Lib.hid (show CS.all (·.oneCell') = true from Array.all_eq_true_iff_forall_mem.2 (fun v hv => by
            obtain ⟨j, hj, rfl⟩ := Array.getElem_of_mem hv
            have h1 := HCS.out j (by omega)
            rw [Array.getElem?_eq_getElem hj] at h1
            injection h1 with h1
            rw [h1]; rfl))
          have HSZ := Lib.hid hCS
          clear hCS
          go_wp2_with (first
            | (refine wpList_load_mid (op := ⟨some 51, _, _, _, _, _⟩) rfl 56 (.tmp 50) rfl (w.heap.size + 1) (s * 64) rfl CS.toList (.array 64 4) HLD.out Try.underlying56 rfl (by rw [show CS.toList.length = 64 by simpa using HSZ.out]; rfl) ?_)
            | (refine wpList_store_new (op := ⟨none, _, _, _, _, _⟩) rfl 56 (.tmp 8) (.tmp 51) rfl _ CS.toList.toArray rfl rfl (by rw [Array.toArray_toList, HSZ.out]; rfl) (by rw [Array.toArray_toList, HSZ.out]; rfl) (by rw [Array.toArray_toList]; exact HALL.out) ?_))
          obtain ⟨wo, rfl⟩ : ∃ wo : World, wo = wr := ⟨_, rfl⟩
          obtain ⟨W6, hW6⟩ : ∃ W6, wo.alloc (.cells CS 56) = W6 := ⟨_, rfl⟩
          have HB6 := Lib.hid (show Below wo.heap.size wo W6 by rw [← hW6]; exact (Below.refl _ _).alloc (Nat.le_refl _) _)
          have HC6 := Lib.hid (show ∀ l, l < 64 → W6.cell? ⟨wo.heap.size, l, none⟩ = some (.bool (bitT p es es.length (s * 64 + l))) by
            intro l hl
            rw [← hW6, box_last]
            exact HCS.out l hl)
          have HR6 := Lib.hid (show RowT W6 (w.heap.size + 1) S (bitT p es es.length) from World.rowIs.of_block HR.out (HB6.out.block _ hzr1))
          have HBX := Lib.hid (HBx.out.trans (HB6.out.mono (by omega)))
          have HBw := Lib.hid (HB0.out.trans (HBX.out.mono (by omega)))
          rw [hW6]
          clear hW6 HLD HALL HSZ HCS r0 r1 HR HBx HB6
          go_loopg [55] N (fun g i wx => ∃ l : Nat, l + g = N ∧ i = .int .i64 l ∧ Hid (rowB p es s l = true) ∧ wx = W6)
          case atStart => exact ⟨0, by omega, rfl, (by show rowB p es s 0 = true; rfl), rfl⟩
          case round =>
            obtain ⟨l, hlg, rfl, HRW, rfl⟩ := hrel
            have hli : (0 : Int) ≤ (l : Int) := by omega
            cases gk with
            | zero =>
              obtain rfl : N = l := by omega
              have HNX := Lib.hid (HRB.out.step (by rw [HN.out]; exact HRW.out))
              go_wp2_with fail
              go_roundg q
              case measure => omega
              case rel => exact ⟨s + 1, by omega, by go_num, HNX.out, HR6.out, HBX.out⟩
            | succ q2 =>
              have hl1 : l < N := by omega
              have hl64 : l < 64 := by omega
              have hli2 : (l : Int) < (N : Int) := by omega
              have hli3 : (l : Int) < 64 := by omega
              have k0 := HC6.out l hl64
              have HNO := Lib.hid (fun h => HFU.out s l hs1 (by rw [HN.out]; exact hl1) h)
              have HYE := Lib.hid (show bitT p es es.length (s * 64 + l) = true → rowB p es s (l + 1) = true from fun h => by rw [rowB, HRW.out, h]; rfl)
              generalize hbt : bitT p es es.length (s * 64 + l) = bt at *
              clear hbt
              cases bt
              · have HF := Lib.hid (HNO.out rfl)
                go_wp2_with fail
                go_ret
                exact ⟨ret_bool HF.out.symm, HBw.out⟩
              · have HY := Lib.hid (HYE.out rfl)
                go_wp2_with fail
                go_roundg q2
                case measure => omega
                case rel => exact ⟨l + 1, by omega, by go_num, HY, rfl⟩
    | succ q =>
      have ht1 : t < ne := by omega
      have hti2 : (t : Int) < (ne : Int) := by omega
      obtain ⟨b, off, rfl, hlt, hcell⟩ := (HA.out.below HBw.out).2 (by omega)
      obtain ⟨c0, c1, c2, c3, c4⟩ := hcell t ht1
      obtain ⟨f, hf, hfS⟩ := HFR.out t ht1
      have HALL := Lib.hid (fun i => midT_all (p := p) hf i)
      have HMID := Lib.hid (show RowT wr (w.heap.size + 1) S (midT p es t f (es.getD t ed0) 0) from HR.out.congr' (fun i => (midT_zero p es t f _ i).symm))
      generalize es.getD t ed0 = x at *
      obtain ⟨ef, et, ec, eb, em⟩ := x
      simp only at c0 c1 c2 c3 c4 hf
      subst hf
      have hf0 : (0 : Int) ≤ (f : Int) := by omega
      have hf1 : (f : Int) < (S : Int) := by omega
      clear hcell
      have HRD := Lib.hid (fun (l : Nat) w => refReads_any f et ec eb em (l : Int) w)
      obtain ⟨wo, rfl⟩ : ∃ wo : World, wo = wr := ⟨_, rfl⟩
      go_wp2_with fail
      obtain ⟨WE, hWE⟩ : ∃ WE, wo.alloc (.cells #[.int .i64 f, .int .i64 et, .int .i64 ec, .int .i64 eb, .int .i64 em] 37) = WE := ⟨_, rfl⟩
      have HC0 := Lib.hid (show (WE.cell? ⟨wo.heap.size, 0, none⟩ = some (.int .i64 f) ∧ WE.cell? ⟨wo.heap.size, 1, none⟩ = some (.int .i64 et) ∧ WE.cell? ⟨wo.heap.size, 2, none⟩ = some (.int .i64 ec) ∧ WE.cell? ⟨wo.heap.size, 3, none⟩ = some (.int .i64 eb) ∧ WE.cell? ⟨wo.heap.size, 4, none⟩ = some (.int .i64 em)) ∧ wo.heap.size < WE.heap.size by
        rw [← hWE]
        exact ⟨⟨by rw [box_last]; rfl, by rw [box_last]; rfl, by rw [box_last]; rfl, by rw [box_last]; rfl, by rw [box_last]; rfl⟩, by simp⟩)
      have HBE := Lib.hid (show Below wo.heap.size wo WE by rw [← hWE]; exact (Below.refl _ _).alloc (Nat.le_refl _) _)
      have HRE := Lib.hid (show RowT WE (w.heap.size + 1) S (midT p es t f ⟨f, et, ec, eb, em⟩ 0) from World.rowIs.of_block HMID.out (HBE.out.block _ hzr))
      have HBO := Lib.hid (show Below (w.heap.size + 1) W0 WE from HBx.out.trans (HBE.out.mono (by omega)))
      rw [hWE]
      clear hWE r0 c0 c1 c2 c3 c4 HMID HR HBw HR0 HB1
      go_loopg [23] N (fun g i wx => ∃ l : Nat, l + g = N ∧ i = .int .i64 l ∧ Hid (RowT wx (w.heap.size + 1) S (midT p es t f ⟨f, et, ec, eb, em⟩ l)) ∧ Hid ((wx.cell? ⟨wo.heap.size, 0, none⟩ = some (.int .i64 f) ∧ wx.cell? ⟨wo.heap.size, 1, none⟩ = some (.int .i64 et) ∧ wx.cell? ⟨wo.heap.size, 2, none⟩ = some (.int .i64 ec) ∧ wx.cell? ⟨wo.heap.size, 3, none⟩ = some (.int .i64 eb) ∧ wx.cell? ⟨wo.heap.size, 4, none⟩ = some (.int .i64 em)) ∧ wo.heap.size < wx.heap.size) ∧ Hid (Below (w.heap.size + 1) W0 wx))
      case atStart => exact ⟨0, by omega, rfl, HRE.out, HC0.out, HBO.out⟩
      case round =>
        clear HRE HC0 HBO HBE
        obtain ⟨l, hlg, rfl, HR, HC, HBX⟩ := hrel
        have hli : (0 : Int) ≤ (l : Int) := by omega
        cases gk with
        | zero =>
          obtain rfl : N = l := by omega
          have HNX := Lib.hid (show RowT wr (w.heap.size + 1) S (bitT p es (t + 1)) from HR.out.congr' (fun i => by rw [← HALL.out i, HN.out]))
          clear HR HC
          go_wp2_with fail
          go_roundg q
          case measure => omega
          case rel => exact ⟨t + 1, by omega, by go_num, HNX.out, HBX.out⟩
        | succ q2 =>
          have hl1 : l < N := by omega
          have hl64 : l < 64 := by omega
          have hli2 : (l : Int) < (N : Int) := by omega
          have hli3 : (l : Int) < 64 := by omega
          have k0 := World.rowIs.cell HR.out (i := f * 64 + l) (by omega)
          have k1 := World.rowIs.frozen HR.out (f * 64 + l)
          rw [midT_here p es t f _ hl64] at k0
          have HPUT := Lib.hid (fun (V : World) (hV : V.heap[w.heap.size + 1]? = wr.heap[w.heap.size + 1]?) (r : Bool) hr => RowT.put (World.rowIs.of_block HR.out hV) (r := r) hl64 hr)
          have HEC := Lib.hid (fun (V : World) (r : Bool) (h : ∀ o, V.cell? ⟨wo.heap.size, o, none⟩ = wr.cell? ⟨wo.heap.size, o, none⟩) o => (World.cell?_of_block (a := ⟨wo.heap.size, o, none⟩) (Below.heap_setCell V ⟨w.heap.size + 1, f * 64 + l, none⟩ (.bool r) wo.heap.size (by show wo.heap.size ≠ w.heap.size + 1; omega))).trans (h o))
          have HRL := Lib.hid (HRD.out l)
          have hzE := HC.out.2
          have hzT : w.heap.size + 1 < wr.heap.size := HR.out.lt
          have HS := Lib.hid (show ∀ V : World, (∀ o, V.cell? ⟨wo.heap.size, o, none⟩ = wr.cell? ⟨wo.heap.size, o, none⟩) → (V.cell? ⟨wo.heap.size, 0, none⟩ = some (.int .i64 f) ∧ V.cell? ⟨wo.heap.size, 1, none⟩ = some (.int .i64 et) ∧ V.cell? ⟨wo.heap.size, 2, none⟩ = some (.int .i64 ec) ∧ V.cell? ⟨wo.heap.size, 3, none⟩ = some (.int .i64 eb) ∧ V.cell? ⟨wo.heap.size, 4, none⟩ = some (.int .i64 em)) from
            fun V h => ⟨(h 0).trans HC.out.1.1, (h 1).trans HC.out.1.2.1, (h 2).trans HC.out.1.2.2.1, (h 3).trans HC.out.1.2.2.2.1, (h 4).trans HC.out.1.2.2.2.2⟩)
          generalize hbt : bitT p es t (f * 64 + l) = bt at *
          have HBT := Lib.hid hbt
          clear hbt HR
          cases bt
          · obtain ⟨rb, hrb, HRB⟩ : ∃ rb, letB (l : Int) ⟨f, et, ec, eb, em⟩ = rb ∧ Hid (letB (l : Int) ⟨f, et, ec, eb, em⟩ = rb) := ⟨_, rfl, rfl⟩
            rw [hrb] at HRL HPUT
            clear hrb
            go_wp2_with fail
            refine wp_region_until_drew (st := [18]) (S := fun V => (V.cell? ⟨wo.heap.size, 0, none⟩ = some (.int .i64 f) ∧ V.cell? ⟨wo.heap.size, 1, none⟩ = some (.int .i64 et) ∧ V.cell? ⟨wo.heap.size, 2, none⟩ = some (.int .i64 ec) ∧ V.cell? ⟨wo.heap.size, 3, none⟩ = some (.int .i64 eb) ∧ V.cell? ⟨wo.heap.size, 4, none⟩ = some (.int .i64 em)) ∧ V.cell? ⟨w.heap.size + 1, f * 64 + l, none⟩ = some (.bool false)) (by kernel_rfl) ⟨HS.out _ (fun o => rfl), k0⟩ (fun hHeld => ?_)
            refine wpAnyU_pure (i := 0) (v := ?vf0) rfl (by kernel_rfl) (by kernel_rfl) (by kernel_rfl) (by kernel_rfl) (fun _ _ _ h => h) (Or.inl ⟨by rfl, fun V _ => ?hf0⟩) (fun _ => hHeld) ?rf0
            case hf0 => go_simp; try with_reducible rfl
            try simp only [Act.put, List.getElem_toArray, List.getElem_cons_zero, List.getElem_cons_succ, List.setIfInBounds_toArray, List.set_cons_zero, List.set_cons_succ]
            refine wpAnyU_pure (i := 1) (v := ?vf1) rfl (by kernel_rfl) (by kernel_rfl) (by kernel_rfl) (by kernel_rfl) (fun _ _ _ h => h) (Or.inl ⟨by rfl, fun V _ => ?hf1⟩) (fun _ => hHeld) ?rf1
            case hf1 => go_simp; try with_reducible rfl
            try simp only [Act.put, List.getElem_toArray, List.getElem_cons_zero, List.getElem_cons_succ, List.setIfInBounds_toArray, List.set_cons_zero, List.set_cons_succ]
            refine wpAnyU_load (i := 2) (v := ?vf2) rfl (by kernel_rfl) (by kernel_rfl) (by kernel_rfl) (by kernel_rfl) (fun _ _ _ h => h) (Or.inl ⟨by rfl, fun V hSw => ?hf2⟩) hHeld ?rf2
            case hf2 => (obtain ⟨⟨hs1, hs2, hs3, hs4, hs5⟩, hs6⟩ := hSw); go_simp; try with_reducible rfl
            try simp only [Act.put, List.getElem_toArray, List.getElem_cons_zero, List.getElem_cons_succ, List.setIfInBounds_toArray, List.set_cons_zero, List.set_cons_succ]
            refine wpAnyU_pure (i := 3) (v := ?vf3) rfl (by kernel_rfl) (by kernel_rfl) (by kernel_rfl) (by kernel_rfl) (fun _ _ _ h => h) (Or.inl ⟨by rfl, fun V _ => ?hf3⟩) (fun _ => hHeld) ?rf3
            case hf3 => go_simp; try with_reducible rfl
            try simp only [Act.put, List.getElem_toArray, List.getElem_cons_zero, List.getElem_cons_succ, List.setIfInBounds_toArray, List.set_cons_zero, List.set_cons_succ]
            refine wpAnyU_pure (i := 4) (v := ?vf4) rfl (by kernel_rfl) (by kernel_rfl) (by kernel_rfl) (by kernel_rfl) (fun _ _ _ h => h) (Or.inl ⟨by rfl, fun V _ => ?hf4⟩) (fun _ => hHeld) ?rf4
            case hf4 => go_simp; try with_reducible rfl
            try simp only [Act.put, List.getElem_toArray, List.getElem_cons_zero, List.getElem_cons_succ, List.setIfInBounds_toArray, List.set_cons_zero, List.set_cons_succ]
            refine wpAnyU_pure (i := 5) (v := ?vf5) rfl (by kernel_rfl) (by kernel_rfl) (by kernel_rfl) (by kernel_rfl) (fun _ _ _ h => h) (Or.inl ⟨by rfl, fun V _ => ?hf5⟩) (fun _ => hHeld) ?rf5
            case hf5 => go_simp; try with_reducible rfl
            try simp only [Act.put, List.getElem_toArray, List.getElem_cons_zero, List.getElem_cons_succ, List.setIfInBounds_toArray, List.set_cons_zero, List.set_cons_succ]
            refine wpAnyU_load (i := 6) (v := ?vf6) rfl (by kernel_rfl) (by kernel_rfl) (by kernel_rfl) (by kernel_rfl) (fun _ _ _ h => h) (Or.inl ⟨by rfl, fun V hSw => ?hf6⟩) hHeld ?rf6
            case hf6 => (obtain ⟨⟨hs1, hs2, hs3, hs4, hs5⟩, hs6⟩ := hSw); go_simp; try with_reducible rfl
            try simp only [Act.put, List.getElem_toArray, List.getElem_cons_zero, List.getElem_cons_succ, List.setIfInBounds_toArray, List.set_cons_zero, List.set_cons_succ]
            refine wpAnyU_pure (i := 7) (v := ?vf7) rfl (by kernel_rfl) (by kernel_rfl) (by kernel_rfl) (by kernel_rfl) (fun _ _ _ h => h) (Or.inl ⟨by rfl, fun V _ => ?hf7⟩) (fun _ => hHeld) ?rf7
            case hf7 => go_simp; try with_reducible rfl
            try simp only [Act.put, List.getElem_toArray, List.getElem_cons_zero, List.getElem_cons_succ, List.setIfInBounds_toArray, List.set_cons_zero, List.set_cons_succ]
            refine wpAnyU_pure (i := 8) (v := ?vf8) rfl (by kernel_rfl) (by kernel_rfl) (by kernel_rfl) (by kernel_rfl) (fun _ _ _ h => h) (Or.inl ⟨by rfl, fun V _ => ?hf8⟩) (fun _ => hHeld) ?rf8
            case hf8 => go_simp; try with_reducible rfl
            try simp only [Act.put, List.getElem_toArray, List.getElem_cons_zero, List.getElem_cons_succ, List.setIfInBounds_toArray, List.set_cons_zero, List.set_cons_succ]
            refine wpAnyU_pure (i := 9) (v := ?vf9) rfl (by kernel_rfl) (by kernel_rfl) (by kernel_rfl) (by kernel_rfl) (fun _ _ _ h => h) (Or.inl ⟨by rfl, fun V _ => ?hf9⟩) (fun _ => hHeld) ?rf9
            case hf9 => go_simp; try with_reducible rfl
            try simp only [Act.put, List.getElem_toArray, List.getElem_cons_zero, List.getElem_cons_succ, List.setIfInBounds_toArray, List.set_cons_zero, List.set_cons_succ]
            refine wpAnyU_load (i := 10) (v := ?vf10) rfl (by kernel_rfl) (by kernel_rfl) (by kernel_rfl) (by kernel_rfl) (fun _ _ _ h => h) (Or.inl ⟨by rfl, fun V hSw => ?hf10⟩) hHeld ?rf10
            case hf10 => (obtain ⟨⟨hs1, hs2, hs3, hs4, hs5⟩, hs6⟩ := hSw); go_simp; try with_reducible rfl
            try simp only [Act.put, List.getElem_toArray, List.getElem_cons_zero, List.getElem_cons_succ, List.setIfInBounds_toArray, List.set_cons_zero, List.set_cons_succ]
            refine wpAnyU_pure (i := 11) (v := ?vf11) rfl (by kernel_rfl) (by kernel_rfl) (by kernel_rfl) (by kernel_rfl) (fun _ _ _ h => h) (Or.inl ⟨by rfl, fun V _ => ?hf11⟩) (fun _ => hHeld) ?rf11
            case hf11 => go_simp; try with_reducible rfl
            try simp only [Act.put, List.getElem_toArray, List.getElem_cons_zero, List.getElem_cons_succ, List.setIfInBounds_toArray, List.set_cons_zero, List.set_cons_succ]
            refine wpAnyU_load (i := 12) (v := ?vf12) rfl (by kernel_rfl) (by kernel_rfl) (by kernel_rfl) (by kernel_rfl) (fun _ _ _ h => h) (Or.inl ⟨by rfl, fun V hSw => ?hf12⟩) hHeld ?rf12
            case hf12 => (obtain ⟨⟨hs1, hs2, hs3, hs4, hs5⟩, hs6⟩ := hSw); go_simp; try with_reducible rfl
            try simp only [Act.put, List.getElem_toArray, List.getElem_cons_zero, List.getElem_cons_succ, List.setIfInBounds_toArray, List.set_cons_zero, List.set_cons_succ]
            refine wpAnyU_pure (i := 13) (v := ?vf13) rfl (by kernel_rfl) (by kernel_rfl) (by kernel_rfl) (by kernel_rfl) (fun _ _ _ h => h) (Or.inl ⟨by rfl, fun V _ => ?hf13⟩) (fun _ => hHeld) ?rf13
            case hf13 => go_simp; try with_reducible rfl
            try simp only [Act.put, List.getElem_toArray, List.getElem_cons_zero, List.getElem_cons_succ, List.setIfInBounds_toArray, List.set_cons_zero, List.set_cons_succ]
            refine wpAnyU_pure (i := 16) (v := ?vf16) rfl (by kernel_rfl) (by kernel_rfl) (by kernel_rfl) (by kernel_rfl) (fun _ _ _ h => h) (Or.inl ⟨by rfl, fun V _ => ?hf16⟩) (fun _ => hHeld) ?rf16
            case hf16 => go_simp; try with_reducible rfl
            try simp only [Act.put, List.getElem_toArray, List.getElem_cons_zero, List.getElem_cons_succ, List.setIfInBounds_toArray, List.set_cons_zero, List.set_cons_succ]
            refine wpAnyU_ready (rs := [14]) (by kernel_rfl) (by simp) (AllU.cons (i := 14) rfl (fun K hK => ?_) AllU.nil)
            simp only [List.getElem_toArray, List.getElem_cons_zero, List.getElem_cons_succ]
            go_simp
            go_at_call 26
            refine (HRL.out _).mono ?_
            rintro x z1 ⟨rfl, hb⟩
            have kb : Below wr.heap.size wr z1 := ((Below.refl _ _).drew).trans hb
            have HKB := Lib.hid kb
            have k2 : z1.cell? ⟨w.heap.size + 1, f * 64 + l, none⟩ = some (.bool false) := (kb.cell (p := ⟨w.heap.size + 1, f * 64 + l, none⟩) hzT).trans k0
            have k3 : z1.frozen? ⟨w.heap.size + 1, f * 64 + l, none⟩ = false := (kb.frozen (p := ⟨w.heap.size + 1, f * 64 + l, none⟩) hzT).trans k1
            have k4 : w.heap.size + 1 < z1.heap.size := Nat.lt_of_lt_of_le hzT kb.size
            have HS2 := Lib.hid (HS.out z1 (fun o => kb.cell (p := ⟨wo.heap.size, o, none⟩) hzE))
            clear hb kb hHeld
            have hHeld := And.intro HS2.out k2
            refine hK.out _ _ (fun _ => hHeld) ?_
            clear hK K
            try simp only [Act.put, List.getElem_toArray, List.getElem_cons_zero, List.getElem_cons_succ, List.setIfInBounds_toArray, List.set_cons_zero, List.set_cons_succ]
            refine wpAnyU_pure (i := 15) (v := ?vf15) rfl (by kernel_rfl) (by kernel_rfl) (by kernel_rfl) (by kernel_rfl) (fun _ _ _ h => h) (Or.inl ⟨by rfl, fun V _ => ?hf15⟩) (fun _ => hHeld) ?rf15
            case hf15 => go_simp; try with_reducible rfl
            try simp only [Act.put, List.getElem_toArray, List.getElem_cons_zero, List.getElem_cons_succ, List.setIfInBounds_toArray, List.set_cons_zero, List.set_cons_succ]
            refine wpAnyU_pure (i := 17) (v := ?vf17) rfl (by kernel_rfl) (by kernel_rfl) (by kernel_rfl) (by kernel_rfl) (fun _ _ _ h => h) (Or.inl ⟨by rfl, fun V _ => ?hf17⟩) (fun _ => hHeld) ?rf17
            case hf17 => go_simp; try with_reducible rfl
            try simp only [Act.put, List.getElem_toArray, List.getElem_cons_zero, List.getElem_cons_succ, List.setIfInBounds_toArray, List.set_cons_zero, List.set_cons_succ]
            refine wpAnyU_ready (rs := [18]) (by kernel_rfl) (by simp) (AllU.cons (i := 18) rfl (fun K hK => ?_) AllU.nil)
            simp only [List.getElem_toArray, List.getElem_cons_zero, List.getElem_cons_succ]
            go_simp
            refine hK.out _ _ (fun h => by have h2 : false = true := h; cases h2) ?_
            clear hK K
            try simp only [Act.put, List.getElem_toArray, List.getElem_cons_zero, List.getElem_cons_succ, List.setIfInBounds_toArray, List.set_cons_zero, List.set_cons_succ]
            refine wpAnyU_done (by kernel_rfl) ?_ _
            clear hHeld
            go_wp2_with fail
            go_roundg q2
            case measure => omega
            case rel =>
              refine ⟨l + 1, by omega, by go_num, HPUT.out z1 (HKB.out.block _ hzT) rb rfl, ⟨HS.out _ (HEC.out z1 rb (fun o => HKB.out.cell (p := ⟨wo.heap.size, o, none⟩) hzE)), ?_⟩, ?_⟩
              · have := HKB.out.size
                simp
                omega
              · exact (HBX.out.trans (HKB.out.mono (by omega))).setCell (p := ⟨w.heap.size + 1, f * 64 + l, none⟩) (Nat.le_refl _) _
          · go_wp2_with fail
            refine wp_region_until_drew (st := [18]) (S := fun V => (V.cell? ⟨wo.heap.size, 0, none⟩ = some (.int .i64 f) ∧ V.cell? ⟨wo.heap.size, 1, none⟩ = some (.int .i64 et) ∧ V.cell? ⟨wo.heap.size, 2, none⟩ = some (.int .i64 ec) ∧ V.cell? ⟨wo.heap.size, 3, none⟩ = some (.int .i64 eb) ∧ V.cell? ⟨wo.heap.size, 4, none⟩ = some (.int .i64 em)) ∧ V.cell? ⟨w.heap.size + 1, f * 64 + l, none⟩ = some (.bool true)) (by kernel_rfl) ⟨HS.out _ (fun o => rfl), k0⟩ (fun hHeld => ?_)
            refine wpAnyU_pure (i := 0) (v := ?vt0) rfl (by kernel_rfl) (by kernel_rfl) (by kernel_rfl) (by kernel_rfl) (fun _ _ _ h => h) (Or.inl ⟨by rfl, fun V _ => ?ht0⟩) (fun _ => hHeld) ?rt0
            case ht0 => go_simp; try with_reducible rfl
            try simp only [Act.put, List.getElem_toArray, List.getElem_cons_zero, List.getElem_cons_succ, List.setIfInBounds_toArray, List.set_cons_zero, List.set_cons_succ]
            refine wpAnyU_pure (i := 1) (v := ?vt1) rfl (by kernel_rfl) (by kernel_rfl) (by kernel_rfl) (by kernel_rfl) (fun _ _ _ h => h) (Or.inl ⟨by rfl, fun V _ => ?ht1⟩) (fun _ => hHeld) ?rt1
            case ht1 => go_simp; try with_reducible rfl
            try simp only [Act.put, List.getElem_toArray, List.getElem_cons_zero, List.getElem_cons_succ, List.setIfInBounds_toArray, List.set_cons_zero, List.set_cons_succ]
            refine wpAnyU_load (i := 2) (v := ?vt2) rfl (by kernel_rfl) (by kernel_rfl) (by kernel_rfl) (by kernel_rfl) (fun _ _ _ h => h) (Or.inl ⟨by rfl, fun V hSw => ?ht2⟩) hHeld ?rt2
            case ht2 => (obtain ⟨⟨hs1, hs2, hs3, hs4, hs5⟩, hs6⟩ := hSw); go_simp; try with_reducible rfl
            try simp only [Act.put, List.getElem_toArray, List.getElem_cons_zero, List.getElem_cons_succ, List.setIfInBounds_toArray, List.set_cons_zero, List.set_cons_succ]
            refine wpAnyU_pure (i := 3) (v := ?vt3) rfl (by kernel_rfl) (by kernel_rfl) (by kernel_rfl) (by kernel_rfl) (fun _ _ _ h => h) (Or.inl ⟨by rfl, fun V _ => ?ht3⟩) (fun _ => hHeld) ?rt3
            case ht3 => go_simp; try with_reducible rfl
            try simp only [Act.put, List.getElem_toArray, List.getElem_cons_zero, List.getElem_cons_succ, List.setIfInBounds_toArray, List.set_cons_zero, List.set_cons_succ]
            refine wpAnyU_pure (i := 4) (v := ?vt4) rfl (by kernel_rfl) (by kernel_rfl) (by kernel_rfl) (by kernel_rfl) (fun _ _ _ h => h) (Or.inl ⟨by rfl, fun V _ => ?ht4⟩) (fun _ => hHeld) ?rt4
            case ht4 => go_simp; try with_reducible rfl
            try simp only [Act.put, List.getElem_toArray, List.getElem_cons_zero, List.getElem_cons_succ, List.setIfInBounds_toArray, List.set_cons_zero, List.set_cons_succ]
            refine wpAnyU_pure (i := 5) (v := ?vt5) rfl (by kernel_rfl) (by kernel_rfl) (by kernel_rfl) (by kernel_rfl) (fun _ _ _ h => h) (Or.inl ⟨by rfl, fun V _ => ?ht5⟩) (fun _ => hHeld) ?rt5
            case ht5 => go_simp; try with_reducible rfl
            try simp only [Act.put, List.getElem_toArray, List.getElem_cons_zero, List.getElem_cons_succ, List.setIfInBounds_toArray, List.set_cons_zero, List.set_cons_succ]
            refine wpAnyU_load (i := 6) (v := ?vt6) rfl (by kernel_rfl) (by kernel_rfl) (by kernel_rfl) (by kernel_rfl) (fun _ _ _ h => h) (Or.inl ⟨by rfl, fun V hSw => ?ht6⟩) hHeld ?rt6
            case ht6 => (obtain ⟨⟨hs1, hs2, hs3, hs4, hs5⟩, hs6⟩ := hSw); go_simp; try with_reducible rfl
            try simp only [Act.put, List.getElem_toArray, List.getElem_cons_zero, List.getElem_cons_succ, List.setIfInBounds_toArray, List.set_cons_zero, List.set_cons_succ]
            refine wpAnyU_pure (i := 7) (v := ?vt7) rfl (by kernel_rfl) (by kernel_rfl) (by kernel_rfl) (by kernel_rfl) (fun _ _ _ h => h) (Or.inl ⟨by rfl, fun V _ => ?ht7⟩) (fun _ => hHeld) ?rt7
            case ht7 => go_simp; try with_reducible rfl
            try simp only [Act.put, List.getElem_toArray, List.getElem_cons_zero, List.getElem_cons_succ, List.setIfInBounds_toArray, List.set_cons_zero, List.set_cons_succ]
            refine wpAnyU_pure (i := 8) (v := ?vt8) rfl (by kernel_rfl) (by kernel_rfl) (by kernel_rfl) (by kernel_rfl) (fun _ _ _ h => h) (Or.inl ⟨by rfl, fun V _ => ?ht8⟩) (fun _ => hHeld) ?rt8
            case ht8 => go_simp; try with_reducible rfl
            try simp only [Act.put, List.getElem_toArray, List.getElem_cons_zero, List.getElem_cons_succ, List.setIfInBounds_toArray, List.set_cons_zero, List.set_cons_succ]
            refine wpAnyU_pure (i := 9) (v := ?vt9) rfl (by kernel_rfl) (by kernel_rfl) (by kernel_rfl) (by kernel_rfl) (fun _ _ _ h => h) (Or.inl ⟨by rfl, fun V _ => ?ht9⟩) (fun _ => hHeld) ?rt9
            case ht9 => go_simp; try with_reducible rfl
            try simp only [Act.put, List.getElem_toArray, List.getElem_cons_zero, List.getElem_cons_succ, List.setIfInBounds_toArray, List.set_cons_zero, List.set_cons_succ]
            refine wpAnyU_load (i := 10) (v := ?vt10) rfl (by kernel_rfl) (by kernel_rfl) (by kernel_rfl) (by kernel_rfl) (fun _ _ _ h => h) (Or.inl ⟨by rfl, fun V hSw => ?ht10⟩) hHeld ?rt10
            case ht10 => (obtain ⟨⟨hs1, hs2, hs3, hs4, hs5⟩, hs6⟩ := hSw); go_simp; try with_reducible rfl
            try simp only [Act.put, List.getElem_toArray, List.getElem_cons_zero, List.getElem_cons_succ, List.setIfInBounds_toArray, List.set_cons_zero, List.set_cons_succ]
            refine wpAnyU_pure (i := 11) (v := ?vt11) rfl (by kernel_rfl) (by kernel_rfl) (by kernel_rfl) (by kernel_rfl) (fun _ _ _ h => h) (Or.inl ⟨by rfl, fun V _ => ?ht11⟩) (fun _ => hHeld) ?rt11
            case ht11 => go_simp; try with_reducible rfl
            try simp only [Act.put, List.getElem_toArray, List.getElem_cons_zero, List.getElem_cons_succ, List.setIfInBounds_toArray, List.set_cons_zero, List.set_cons_succ]
            refine wpAnyU_pure (i := 12) (v := undef) rfl (by kernel_rfl) (by kernel_rfl) (by kernel_rfl) (by kernel_rfl) (fun _ _ _ h => h) (Or.inr ⟨by rfl, rfl⟩) (fun _ => hHeld) ?rt12
            try simp only [Act.put, List.getElem_toArray, List.getElem_cons_zero, List.getElem_cons_succ, List.setIfInBounds_toArray, List.set_cons_zero, List.set_cons_succ]
            refine wpAnyU_pure (i := 13) (v := undef) rfl (by kernel_rfl) (by kernel_rfl) (by kernel_rfl) (by kernel_rfl) (fun _ _ _ h => h) (Or.inr ⟨by rfl, rfl⟩) (fun _ => hHeld) ?rt13
            try simp only [Act.put, List.getElem_toArray, List.getElem_cons_zero, List.getElem_cons_succ, List.setIfInBounds_toArray, List.set_cons_zero, List.set_cons_succ]
            refine wpAnyU_pure (i := 14) (v := undef) rfl (by kernel_rfl) (by kernel_rfl) (by kernel_rfl) (by kernel_rfl) (fun _ _ _ h => h) (Or.inr ⟨by rfl, rfl⟩) (fun _ => hHeld) ?rt14
            try simp only [Act.put, List.getElem_toArray, List.getElem_cons_zero, List.getElem_cons_succ, List.setIfInBounds_toArray, List.set_cons_zero, List.set_cons_succ]
            refine wpAnyU_pure (i := 15) (v := ?vt15) rfl (by kernel_rfl) (by kernel_rfl) (by kernel_rfl) (by kernel_rfl) (fun _ _ _ h => h) (Or.inl ⟨by rfl, fun V _ => ?ht15⟩) (fun _ => hHeld) ?rt15
            case ht15 => go_simp; try with_reducible rfl
            try simp only [Act.put, List.getElem_toArray, List.getElem_cons_zero, List.getElem_cons_succ, List.setIfInBounds_toArray, List.set_cons_zero, List.set_cons_succ]
            refine wpAnyU_pure (i := 16) (v := ?vt16) rfl (by kernel_rfl) (by kernel_rfl) (by kernel_rfl) (by kernel_rfl) (fun _ _ _ h => h) (Or.inl ⟨by rfl, fun V _ => ?ht16⟩) (fun _ => hHeld) ?rt16
            case ht16 => go_simp; try with_reducible rfl
            try simp only [Act.put, List.getElem_toArray, List.getElem_cons_zero, List.getElem_cons_succ, List.setIfInBounds_toArray, List.set_cons_zero, List.set_cons_succ]
            refine wpAnyU_pure (i := 17) (v := ?vt17) rfl (by kernel_rfl) (by kernel_rfl) (by kernel_rfl) (by kernel_rfl) (fun _ _ _ h => h) (Or.inl ⟨by rfl, fun V _ => ?ht17⟩) (fun _ => hHeld) ?rt17
            case ht17 => go_simp; try with_reducible rfl
            try simp only [Act.put, List.getElem_toArray, List.getElem_cons_zero, List.getElem_cons_succ, List.setIfInBounds_toArray, List.set_cons_zero, List.set_cons_succ]
            refine wpAnyU_ready (rs := [18]) (by kernel_rfl) (by simp) (AllU.cons (i := 18) rfl (fun K hK => ?_) AllU.nil)
            simp only [List.getElem_toArray, List.getElem_cons_zero, List.getElem_cons_succ]
            go_simp
            refine hK.out _ _ (fun h => by have h2 : false = true := h; cases h2) ?_
            clear hK K
            try simp only [Act.put, List.getElem_toArray, List.getElem_cons_zero, List.getElem_cons_succ, List.setIfInBounds_toArray, List.set_cons_zero, List.set_cons_succ]
            refine wpAnyU_done (by kernel_rfl) ?_ _
            clear hHeld
            go_wp2_with fail
            go_roundg q2
            case measure => omega
            case rel =>
              refine ⟨l + 1, by omega, by go_num, HPUT.out _ rfl true rfl, ⟨HS.out _ (HEC.out _ true (fun o => rfl)), ?_⟩, ?_⟩
              · simp
                omega
              · exact HBX.out.drew.setCell (p := ⟨w.heap.size + 1, f * 64 + l, none⟩) (Nat.le_refl _) _

end Go.Proofs.Ytalgbcndifaaiaa.Wd

namespace Go.Proofs.Ytalgbcndifaaiaa.Wd
open Go.RowKit
set_option linter.unusedVariables false

end Go.Proofs.Ytalgbcndifaaiaa.Wd

namespace Go.Proofs.Ytalgbcndifaaiaa.Wd
open Go.RowKit Go.Maps
set_option linter.unusedVariables false
set_option linter.unusedSimpArgs false

/-- What a call of Fill hands back. -/
def FillTo (p S2 kd M2 : Nat) (st2 : List Int) (es2 : List Ed) (w w' : World) (e : Ending) : Prop :=
  ∃ A1 c1 A2 c2, e = .returned (.tuple #[.agg #[.int .i64 p, .int .i64 S2, .slice A1 1 c1, .int .i64 kd, .int .i64 M2, .slice A2 es2.length c2], .int .i64 0]) ∧ Ints w' A1 1 st2 ∧ EdgesAt w' A2 es2.length es2 ∧ Below w.heap.size w w'

section
variable {p S kd mm : Nat} {st : List Int} {es : List Ed}
theorem from_of (hv : autB p S kd mm st es = true) : ∀ j, j < es.length → ∃ f : Nat, (es.getD j ed0).f = (f : Int) ∧ f < S := fun j hj => (edge_facts hv _ (mem_of_getD hj)).1
theorem froms_of (hv : autB p S kd mm st es = true) : ∀ e ∈ es, ∃ f : Nat, e.f = (f : Int) ∧ f < S := fun e he => (edge_facts hv e he).1
theorem marks2 (hv : autB p S kd mm st es = true) : ((((mm : Int) + addF kd mm).toNat : Nat) : Int) = (mm : Int) + addF kd mm := by
  have : 0 ≤ addF kd mm := by unfold addF; split <;> (try split) <;> omega
  omega
theorem fill_i (A E : Option Addr) (c ce : Nat) (w : World) (ha : Ints w A 1 st) (he : EdgesAt w E es.length es) (hv : autB p S kd mm st es = true) (hcl : clashB p es es.length = false) (hfu : fullB p es S = true) :
    Calls Try.prog 7 #[.agg #[.int .i64 p, .int .i64 S, .slice A 1 c, .int .i64 kd, .int .i64 mm, .slice E es.length ce]] w fun e w' => FillTo p S kd mm st es w w' e := by
  obtain ⟨⟨_, h2, _, h6, _, _⟩, _, _, h4, _⟩ := autB_true hv
  refine (fill_full p S kd mm A E c es.length ce st es w (by omega) (by omega) ha he h4 hv hcl hfu (from_of hv)).mono ?_
  rintro e w' ⟨A1, c1, A2, c2, rfl, h1, h2, h3⟩
  exact ⟨A1, c1, A2, c2, rfl, h1, h2, h3⟩
theorem fill_ii (A E : Option Addr) (n c ce : Nat) (w : World) (ha : Ints w A n st) (he : EdgesAt w E es.length es) (hv : autB p S kd mm st es = true) (hcl : clashB p es es.length = false) (hn : n ≤ 1) (hfu : n = 1 → fullB p es S = false) (hS : S < 3000) (hl : (fillL p S kd mm es).length ≤ 40000) :
    Calls Try.prog 7 #[.agg #[.int .i64 p, .int .i64 S, .slice A n c, .int .i64 kd, .int .i64 mm, .slice E es.length ce]] w fun e w' => FillTo p (S + 1) kd ((mm : Int) + addF kd mm).toNat (stF n S st) (fillL p S kd mm es) w w' e := by
  obtain ⟨⟨_, h2, _, h6, h0, h5⟩, hM, _, h4, _⟩ := autB_true hv
  have hr := marksB_few hM
  have hm2 := marks2 hv
  have hS1 : ((S + 1 : Nat) : Int) = (S : Int) + 1 := by omega
  unfold FillTo
  rw [hm2, hS1]
  by_cases h : n = 1
  · subst h
    refine (fill_lack p S kd mm A E c es.length ce st es w (by omega) (by omega) h0 h5 hr.1 hr.2 ha he h4 hv hcl (hfu rfl) (from_of hv)).mono ?_
    rintro e w' (⟨hb, _⟩ | ⟨_, _, ⟨A1, n1, c1, A2, c2, rfl, h1, h2⟩, h3⟩)
    · rcases hb with hb | hb <;> omega
    · obtain rfl : n1 = 1 := h1.1.symm.trans ha.1
      exact ⟨A1, c1, A2, c2, rfl, h1, h2, h3⟩
  · obtain rfl : n = 0 := by omega
    refine (fill_none p S kd mm A E c es.length ce st es w (by omega) (by omega) h0 h5 hr.1 hr.2 ha he h4 hv hcl (from_of hv)).mono ?_
    rintro e w' (⟨hb, _⟩ | ⟨_, _, ⟨A1, n1, c1, A2, c2, rfl, h1, h2⟩, h3⟩)
    · rcases hb with hb | hb <;> omega
    · obtain rfl : n1 = 1 := h1.1.symm
      exact ⟨A1, c1, A2, c2, rfl, h1, h2, h3⟩
theorem edOK_of (hv : autB p S kd mm st es = true) : EdOK S mm es := by
  intro j hj
  obtain ⟨_, _, _, _, hes⟩ := autB_true hv
  obtain ⟨q1, q2, q3, q4, q5, q6⟩ := of_decide_eq_true (edge_ok hes hj)
  rw [show (mm : Int).toNat = mm by omega] at q6
  refine ⟨(es.getD j ed0).f.toNat, (es.getD j ed0).t.toNat, (es.getD j ed0).m.toNat, by omega, by omega, by omega, by omega, by omega, ?_⟩
  have e2 : ((2 : Int) ^ mm) = ((2 ^ mm : Nat) : Int) := by simp
  rw [e2] at q6
  omega
end

/-- How b comes of a where a is not complete or has no Start state. -/
structure Filled (p S kd mm M2 : Nat) (n : Nat) (st st2 : List Int) (es es2 : List Ed) : Prop where
  lack : n = 1 → fullB p es S = false
  one : n = 1 → st2.getD 0 0 = st.getD 0 0
  nost : n = 0 → st2.getD 0 0 = (S : Int)
  next : ∀ s l : Nat, s < S + 1 → l < 2 ^ p → ∃ j, nextS es2 s (l : Int) = some j ∧ (es2.getD j ed0).t = if s < S then (match nextS es s (l : Int) with | some i => (es.getD i ed0).t | .none => (S : Int)) else (S : Int)
  acc : ∀ f, AccW st2 es2 kd M2 f ↔ AccW st es kd mm f
theorem filled_of {p S kd mm : Nat} {st : List Int} {es : List Ed} {n : Nat} (hl : st.length = n) (hv : autB p S kd mm st es = true) (hcl : clashB p es es.length = false) (hn : n ≤ 1) (hfu : n = 1 → fullB p es S = false) :
    Filled p S kd mm ((mm : Int) + addF kd mm).toNat n st (stF n S st) es (fillL p S kd mm es) := by
  subst hl
  obtain ⟨⟨_, h2, _⟩, _⟩ := autB_true hv
  refine ⟨hfu, fun h => ?_, fun h => ?_, fun s l hs hl => fill_next (by omega) (froms_of hv) ((clash_pairs fun i hi => (from_of hv i hi).imp fun _ h => h.1).1 hcl) hs hl, fun f => fill_acc (by omega) hn hv⟩
  · unfold stF; rw [if_neg (by omega)]
  · unfold stF; rw [if_pos h]; rfl

theorem bits_fill {p S K M : Nat} {es : List Ed} (hp : p ≤ 6) (hb : BitsOK es) : BitsOK (fillL p S K M es) := by
  intro i hi
  rcases fill_mem.1 (mem_of_getD hi) with ⟨e0, he0, h⟩ | ⟨s, _, x, hx, h⟩
  · obtain ⟨j, hj, rfl⟩ := getD_of_mem he0
    rw [h]
    exact hb j hj
  · obtain ⟨_, _, h3⟩ := lack_spec hp (hasX p S es) s
    obtain ⟨c, b, _, h5, _, rfl⟩ := h3 x hx
    rw [h]
    have h64 := (pow_six hp).2
    show -9223372036854775808 ≤ (b : Int) ∧ (b : Int) < 9223372036854775808
    omega

/-- What the law needs of the complete automaton b. -/
structure Bd (p S kd mm n S2 M2 : Nat) (st st2 : List Int) (es es2 : List Ed) : Prop where
  valid : autB p S2 kd M2 st2 es2 = true
  clash : clashB p es2 es2.length = false
  whole : fullB p es2 S2 = true
  one : st2.length = 1
  few : S2 ≤ 21 ∧ es2.length ≤ 16000
  bits : BitsOK es2
  how : (n = 1 ∧ fullB p es S = true ∧ S2 = S ∧ M2 = mm ∧ st2 = st ∧ es2 = es) ∨ (S2 = S + 1 ∧ Filled p S kd mm M2 n st st2 es es2)
  acc : ∀ f, AccW st2 es2 kd M2 f ↔ AccW st es kd mm f
theorem bd_full {p S kd mm : Nat} {st : List Int} {es : List Ed} (hv : autB p S kd mm st es = true) (hcl : clashB p es es.length = false) (hn : st.length = 1) (hfu : fullB p es S = true) (hS : S ≤ 20) (hne : es.length ≤ 100) (hb : BitsOK es) : Bd p S kd mm 1 S mm st st es es :=
  ⟨hv, hcl, hfu, hn, ⟨by omega, by omega⟩, hb, .inl ⟨rfl, hfu, rfl, rfl, rfl, rfl⟩, fun _ => Iff.rfl⟩
theorem bd_lack {p S kd mm n : Nat} {st : List Int} {es : List Ed} (hv : autB p S kd mm st es = true) (hcl : clashB p es es.length = false) (hl : st.length = n) (hn : n ≤ 1) (hfu : n = 1 → fullB p es S = false) (hS : S ≤ 20) (hne : es.length ≤ 100) (hb : BitsOK es) :
    Bd p S kd mm n (S + 1) ((mm : Int) + addF kd mm).toNat st (stF n S st) es (fillL p S kd mm es) := by
  obtain ⟨⟨_, h2, _, h6, h0, h5⟩, hM, _, h4, _⟩ := autB_true hv
  have hp : p ≤ 6 := by omega
  have hlen := fill_len (p := p) (S := S) (K := kd) (M := mm) (es := es) hp
  have hlen2 : (fillL p S kd mm es).length ≤ 16000 := by
    have : (S + 1) * 729 ≤ 21 * 729 := Nat.mul_le_mul_right _ (by omega)
    omega
  have hm2 := marks2 hv
  have hS1 : ((S + 1 : Nat) : Int) = (S : Int) + 1 := by omega
  have hF := filled_of hl hv hcl hn hfu
  have hva := fill_valid hp (by omega) (by omega) hv (by omega)
  rw [hl] at hva
  refine ⟨by rw [hm2, hS1]; exact hva, ?_, fill_whole hp, ?_, ⟨by omega, hlen2⟩, bits_fill hp hb, .inr ⟨rfl, hF⟩, hF.acc⟩
  · refine (clash_pairs fun i hi => ?_).2 ?_
    · obtain ⟨f, hf, _⟩ := from_of (p := p) (S := S + 1) (kd := kd) (mm := ((mm : Int) + addF kd mm).toNat) (st := stF n S st) (by rw [hm2, hS1]; exact hva) i hi
      exact ⟨f, hf⟩
    · exact fill_pairs hp (froms_of hv) ((clash_pairs fun i hi => (from_of hv i hi).imp fun _ h => h.1).1 hcl)
  · unfold stF
    split
    · rfl
    · omega

end Go.Proofs.Ytalgbcndifaaiaa.Wd
