/-
  followed of package game: the play from a position, up to the first position that occurs twice.
-/
import Derived.Test.YtffdbncjndnnaaaGaRep
import Derived.Test.YtffdbncjndnnaaaGaSubM
import Derived.Test.YtffdbncjndnnaaaWdClone
import Derived.WalkMore
namespace Go.Proofs.Ytffdbncjndnnaaa.Wd
open Go.RowKit
set_option linter.unusedVariables false
set_option linter.unusedSimpArgs false

/-- Position k of the play. -/
def ptP (ch : List Int) (f : Nat) : Nat → Nat
  | 0 => f
  | k + 1 => (ch.getD (ptP ch f k) 0).toNat
def pathL (ch : List Int) (f k : Nat) : List Int := (List.range k).map fun j => (ptP ch f j : Int)
theorem pathL_next (ch : List Int) (f k : Nat) : pathL ch f (k + 1) = pathL ch f k ++ [(ptP ch f k : Int)] := by
  unfold pathL
  rw [List.range_succ, List.map_append]
  rfl
theorem pathL_len (ch : List Int) (f k : Nat) : (pathL ch f k).length = k := by simp [pathL]
/-- m is the first place at which a position occurs again; it was there at place i. -/
def Meet (ch : List Int) (f i m : Nat) : Prop := i < m ∧ ptP ch f i = ptP ch f m ∧ ∀ a b, a < b → b < m → ptP ch f a ≠ ptP ch f b
theorem Meet.unique {ch : List Int} {f i m i' m' : Nat} (h : Meet ch f i m) (h' : Meet ch f i' m') : i = i' ∧ m = m' := by
  have e : m = m' := by
    rcases Nat.lt_trichotomy m m' with l | l | l
    · exact absurd h.2.1 (h'.2.2 i m h.1 l)
    · exact l
    · exact absurd h'.2.1 (h.2.2 i' m' h'.1 l)
  subst e
  refine ⟨?_, rfl⟩
  rcases Nat.lt_trichotomy i i' with l | l | l
  · exact absurd (h.2.1.trans h'.2.1.symm) (h.2.2 i i' l h'.1)
  · exact l
  · exact absurd (h'.2.1.trans h.2.1.symm) (h.2.2 i' i l h.1)

/-- How many places below n hold -1. -/
def openN (n : Nat) (pl : Nat → Int) : Nat := ((List.range n).filter fun v => decide (pl v = -1)).length
theorem openN_put {n v : Nat} {pl : Nat → Int} (hv : v < n) (h : pl v = -1) {x : Int} (hx : ¬ x = -1) : openN n (fun i => if i = v then x else pl i) + 1 = openN n pl := by
  unfold openN
  induction n with
  | zero => omega
  | succ n ih =>
    rw [List.range_succ, List.filter_append, List.filter_append, List.length_append, List.length_append]
    by_cases e : v = n
    · subst e
      have h1 : (List.range v).filter (fun i => decide ((if i = v then x else pl i) = -1)) = (List.range v).filter (fun i => decide (pl i = -1)) :=
        List.filter_congr fun i hi => by
          have := List.mem_range.1 hi
          rw [if_neg (by omega)]
      rw [h1]
      simp [h, hx]
    · have := ih (by omega)
      have h2 : List.filter (fun i => decide ((if i = v then x else pl i) = -1)) [n] = List.filter (fun i => decide (pl i = -1)) [n] :=
        List.filter_congr fun i hi => by
          have : i = n := by simpa using hi
          rw [if_neg (by omega)]
      rw [h2]
      omega

theorem openN_all (n : Nat) : openN n (fun _ => -1) = n := by
  unfold openN
  rw [List.filter_eq_self.2 (fun _ _ => by simp)]
  simp
/-- While the play is followed: k positions are in the path. -/
structure FoS (ch : List Int) (f n k : Nat) (pl : Nat → Int) : Prop where
  at_ : ∀ a, a < k → pl (ptP ch f a) = (a : Int)
  open_ : ∀ v, v < n → (∀ a, a < k → ptP ch f a ≠ v) → pl v = -1
  dist : ∀ a b, a < b → b < k → ptP ch f a ≠ ptP ch f b
theorem FoS.start (ch : List Int) (f n : Nat) : FoS ch f n 0 (fun _ => -1) := ⟨fun a ha => absurd ha (by omega), fun _ _ _ => rfl, fun _ _ _ hb => absurd hb (by omega)⟩
theorem FoS.fresh {ch : List Int} {f n k : Nat} {pl : Nat → Int} (h : FoS ch f n k pl) (hp : pl (ptP ch f k) = -1) : ∀ a, a < k → ptP ch f a ≠ ptP ch f k := fun a ha e => by
  have := h.at_ a ha
  rw [e, hp] at this
  omega
theorem FoS.next {ch : List Int} {f n k : Nat} {pl : Nat → Int} (h : FoS ch f n k pl) (hp : pl (ptP ch f k) = -1) : FoS ch f n (k + 1) (fun i => if i = ptP ch f k then (k : Int) else pl i) := by
  have hf := h.fresh hp
  refine ⟨fun a ha => ?_, fun v hv hn => ?_, fun a b hab hb => ?_⟩
  · by_cases e : a = k
    · subst e; rw [if_pos rfl]
    · rw [if_neg (hf a (by omega))]; exact h.at_ a (by omega)
  · rw [if_neg (fun e => hn k (by omega) e.symm)]
    exact h.open_ v hv fun a ha => hn a (by omega)
  · by_cases e : b = k
    · subst e; exact hf a hab
    · exact h.dist a b hab (by omega)
theorem FoS.met {ch : List Int} {f n k : Nat} {pl : Nat → Int} (h : FoS ch f n k pl) (hv : ptP ch f k < n) (hp : ¬ pl (ptP ch f k) = -1) : ∃ i : Nat, pl (ptP ch f k) = (i : Int) ∧ Meet ch f i k := by
  have : ∃ a, a < k ∧ ptP ch f a = ptP ch f k := Classical.byContradiction fun hn => hp (h.open_ _ hv fun a ha e => hn ⟨a, ha, e⟩)
  obtain ⟨a, ha, e⟩ := this
  exact ⟨a, by rw [← e]; exact h.at_ a ha, ha, e, h.dist⟩

set_option maxRecDepth 100000 in
set_option maxHeartbeats 4000000 in
theorem followed_any (A : Option Addr) (n c f : Nat) (ch : List Int) (w : World) (h : Ints w A n ch) (hn : n ≤ 20000) (hf : f < n) (hch : ∀ v, v < n → 0 ≤ ch.getD v 0 ∧ ch.getD v 0 < n) :
    Calls Try.prog 34 #[.slice A n c, .int .i64 f] w fun e w' => ∃ i m A1 c1 A2 c2, e = .returned (.tuple #[.slice A1 i c1, .slice A2 (m - i) c2]) ∧ Meet ch f i m ∧ m ≤ n ∧ Ints w' A1 i ((pathL ch f m).take i) ∧ Ints w' A2 (m - i) ((pathL ch f m).drop i) ∧ Below w.heap.size w w' := by
  have hn0 : (0 : Int) ≤ (n : Int) := by omega
  have hal := h.1
  obtain ⟨i0, hi, hi0, hi1, hi2⟩ := info_parts int_info
  have HA := Lib.hid h
  have HCH := Lib.hid hch
  have HRP := Lib.hid (repeat_any (some ⟨w.heap.size, 0, none⟩) 1 n (-1) (w.alloc (.cells #[.int .i64 (-1)] 3)) (int_new' w rfl (-1) _) hn)
  clear h hch
  go_enter Try.func34, Try.ntmps34
  go_wp2_with fail
  go_step3
  go_wp2_with fail
  refine HRP.out.mono ?_
  rintro r w1 ⟨b, rfl, hb, hrow, hb1⟩
  have HB1 := Lib.hid (show Below w.heap.size w w1 from ((Below.refl _ _).alloc (Nat.le_refl _) _).trans (hb1.mono (by simp)))
  have HBG := Lib.hid (show w.heap.size < b by have := hb; rw [World.size_alloc] at this; omega)
  have HR1 := Lib.hid hrow
  have hbl : b < w1.heap.size := hrow.lt
  clear hb hrow hb1
  go_wp2_with fail
  go_step3
  go_wp2_with fail
  have HST := Lib.hid (FoS.start ch f n)
  have hpt0 : ptP ch f 0 = f := rfl
  go_loopg [6, 8] (openN n (fun _ => -1)) (fun g s6 at_ wx => ∃ k pl, g = openN n pl ∧ at_ = .int .i64 (ptP ch f k) ∧ ptP ch f k < n ∧ k ≤ n ∧ Hid (FoS ch f n k pl) ∧ Hid (k + openN n pl = openN n (fun _ => -1)) ∧ (∃ A6 c6, s6 = .slice A6 k c6 ∧ Hid (wx.ownsRow w1.heap.size 3 1 (.slice A6 k c6) k ((pathL ch f k).map (Value.int .i64)))) ∧ Hid (wx.rowIs b 3 n (fun i => .int .i64 (pl i))) ∧ Hid (Below b w1 wx) ∧ Hid (w1.heap.size ≤ wx.heap.size))
  case atStart => exact ⟨0, fun _ => -1, rfl, rfl, hf, by omega, HST.out, Nat.zero_add _, ⟨none, 0, rfl, World.ownsRow_nil _ _ _ _⟩, HR1.out, Below.refl _ _, Nat.le_refl _⟩
  case round =>
    obtain ⟨k, pl, hg, rfl, hat, hkn, HFO, HCN, ⟨A6, c6, rfl, HO6⟩, HRX, HBX, HZX⟩ := hrel
    have hat0 : (0 : Int) ≤ (ptP ch f k : Int) := by omega
    have hat1 : (ptP ch f k : Int) < (n : Int) := by omega
    have kp := HRX.out.cell hat
    have fp := HRX.out.frozen (ptP ch f k)
    have hbx : b < wr.heap.size := HRX.out.lt
    obtain ⟨bA, oA, rfl, hbA, hcA⟩ := HA.out.2 (by omega)
    have HWR := Lib.hid (HB1.out.trans (HBX.out.mono (by have := HBG.out; omega)))
    have kc := (HWR.out.cell (p := ⟨bA, oA + ptP ch f k, none⟩) hbA).trans (hcA _ hat)
    have hcv := HCH.out _ hat
    have HPN := Lib.hid (show (ptP ch f (k + 1) : Int) = ch.getD (ptP ch f k) 0 from by show (((ch.getD (ptP ch f k) 0).toNat : Nat) : Int) = _; omega)
    have HPT := Lib.hid (pathL_next ch f k)
    have HPL := Lib.hid (pathL_len ch f k)
    have HN := Lib.hid (fun h => HFO.out.next (k := k) h)
    have HM := Lib.hid (fun h => HFO.out.met hat h)
    have HO := Lib.hid (fun h => openN_put (n := n) (v := ptP ch f k) (pl := pl) hat h (x := (k : Int)) (by omega))
    clear hcA
    have hkk0 : (0 : Int) ≤ (k : Int) := by omega
    have hkk1 : (k : Int) ≤ 20000 := by omega
    by_cases hp : pl (ptP ch f k) = -1
    · rw [hp] at kp
      have HFN := Lib.hid (HN.out hp)
      have HON := Lib.hid (HO.out hp)
      have HPP := Lib.hid (fun u => HRX.out.set (ptP ch f k) u)
      have HOP := Lib.hid (fun u => own_put' HO6.out (a := ⟨b, ptP ch f k, none⟩) (by
        intro e
        have := (HO6.out.lt b e).1
        omega) u)
      have hpn0 : 0 ≤ ch.getD (ptP ch f k) 0 := hcv.1
      have HCV := Lib.hid hcv
      clear hcv
      generalize hv : ptP ch f k = v at *
      have HVV := Lib.hid hv
      clear hv
      generalize ch.getD v 0 = cv at *
      go_wp2_with (refine wpList_append_ints _ (by rfl) _ _ _ (by rfl) w1.heap.size 3 i0 _ Try.underlying22 hi hi0 hi1 hi2 rfl (.slice A6 k c6) k ((pathL ch f k).map (Value.int .i64)) (by rfl) (by exact (HOP.out _).alloc _) (some ⟨wr.heap.size, 0, none⟩) 1 1 [(v : Int)] (by rfl) (int_new' _ (size_set _ _ _) _ _) (by omega) (by rw [World.size_alloc, size_set]; have := HZX.out; omega) ?_; intro v' w4 hown hgrow hat'; obtain ⟨A7, c7, rfl, _⟩ := own_slice hown; have hbel := below_own ((HOP.out _).alloc _) hgrow (by rw [World.size_alloc, size_set]; have := HZX.out; omega); have kc' := (hbel.cell (p := ⟨bA, oA + v, none⟩) (by have := HB1.out.size; show bA < w1.heap.size; omega)).trans ((Below.cell (p := ⟨bA, oA + v, none⟩) (((Below.refl b wr).setCell (by show b ≤ b; omega) _).alloc (by rw [size_set]; omega) _) (by have := HBG.out; show bA < b; omega)).trans kc); have HBEL := Lib.hid hbel; have HOWN := Lib.hid hown; clear hown hgrow hat' hbel)
      have HCNT := Lib.hid (show (k + 1) + openN n (fun i => if i = v then (k : Int) else pl i) = openN n (fun _ => -1) by
        have h1 := HON.out
        have h2 := HCN.out
        omega)
      go_roundg (openN n (fun i => if i = v then (k : Int) else pl i))
      case measure => have h1 := HON.out; omega
      case rel =>
        refine ⟨k + 1, _, rfl, by rw [← HPN.out], ?_, ?_, HFN.out, HCNT.out, ⟨A7, c7, rfl, ?_⟩, (((HPP.out _).alloc _).of_block (HBEL.out.block _ hbl)).congr (fun i _ => ?_), ?_, ?_⟩
        · have := HCV.out
          have := HPN.out
          omega
        · have h1 := HCNT.out
          rw [openN_all] at h1
          omega
        · rw [HPT.out, List.map_append]
          exact HOWN.out
        · by_cases e : i = v
          · rw [if_pos e, if_pos e]
          · rw [if_neg e, if_neg e]
        · exact ((HBX.out.setCell (by show b ≤ b; omega) _).alloc (by rw [size_set]; omega) _).trans (HBEL.out.mono (by omega))
        · have := HBEL.out.size
          have h2 := HZX.out
          rw [World.size_alloc, size_set] at this
          show w1.heap.size ≤ w4.heap.size
          omega
    · obtain ⟨i, hpi, hmeet⟩ := HM.out hp
      rw [hpi] at kp
      have hik : i < k := hmeet.1
      have HME := Lib.hid hmeet
      have hin0 : (0 : Int) ≤ (i : Int) := by omega
      have hik1 : (i : Int) < (k : Int) := by omega
      have hik2 : (i : Int) ≤ (k : Int) := by omega
      have hneg : ((i : Int) == -1) = false := beq_false_of_ne (by omega)
      have hc6 : k ≤ c6 := by
        obtain ⟨A8, c8, he8, hc8⟩ := own_slice HO6.out
        simp only [Value.slice.injEq] at he8
        omega
      obtain ⟨b6, o6, rfl, _, _⟩ := (Ints.of_own HO6.out).2 (by omega)
      have HI6 := Lib.hid (Ints.of_own HO6.out)
      have HT6 := Lib.hid (HI6.out.take (k := i) (by omega))
      have HC6 := Lib.hid (HI6.out.cut (k := i) (cap := c6) (by omega) hc6)
      have hci : ¬ c6 = i := by omega
      rw [if_neg hci, show Option.map (fun x => x.add i) (some (⟨b6, o6, none⟩ : Addr)) = some ⟨b6, o6 + i, none⟩ from by simp [Addr.add]] at HC6
      have HK1 := Lib.hid (fun W (hW : Below wr.heap.size wr W) => clone_slice (some ⟨b6, o6, none⟩) i c6 _ W (HT6.out.below hW) (by omega))
      have HK2 := Lib.hid (fun W (hW : Below wr.heap.size wr W) => clone_slice (some ⟨b6, o6 + i, none⟩) (k - i) (c6 - i) _ W (HC6.out.below hW) (by omega))
      clear hmeet hpi
      have hic : i ≤ c6 := by omega
      have hkn2 : (k : Int) ≤ 20000 := by omega
      generalize hv : ptP ch f k = v at *
      have HVV := Lib.hid hv
      clear hv
      go_wp2_with fail
      go_region_law (first
        | (go_simp
           go_wp2_with (go_at_call 49
                        first
                          | (refine (HK1.out _ (Below.refl _ _).drew).mono ?_
                             rintro e z1 ⟨B1, d1, rfl, ho1, -, hz1⟩
                             have HZ1 := Lib.hid (show Below wr.heap.size wr z1 from (Below.refl _ _).drew.trans hz1)
                             have HY1 := Lib.hid (Ints.of_own ho1)
                             have kq := (HZ1.out.cell (p := ⟨b, v, none⟩) hbx).trans kp
                             clear ho1 hz1)
                          | (refine (HK2.out _ HZ1.out).mono ?_
                             rintro e z2 ⟨B2, d2, rfl, ho2, -, hz2⟩
                             have HZ2 := Lib.hid (show Below z1.heap.size z1 z2 from hz2)
                             have HY2 := Lib.hid (Ints.of_own ho2)
                             clear ho2 hz2)))
        | fail)
      all_goals
        try simp only [List.getElem_toArray, List.getElem_cons_zero, List.getElem_cons_succ]
        go_wp2_with fail
        rw [Exit.noGoto_ret]
        exact bodyPost_ret (v := .tuple #[.slice B1 i d1, .slice B2 (k - i) d2]) (by simp [results, Try.results34, go_sem, Act.put]) rfl ⟨i, k, B1, d1, B2, d2, rfl, HME.out, hkn, HY1.out.below HZ2.out, HY2.out, HWR.out.trans ((HZ1.out.mono HWR.out.size).trans (HZ2.out.mono (Nat.le_trans HWR.out.size HZ1.out.size)))⟩

end Go.Proofs.Ytffdbncjndnnaaa.Wd
