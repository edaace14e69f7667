/-
  Loops of package word.
-/
import Derived.Test.YtnkmmmagdmnngaaDoorWdRest
namespace Go.Proofs.YtnkmmmagdmnngaaDoor.Wd
open Go.RowKit
set_option linter.unusedVariables false

/-- The list l, k times. -/
def rep (l : List Int) : Nat → List Int
  | 0 => []
  | k + 1 => rep l k ++ l
theorem rep_length (l : List Int) (k : Nat) : (rep l k).length = k * l.length := by
  induction k with
  | zero => simp [rep]
  | succ k ih => simp [rep, ih, Nat.succ_mul]

def okL (s l : List Int) (k : Int) : Bool := validB 6 s l && decide (1 ≤ k) && decide ((s.length : Int) + k * l.length ≤ 200)
def codeL (s l : List Int) (k : Int) : Int := if validB 6 s l = true then (if k < 1 then 6 else if (s.length : Int) + k * l.length ≤ 200 then 0 else 3) else 1
def OutL (s l : List Int) (k : Int) (s' l' : List Int) : Prop := if okL s l k = true then s' = s ∧ l' = rep l k.toNat else s' = [] ∧ l' = []
theorem OutL.unique {s l : List Int} {k : Int} {a b a' b' : List Int} (h : OutL s l k a b) (h' : OutL s l k a' b') : a = a' ∧ b = b' := by
  unfold OutL at h h'
  cases hok : okL s l k
  · simp [hok] at h h'
    exact ⟨h.1.trans h'.1.symm, h.2.trans h'.2.symm⟩
  · simp [hok] at h h'
    exact ⟨h.1.trans h'.1.symm, h.2.trans h'.2.symm⟩

theorem resL_bad {w w' : World} {s l : List Int} {k : Int} {code : Int} (hb : Below w.heap.size w w') (h1 : okL s l k = false) (h2 : codeL s l k = code) :
    Res w w' (OutL s l k) (codeL s l k) (.returned (.tuple #[.agg #[.slice none 0 0, .slice none 0 0], .int .i64 code])) := by
  subst h2
  exact ⟨none, 0, 0, none, 0, 0, [], [], rfl, ⟨Ints.none_, Ints.none_, Nat.le_refl _, Nat.le_refl _⟩, ⟨by simp [OutL, h1], by simp, by simp⟩, hb⟩

theorem okL_v {s l : List Int} {k : Int} (h : validB 6 s l = false) : okL s l k = false ∧ codeL s l k = 1 := by simp [okL, codeL, h]
theorem okL_k {s l : List Int} {k : Int} (h : validB 6 s l = true) (hk : k < 1) : okL s l k = false ∧ codeL s l k = 6 := by
  simp [okL, codeL, h, hk, show ¬ 1 ≤ k by omega]
theorem okL_full {s l : List Int} {k : Int} (h : validB 6 s l = true) (hk : ¬ k < 1) (hf : ¬ (s.length : Int) + k * l.length ≤ 200) : okL s l k = false ∧ codeL s l k = 3 := by
  constructor
  · simp [okL, hf]
  · unfold codeL; rw [if_pos h, if_neg hk, if_neg hf]
theorem okL_good {s l : List Int} {k : Int} (h : validB 6 s l = true) (hk : ¬ k < 1) (hf : (s.length : Int) + k * l.length ≤ 200) : okL s l k = true ∧ codeL s l k = 0 := by
  constructor
  · simp [okL, h, hf]; omega
  · unfold codeL; rw [if_pos h, if_neg hk, if_pos hf]

/-- The quotient that Loops compares with. -/
theorem full_quot {n m j : Nat} (hm0 : 0 < m) (h : n ≤ 200) : (200 - n) / m < j ↔ ¬ (n : Int) + (j : Int) * (m : Int) ≤ 200 := by
  rw [Nat.div_lt_iff_lt_mul hm0]
  have : ((j * m : Nat) : Int) = (j : Int) * (m : Int) := by simp
  rw [← this]
  omega

set_option maxRecDepth 100000 in
set_option maxHeartbeats 800000 in
theorem Loops_bad (A B : Option Addr) (n c m d : Nat) (s l : List Int) (k : Int) (w : World) (ha : Ints w A n s) (hb : Ints w B m l) (h1 : n + m ≤ 100000) (hv : validB 6 s l = false) :
    Calls Tryd.prog 21 #[.agg #[.slice A n c, .slice B m d], .int .i64 k] w fun e w' => Res w w' (OutL s l k) (codeL s l k) e := by
  have hn : n ≤ 100000 := by omega
  have hm : m ≤ 100000 := by omega
  have HV := Lib.hid hv
  clear hv h1
  go_enter Tryd.func21, Tryd.ntmps21
  go_wp2_with fail
  refine (valid_any A B n c m d 6 s l _ ((ha.alloc _).alloc _) ((hb.alloc _).alloc _) hn hm).mono ?_
  rintro e w1 ⟨rfl, hb1⟩
  rw [HV.out]
  obtain ⟨hc, hf⟩ := bcell hb1
  have hz : w.heap.size + 1 < w1.heap.size := by have := hb1.size; simp at this; omega
  go_wp2_with fail
  refine bodyPost_ret (v := .tuple #[.agg #[.slice none 0 0, .slice none 0 0], .int .i64 1]) (by simp [results, Tryd.results21, go_sem, hc]) rfl ?_
  exact resL_bad ((((((Below.refl _ _).alloc (Nat.le_refl _) _).alloc (by simp) _).trans (hb1.mono (by simp; omega))).setCell (by simp) _).setCell (by simp) _) (okL_v HV.out).1 (okL_v HV.out).2

set_option maxRecDepth 100000 in
set_option maxHeartbeats 800000 in
theorem Loops_few (A B : Option Addr) (n c m d : Nat) (s l : List Int) (k : Int) (w : World) (ha : Ints w A n s) (hb : Ints w B m l) (h1 : n + m ≤ 100000) (hv : validB 6 s l = true) (hk : k < 1) :
    Calls Tryd.prog 21 #[.agg #[.slice A n c, .slice B m d], .int .i64 k] w fun e w' => Res w w' (OutL s l k) (codeL s l k) e := by
  have hn : n ≤ 100000 := by omega
  have hm : m ≤ 100000 := by omega
  have HV := Lib.hid hv
  clear hv h1
  go_enter Tryd.func21, Tryd.ntmps21
  go_wp2_with fail
  refine (valid_any A B n c m d 6 s l _ ((ha.alloc _).alloc _) ((hb.alloc _).alloc _) hn hm).mono ?_
  rintro e w1 ⟨rfl, hb1⟩
  rw [HV.out]
  obtain ⟨hc, hf⟩ := bcell hb1
  have hz : w.heap.size + 1 < w1.heap.size := by have := hb1.size; simp at this; omega
  go_wp2_with fail
  refine bodyPost_ret (v := .tuple #[.agg #[.slice none 0 0, .slice none 0 0], .int .i64 6]) (by simp [results, Tryd.results21, go_sem, hc]) rfl ?_
  exact resL_bad ((((((Below.refl _ _).alloc (Nat.le_refl _) _).alloc (by simp) _).trans (hb1.mono (by simp; omega))).setCell (by simp) _).setCell (by simp) _) (okL_k HV.out hk).1 (okL_k HV.out hk).2

set_option maxRecDepth 100000 in
set_option maxHeartbeats 1000000 in
theorem Loops_else (A B : Option Addr) (n c m d : Nat) (s l : List Int) (k : Nat) (w : World) (ha : Ints w A n s) (hb : Ints w B m l) (h1 : n + m ≤ 100000) (hnc : n ≤ c) (hmd : m ≤ d) (hv : validB 6 s l = true) (hk : 1 ≤ k) :
    Calls Tryd.prog 21 #[.agg #[.slice A n c, .slice B m d], .int .i64 k] w fun e w' => Res w w' (OutL s l k) (codeL s l k) e := by
  obtain ⟨i0, hi, hi0, hi1, hi2⟩ := info_parts int_info
  have hn : n ≤ 100000 := by omega
  have hm : m ≤ 100000 := by omega
  have e1 := ha.1
  have e2 := hb.1
  have hm0 : 0 < m := by have := valid6 hv; omega
  have hn2 : n ≤ 200 := by have := valid6 hv; omega
  have hm2 : m ≤ 200 := by have := valid6 hv; omega
  have HV := Lib.hid hv
  have HX := Lib.hid e1
  have HY := Lib.hid e2
  have HQ := Lib.hid (full_quot (n := n) (m := m) (j := k) hm0 hn2)
  have hq0 : (200 - n) / m ≤ 200 := Nat.le_trans (Nat.div_le_self _ _) (by omega)
  have HQ2 := Lib.hid (show ((200 : Int) - n).tdiv m = (((200 - n) / m : Nat) : Int) by
    rw [Int.tdiv_eq_ediv_of_nonneg (by omega), show (200 : Int) - n = ((200 - n : Nat) : Int) by omega, Int.natCast_ediv])
  generalize hq : (200 - n) / m = q at *
  clear hq hv h1 e1 e2
  have hd0 : decide ((k : Int) < 1) = false := by simp; omega
  have g1 : IntKind.i64.wrap ((200 : Int) - n) = (200 : Int) - n := IntWalk.i64_in _ (by omega)
  have g2 : ((200 : Int) - n).tdiv m = (q : Int) := HQ2.out
  have g3 : IntKind.i64.wrap (q : Int) = (q : Int) := IntWalk.i64_in _ (by omega)
  by_cases hqk : q < k
  · have hd1 : decide ((q : Int) < (k : Int)) = true := by simp; omega
    go_enter Tryd.func21, Tryd.ntmps21
    go_wp2_with fail
    refine (valid_any A B n c m d 6 s l _ ((ha.alloc _).alloc _) ((hb.alloc _).alloc _) hn hm).mono ?_
    rintro e w1 ⟨rfl, hb1⟩
    rw [HV.out]
    obtain ⟨hc, hf⟩ := bcell hb1
    have hz : w.heap.size + 1 < w1.heap.size := by have := hb1.size; simp at this; omega
    go_wp2_with fail
    refine bodyPost_ret (v := .tuple #[.agg #[.slice none 0 0, .slice none 0 0], .int .i64 3]) (by simp [results, Tryd.results21, go_sem, hc]) rfl ?_
    have hfull : ¬ (s.length : Int) + (k : Int) * l.length ≤ 200 := by rw [HX.out, HY.out]; exact Int.not_le.mpr (HQ.out.1 hqk)
    exact resL_bad ((((((Below.refl _ _).alloc (Nat.le_refl _) _).alloc (by simp) _).trans (hb1.mono (by simp; omega))).setCell (by simp) _).setCell (by simp) _) (okL_full HV.out (by omega) hfull).1 (okL_full HV.out (by omega) hfull).2
  · have hd1 : decide ((q : Int) < (k : Int)) = false := by simp; omega
    go_enter Tryd.func21, Tryd.ntmps21
    go_wp2_with fail
    refine (valid_any A B n c m d 6 s l _ ((ha.alloc _).alloc _) ((hb.alloc _).alloc _) hn hm).mono ?_
    rintro e w1 ⟨rfl, hb1⟩
    rw [HV.out]
    obtain ⟨hc, hf⟩ := bcell hb1
    have hz : w.heap.size + 1 < w1.heap.size := by have := hb1.size; simp at this; omega
    go_wp2_with fail
    have HB := Lib.hid (((hb.alloc _).alloc _).below hb1)
    have HA := Lib.hid (((ha.alloc _).alloc _).below hb1)
    have p0 : w1.cell? ⟨w.heap.size, 0, none⟩ = some (.slice A n c) := by rw [hc _ _ (by simp; omega)]; simp [go_sem]
    have p1 : w1.cell? ⟨w.heap.size, 1, none⟩ = some (.slice B m d) := by rw [hc _ _ (by simp; omega)]; simp [go_sem]
    have q0 : w1.cell? ⟨w.heap.size + 1, 0, none⟩ = some (.slice none 0 0) := by rw [hc _ _ (by simp)]; simp [go_sem]
    have q1 : w1.cell? ⟨w.heap.size + 1, 1, none⟩ = some (.slice none 0 0) := by rw [hc _ _ (by simp)]; simp [go_sem]
    have q2 : w1.frozen? ⟨w.heap.size + 1, 0, none⟩ = false := by rw [hf _ _ (by simp)]; simp [go_sem]
    have q3 : w1.frozen? ⟨w.heap.size + 1, 1, none⟩ = false := by rw [hf _ _ (by simp)]; simp [go_sem]
    have hbw : Below w.heap.size w w1 := (((Below.refl _ _).alloc (Nat.le_refl _) _).alloc (by simp) _).trans (hb1.mono (by simp; omega))
    have hroom : n + k * m ≤ 200 := by
      have := Int.not_lt.mp (mt HQ.out.2 hqk)
      have e : ((k * m : Nat) : Int) = (k : Int) * (m : Int) := by simp
      rw [← e] at this
      omega
    have HROOM : Hid (∀ j, j ≤ k → (rep l j).length ≤ 200 ∧ (rep l (j + 1)).length = (rep l j).length + m) := fun j hj => by
      refine ⟨?_, by simp only [rep, List.length_append, HY.out]⟩
      rw [rep_length, HY.out]
      have := Nat.mul_le_mul_right m hj
      omega
    clear hc hf ha hb hb1
    go_loopg [6, 26] k (fun g v i wx => ∃ j : Nat, j + g = k ∧ i = .int .i64 j ∧ Hid (wx.ownsRow w1.heap.size 3 1 v (rep l j).length ((rep l j).map (Value.int .i64))) ∧ Below w1.heap.size w1 wx)
    case atStart => exact ⟨0, by omega, rfl, World.ownsRow_nil _ _ _ _, Below.refl _ _⟩
    case round =>
      obtain ⟨j, hjg, rfl, HO, hbx⟩ := hrel
      have x0 : wr.cell? ⟨w.heap.size, 0, none⟩ = some (.slice A n c) := by rw [hbx.cell (by simp; omega)]; exact p0
      have x1 : wr.cell? ⟨w.heap.size, 1, none⟩ = some (.slice B m d) := by rw [hbx.cell (by simp; omega)]; exact p1
      have y0 : wr.cell? ⟨w.heap.size + 1, 0, none⟩ = some (.slice none 0 0) := by rw [hbx.cell (by simp; omega)]; exact q0
      have y1 : wr.cell? ⟨w.heap.size + 1, 1, none⟩ = some (.slice none 0 0) := by rw [hbx.cell (by simp; omega)]; exact q1
      have y2 : wr.frozen? ⟨w.heap.size + 1, 0, none⟩ = false := by rw [hbx.frozen (by simp; omega)]; exact q2
      have y3 : wr.frozen? ⟨w.heap.size + 1, 1, none⟩ = false := by rw [hbx.frozen (by simp; omega)]; exact q3
      have hzr : w.heap.size + 1 < wr.heap.size := by have := hbx.size; omega
      cases gk with
      | zero =>
        obtain rfl : j = k := by omega
        go_wp2_with fail
        refine (clone_slice A n c s _ (HA.out.below hbx) (by omega)).mono ?_
        rintro e w3 ⟨A1, c1, rfl, hown1, hc1, hb3⟩
        have r0 : w3.cell? ⟨w.heap.size + 1, 0, none⟩ = some (.slice none 0 0) := by rw [hb3.cell (by simpa using hzr)]; exact y0
        have r1 : w3.cell? ⟨w.heap.size + 1, 1, none⟩ = some (.slice none 0 0) := by rw [hb3.cell (by simpa using hzr)]; exact y1
        have k0 : w3.frozen? ⟨w.heap.size + 1, 0, none⟩ = false := by rw [hb3.frozen (by simpa using hzr)]; exact y2
        have k1 : w3.frozen? ⟨w.heap.size + 1, 1, none⟩ = false := by rw [hb3.frozen (by simpa using hzr)]; exact y3
        have hz2 : w.heap.size + 1 < w3.heap.size := by have := hb3.size; omega
        obtain ⟨B2, c2, hv2, hc2⟩ := own_slice HO.out
        rw [hv2] at HO
        have hi2' := (Ints.of_own HO.out).below hb3
        have hi1' := Ints.of_own hown1
        rw [hv2]
        clear HO hown1 hv2
        have HLEN := Lib.hid (show (rep l j).length ≤ 200 from (HROOM.out j (Nat.le_refl _)).1)
        generalize hlen : (rep l j).length = nl at *
        clear hlen
        go_wp2_with fail
        refine bodyPost_ret (v := .tuple #[.agg #[.slice A1 n c1, .slice B2 nl c2], .int .i64 0]) (by simp [results, Tryd.results21, go_sem, r0, r1]) rfl ?_
        have r1' := (World.cell?_setCell_other w3 ⟨w.heap.size + 1, 0, none⟩ ⟨w.heap.size + 1, 1, none⟩ (.slice A1 n c1) (by simp)).trans r1
        have hgood : (s.length : Int) + (j : Int) * l.length ≤ 200 := by rw [HX.out, HY.out]; exact Int.not_lt.mp (mt HQ.out.2 hqk)
        rw [(okL_good HV.out (by omega) hgood).2]
        refine ⟨A1, n, c1, B2, nl, c2, s, rep l j, rfl, ⟨(hi1'.set r0 (by simp) _).set r1' (by simp) _, (hi2'.set r0 (by simp) _).set r1' (by simp) _, hc1, hc2⟩, ⟨?_, ?_, ?_⟩, ?_⟩
        · unfold OutL; rw [if_pos (okL_good HV.out (by omega) hgood).1]; exact ⟨rfl, rfl⟩
        · rw [HX.out]; omega
        · have := (HROOM.out j (Nat.le_refl _)).1; omega
        · exact ((hbw.trans ((hbx.trans (hb3.mono hbx.size)).mono hbw.size)).setCell (by simp) _).setCell (by simp) _
      | succ g =>
        have hjk : j < k := by omega
        go_wp2_with (at_builtin; refine wpList_append_ints _ (by rfl) _ _ 22 (by rfl) w1.heap.size 3 i0 _ Tryd.underlying22 hi hi0 hi1 hi2 rfl u6 (rep l j).length ((rep l j).map (Value.int .i64)) (by rfl) HO.out B m d l (by rfl) (by exact HB.out.below hbx) (by have := (HROOM.out j (by omega)).1; omega) hbx.size ?_)
        intro v' w' hown hgrow _
        have HO' := Lib.hid hown
        have hbx' : Below w1.heap.size w1 w' := hbx.trans (below_own HO.out hgrow hbx.size)
        clear hown hgrow
        go_wp2_with fail
        go_roundg g
        case measure => omega
        case rel => exact ⟨j + 1, by omega, by go_num, (by have := HO'.out; rw [← List.map_append, ← (HROOM.out j (by omega)).2] at this; exact this), hbx'⟩

theorem Loops_any (A B : Option Addr) (n c m d : Nat) (s l : List Int) (k : Int) (w : World) (ha : Ints w A n s) (hb : Ints w B m l) (h1 : n + m ≤ 100000) (hnc : n ≤ c) (hmd : m ≤ d) :
    Calls Tryd.prog 21 #[.agg #[.slice A n c, .slice B m d], .int .i64 k] w fun e w' => Res w w' (OutL s l k) (codeL s l k) e := by
  cases hv : validB 6 s l
  · exact Loops_bad A B n c m d s l k w ha hb h1 hv
  · by_cases hk : k < 1
    · exact Loops_few A B n c m d s l k w ha hb h1 hv hk
    · obtain ⟨j, rfl⟩ := Int.eq_ofNat_of_zero_le (show 0 ≤ k by omega)
      exact Loops_else A B n c m d s l j w ha hb h1 hnc hmd hv (by omega)

end Go.Proofs.YtnkmmmagdmnngaaDoor.Wd
