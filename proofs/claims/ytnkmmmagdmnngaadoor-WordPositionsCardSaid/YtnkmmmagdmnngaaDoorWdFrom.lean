/-
  From of package word.
-/
import Derived.Test.YtnkmmmagdmnngaaDoorWdRefNormal
namespace Go.Proofs.YtnkmmmagdmnngaaDoor.Wd
open Go.RowKit
set_option linter.unusedVariables false

/-- The letters from position k on. -/
def tail_ (s l : List Int) (k : Int) (i : Nat) : Int := at_ s l (k.toNat + i)
def codeF (ok : Bool) (k : Int) : Int := if ok = true then (if k < 0 then 6 else 0) else 1
def okF (ok : Bool) (k : Int) : Bool := ok && decide (0 ≤ k)

theorem tail_near {s l : List Int} {k : Nat} (hk : k ≤ s.length) : at_ (s.drop k) l = tail_ s l k := by
  funext i
  simp only [tail_, Int.toNat_natCast]
  rcases Nat.lt_or_ge (k + i) s.length with h | h
  · rw [at_lt h, at_lt (by rw [List.length_drop]; omega)]
    simp [List.getD_eq_getElem?_getD, List.getElem?_drop]
  · rw [at_ge h, at_ge (by rw [List.length_drop]; omega), List.length_drop]
    congr 2
    omega
theorem tail_far {s l : List Int} {k : Nat} (hl : 0 < l.length) (hk : s.length ≤ k) : at_ [] (rot l ((k - s.length) % l.length)) = tail_ s l k := by
  funext i
  have hlt := Nat.mod_lt (k - s.length) hl
  simp only [tail_, Int.toNat_natCast]
  rw [at_ge (by simp), at_ge (by omega), rot_length, rot_getD hlt (Nat.mod_lt _ hl)]
  congr 1
  simp only [List.length_nil, Nat.sub_zero]
  rw [Nat.add_mod_mod, Nat.mod_add_mod]
  congr 1
  omega

theorem res_bad {w w' : World} {f : Nat → Int} {code : Int} {ok : Bool} {code' : Int} (hb : Below w.heap.size w w') (h1 : ok = false) (h2 : code = code') :
    Res w w' (Out ok f) code (.returned (.tuple #[.agg #[.slice none 0 0, .slice none 0 0], .int .i64 code'])) := by
  subst h1 h2
  exact ⟨none, 0, 0, none, 0, 0, [], [], rfl, ⟨Ints.none_, Ints.none_, Nat.le_refl _, Nat.le_refl _⟩, ⟨out_bad, by simp, by simp⟩, hb⟩

set_option maxRecDepth 100000 in
set_option maxHeartbeats 800000 in
theorem From_bad (A B : Option Addr) (n c m d : Nat) (s l : List Int) (k : Int) (w : World) (ha : Ints w A n s) (hb : Ints w B m l) (h1 : n + m ≤ 100000) (hv : validB 6 s l = false) :
    Calls Tryd.prog 19 #[.agg #[.slice A n c, .slice B m d], .int .i64 k] w fun e w' => Res w w' (Out (okF (validB 6 s l) k) (tail_ s l k)) (codeF (validB 6 s l) k) e := by
  have hn : n ≤ 100000 := by omega
  have hm : m ≤ 100000 := by omega
  have HV := Lib.hid hv
  clear hv h1
  go_enter Tryd.func19, Tryd.ntmps19
  go_wp2_with fail
  refine (valid_any A B n c m d 6 s l _ ((ha.alloc _).alloc _) ((hb.alloc _).alloc _) hn hm).mono ?_
  rintro e w1 ⟨rfl, hb1⟩
  rw [HV.out]
  obtain ⟨hc, hf⟩ := bcell hb1
  have hz : w.heap.size + 1 < w1.heap.size := by have := hb1.size; simp at this; omega
  go_wp2_with fail
  refine bodyPost_ret (v := .tuple #[.agg #[.slice none 0 0, .slice none 0 0], .int .i64 1]) (by simp [results, Tryd.results19, go_sem, hc]) rfl ?_
  exact res_bad ((((((Below.refl _ _).alloc (Nat.le_refl _) _).alloc (by simp) _).trans (hb1.mono (by simp; omega))).setCell (by simp) _).setCell (by simp) _) (by rw [HV.out]; rfl) (by rw [HV.out]; rfl)

set_option maxRecDepth 100000 in
set_option maxHeartbeats 800000 in
theorem From_neg (A B : Option Addr) (n c m d : Nat) (s l : List Int) (k : Int) (w : World) (ha : Ints w A n s) (hb : Ints w B m l) (h1 : n + m ≤ 100000) (hv : validB 6 s l = true) (hk : k < 0) :
    Calls Tryd.prog 19 #[.agg #[.slice A n c, .slice B m d], .int .i64 k] w fun e w' => Res w w' (Out (okF (validB 6 s l) k) (tail_ s l k)) (codeF (validB 6 s l) k) e := by
  have hn : n ≤ 100000 := by omega
  have hm : m ≤ 100000 := by omega
  have HV := Lib.hid hv
  clear hv h1
  go_enter Tryd.func19, Tryd.ntmps19
  go_wp2_with fail
  refine (valid_any A B n c m d 6 s l _ ((ha.alloc _).alloc _) ((hb.alloc _).alloc _) hn hm).mono ?_
  rintro e w1 ⟨rfl, hb1⟩
  rw [HV.out]
  obtain ⟨hc, hf⟩ := bcell hb1
  have hz : w.heap.size + 1 < w1.heap.size := by have := hb1.size; simp at this; omega
  go_wp2_with fail
  refine bodyPost_ret (v := .tuple #[.agg #[.slice none 0 0, .slice none 0 0], .int .i64 6]) (by simp [results, Tryd.results19, go_sem, hc]) rfl ?_
  exact res_bad ((((((Below.refl _ _).alloc (Nat.le_refl _) _).alloc (by simp) _).trans (hb1.mono (by simp; omega))).setCell (by simp) _).setCell (by simp) _) (by rw [HV.out]; simp [okF]; omega) (by rw [HV.out]; simp [codeF, hk])

set_option maxRecDepth 100000 in
set_option maxHeartbeats 1000000 in
theorem From_far (A B : Option Addr) (n c m d : Nat) (s l : List Int) (k : Nat) (w : World) (ha : Ints w A n s) (hb : Ints w B m l) (h1 : n + m ≤ 100000) (hmd : m ≤ d) (hv : validB 6 s l = true) (hk : n < k) (hk2 : k ≤ 9223372036854775807) :
    Calls Tryd.prog 19 #[.agg #[.slice A n c, .slice B m d], .int .i64 k] w fun e w' => Res w w' (Out (okF (validB 6 s l) k) (tail_ s l k)) (codeF (validB 6 s l) k) e := by
  have hn : n ≤ 100000 := by omega
  have hm : m ≤ 100000 := by omega
  have e1 := ha.1
  have e2 := hb.1
  have hm0 : 0 < m := by have := valid6 hv; omega
  have HV := Lib.hid hv
  have HX := Lib.hid e1
  have HY := Lib.hid e2
  obtain ⟨b, off, rfl, hbB, hcb⟩ := hb.at_ hm0
  have hlt : (k - n) % m < m := Nat.mod_lt _ hm0
  have HA := Lib.hid (show at_ [] (rot l ((k - n) % m)) = tail_ s l k by have := tail_far (s := s) (l := l) (k := k) (by omega) (by omega); rw [e1, e2] at this; exact this)
  obtain ⟨st, hst⟩ : ∃ st, (k - n) % m = st := ⟨_, rfl⟩
  rw [hst] at hlt
  have HA2 := Lib.hid (show at_ [] (rot l st) = tail_ s l k by rw [← hst]; exact HA.out)
  have HST := Lib.hid hst
  clear hst HA hcb hv h1 e1 e2
  have b1 : (0 : Int) ≤ (k : Int) - n := by omega
  have hd : decide ((k : Int) ≤ (n : Int)) = false := by simp; omega
  have hd0 : decide ((k : Int) < 0) = false := by simp
  go_enter Tryd.func19, Tryd.ntmps19
  go_wp2_with fail
  refine (valid_any A _ n c m d 6 s l _ ((ha.alloc _).alloc _) ((hb.alloc _).alloc _) hn hm).mono ?_
  rintro e w1 ⟨rfl, hb1⟩
  rw [HV.out]
  obtain ⟨hc, hf⟩ := bcell hb1
  have hz : w.heap.size + 1 < w1.heap.size := by have := hb1.size; simp at this; omega
  have g1 : IntKind.i64.wrap ((k : Int) - (n : Int)) = (k : Int) - n := IntWalk.i64_in _ (by omega)
  have g2 : ((k : Int) - (n : Int)).tmod (m : Int) = (st : Int) := by
    rw [Int.tmod_eq_emod_of_nonneg b1, ← HST.out, show (k : Int) - n = ((k - n : Nat) : Int) by omega, Int.natCast_emod]
  go_wp2_with fail
  refine (rotated_slice b off m d st l _ (((hb.alloc _).alloc _).below hb1) hm hmd hlt).mono ?_
  rintro e w2 ⟨A2, c2, rfl, hi2, hc2, hb2⟩
  go_wp2_with fail
  refine (normal_parts none A2 0 0 m c2 [] (l.drop st ++ l.take st) _ Ints.none_ hi2 (by omega) hm hm0 (Nat.le_refl _) hc2).mono ?_
  rintro e w3 ⟨A', n', c', B', m', d', s', l', rfl, ⟨ha', hb', hnc', hmd'⟩, HN, hb3⟩
  have hb13 : Below w1.heap.size w1 w3 := hb2.trans (hb3.mono hb2.size)
  have r0 : w3.cell? ⟨w.heap.size + 1, 0, none⟩ = some (.slice none 0 0) := by rw [hb13.cell (by simpa using hz), hc _ _ (by simp)]; simp [go_sem]
  have r1 : w3.cell? ⟨w.heap.size + 1, 1, none⟩ = some (.slice none 0 0) := by rw [hb13.cell (by simpa using hz), hc _ _ (by simp)]; simp [go_sem]
  have k0 : w3.frozen? ⟨w.heap.size + 1, 0, none⟩ = false := by rw [hb13.frozen (by simpa using hz), hf _ _ (by simp)]; simp [go_sem]
  have k1 : w3.frozen? ⟨w.heap.size + 1, 1, none⟩ = false := by rw [hb13.frozen (by simpa using hz), hf _ _ (by simp)]; simp [go_sem]
  have hz2 : w.heap.size + 1 < w3.heap.size := by have := hb13.size; omega
  clear hc hf
  go_wp2_with fail
  refine bodyPost_ret (v := .tuple #[.agg #[.slice A' n' c', .slice B' m' d'], .int .i64 0]) (by simp [results, Tryd.results19, go_sem, r0, r1]) rfl ?_
  have r1' := (World.cell?_setCell_other w3 ⟨w.heap.size + 1, 0, none⟩ ⟨w.heap.size + 1, 1, none⟩ (.slice A' n' c') (by simp)).trans r1
  rw [HV.out]
  refine ⟨A', n', c', B', m', d', s', l', rfl, ⟨(ha'.set r0 (by simp) _).set r1' (by simp) _, (hb'.set r0 (by simp) _).set r1' (by simp) _, hnc', hmd'⟩, ⟨?_, ?_, ?_⟩, ?_⟩
  · have := HN.out.1
    rw [show l.drop st ++ l.take st = rot l st from rfl, HA2.out] at this
    exact out_good this
  · have := HN.out; omega
  · have := HN.out; omega
  · exact (((((Below.refl _ _).alloc (Nat.le_refl _) _).alloc (by simp) _).trans ((hb1.trans (hb13.mono hb1.size)).mono (by simp; omega))).setCell (by simp) _).setCell (by simp) _

set_option maxRecDepth 100000 in
set_option maxHeartbeats 1000000 in
theorem From_near (A B : Option Addr) (n c m d : Nat) (s l : List Int) (k : Nat) (w : World) (ha : Ints w A n s) (hb : Ints w B m l) (h1 : n + m ≤ 100000) (hnc : n ≤ c) (hmd : m ≤ d) (hv : validB 6 s l = true) (hk : k ≤ n) :
    Calls Tryd.prog 19 #[.agg #[.slice A n c, .slice B m d], .int .i64 k] w fun e w' => Res w w' (Out (okF (validB 6 s l) k) (tail_ s l k)) (codeF (validB 6 s l) k) e := by
  have hn : n ≤ 100000 := by omega
  have hm : m ≤ 100000 := by omega
  have e1 := ha.1
  have e2 := hb.1
  have hm0 : 0 < m := by have := valid6 hv; omega
  have HV := Lib.hid hv
  have HA2 := Lib.hid (show at_ (s.drop k) l = tail_ s l k from tail_near (by omega))
  have HCUT := Lib.hid (fun W (hW : Ints W A n s) => hW.cut (k := k) (cap := c) hk hnc)
  obtain ⟨A3, hA3⟩ : ∃ A3, (if c = k then A else A.map (·.add k)) = A3 := ⟨_, rfl⟩
  rw [hA3] at HCUT
  have HA3 := Lib.hid hA3
  clear hA3
  have b1 : (k : Int) ≤ (n : Int) := by omega
  have b2 : (k : Int) ≤ (c : Int) := by omega
  have b3 : (n : Int) ≤ (c : Int) := by omega
  have b4 : (0 : Int) ≤ (k : Int) := by omega
  clear hv h1 e1 e2
  have hd0 : decide ((k : Int) < 0) = false := by simp
  have hd : decide ((k : Int) ≤ (n : Int)) = true := by simp; omega
  go_enter Tryd.func19, Tryd.ntmps19
  go_wp2_with fail
  refine (valid_any A _ n c m d 6 s l _ ((ha.alloc _).alloc _) ((hb.alloc _).alloc _) hn hm).mono ?_
  rintro e w1 ⟨rfl, hb1⟩
  rw [HV.out]
  obtain ⟨hc, hf⟩ := bcell hb1
  have hz : w.heap.size + 1 < w1.heap.size := by have := hb1.size; simp at this; omega
  have hz0 : w.heap.size < w1.heap.size := by omega
  have ha1 := Lib.hid (((ha.alloc _).alloc _).below hb1)
  have hb1' := Lib.hid (((hb.alloc _).alloc _).below hb1)
  have p0 : w1.cell? ⟨w.heap.size, 0, none⟩ = some (.slice A n c) := by rw [hc _ _ (by simp; omega)]; simp [go_sem]
  have p1 : w1.cell? ⟨w.heap.size, 1, none⟩ = some (.slice B m d) := by rw [hc _ _ (by simp; omega)]; simp [go_sem]
  have q0 : w1.cell? ⟨w.heap.size + 1, 0, none⟩ = some (.slice none 0 0) := by rw [hc _ _ (by simp)]; simp [go_sem]
  have q1 : w1.cell? ⟨w.heap.size + 1, 1, none⟩ = some (.slice none 0 0) := by rw [hc _ _ (by simp)]; simp [go_sem]
  have q2 : w1.frozen? ⟨w.heap.size + 1, 0, none⟩ = false := by rw [hf _ _ (by simp)]; simp [go_sem]
  have q3 : w1.frozen? ⟨w.heap.size + 1, 1, none⟩ = false := by rw [hf _ _ (by simp)]; simp [go_sem]
  clear hc hf ha hb
  go_wp2_with fail
  go_region_held3 (fun V => V.cell? ⟨w.heap.size, 0, none⟩ = some (.slice A n c) ∧ V.cell? ⟨w.heap.size, 1, none⟩ = some (.slice B m d))
    (first
      | go_keep
      | (refine ⟨?_, ?_⟩
         · rw [hb3.cell (by simpa using hz0)]; exact p0
         · rw [hb3.cell (by simpa using hz0)]; exact p1))
    (first
      | (go_at_call 69
         rw [HA3.out]
         refine (normal_parts A3 B (n - k) _ m d (s.drop k) l w1.drew (by exact HCUT.out _ ha1.out.drew) hb1'.out.drew (by omega) hm hm0 (by omega) hmd).mono ?_
         rintro e w3 ⟨A', n', c', B', m', d', s', l', rfl, ⟨ha', hb', hnc', hmd'⟩, HN, hb3⟩
         have hb13 : Below w1.heap.size w1 w3 := ((Below.refl _ _).drew).trans hb3
         have r0 : w3.cell? ⟨w.heap.size + 1, 0, none⟩ = some (.slice none 0 0) := by rw [hb13.cell (by simpa using hz)]; exact q0
         have r1 : w3.cell? ⟨w.heap.size + 1, 1, none⟩ = some (.slice none 0 0) := by rw [hb13.cell (by simpa using hz)]; exact q1
         have k0 : w3.frozen? ⟨w.heap.size + 1, 0, none⟩ = false := by rw [hb13.frozen (by simpa using hz)]; exact q2
         have k1 : w3.frozen? ⟨w.heap.size + 1, 1, none⟩ = false := by rw [hb13.frozen (by simpa using hz)]; exact q3
         have hz2 : w.heap.size + 1 < w3.heap.size := by have := hb13.size; omega)
      | fail)
  go_wp2_with fail
  refine bodyPost_ret (v := .tuple #[.agg #[.slice A' n' c', .slice B' m' d'], .int .i64 0]) (by simp [results, Tryd.results19, go_sem, r0, r1]) rfl ?_
  have r1' := (World.cell?_setCell_other w3 ⟨w.heap.size + 1, 0, none⟩ ⟨w.heap.size + 1, 1, none⟩ (.slice A' n' c') (by simp)).trans r1
  rw [HV.out]
  refine ⟨A', n', c', B', m', d', s', l', rfl, ⟨(ha'.set r0 (by simp) _).set r1' (by simp) _, (hb'.set r0 (by simp) _).set r1' (by simp) _, hnc', hmd'⟩, ⟨?_, ?_, ?_⟩, ?_⟩
  · have := HN.out.1
    rw [HA2.out] at this
    exact out_good this
  · have := HN.out; omega
  · have := HN.out; omega
  · exact (((((Below.refl _ _).alloc (Nat.le_refl _) _).alloc (by simp) _).trans ((hb1.trans (hb13.mono hb1.size)).mono (by simp; omega))).setCell (by simp) _).setCell (by simp) _

theorem From_any (A B : Option Addr) (n c m d : Nat) (s l : List Int) (k : Int) (w : World) (ha : Ints w A n s) (hb : Ints w B m l) (h1 : n + m ≤ 100000) (hnc : n ≤ c) (hmd : m ≤ d) (hk : k ≤ 9223372036854775807) :
    Calls Tryd.prog 19 #[.agg #[.slice A n c, .slice B m d], .int .i64 k] w fun e w' => Res w w' (Out (okF (validB 6 s l) k) (tail_ s l k)) (codeF (validB 6 s l) k) e := by
  cases hv : validB 6 s l
  · have := From_bad A B n c m d s l k w ha hb h1 hv
    rwa [hv] at this
  · rw [← hv]
    by_cases h0 : k < 0
    · exact From_neg A B n c m d s l k w ha hb h1 hv h0
    · obtain ⟨j, rfl⟩ := Int.eq_ofNat_of_zero_le (show 0 ≤ k by omega)
      by_cases hj : j ≤ n
      · exact From_near A B n c m d s l j w ha hb h1 hnc hmd hv hj
      · exact From_far A B n c m d s l j w ha hb h1 hmd hv (by omega) (by omega)

end Go.Proofs.YtnkmmmagdmnngaaDoor.Wd
