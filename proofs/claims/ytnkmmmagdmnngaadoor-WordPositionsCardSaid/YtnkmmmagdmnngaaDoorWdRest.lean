/-
  Rest and From of the reference.
-/
import Derived.Test.YtnkmmmagdmnngaaDoorWdFrom
namespace Go.Proofs.YtnkmmmagdmnngaaDoor.Wd
open Go.RowKit
set_option linter.unusedVariables false

/-- Norm, the result written out. -/
theorem norm_parts (A B : Option Addr) (n c m d : Nat) (s l : List Int) (w : World) (ha : Ints w A n s) (hb : Ints w B m l) (hn : n ≤ 100000) (hm : m ≤ 100000) (hm0 : 0 < m) (hnc : n ≤ c) (hmd : m ≤ d) :
    Calls Tryd.prog 70 #[.agg #[.slice A n c, .slice B m d]] w fun e w' => ∃ A' n' c' B' m' d' s' l', e = .returned (.agg #[.slice A' n' c', .slice B' m' d']) ∧
      (Ints w' A' n' s' ∧ Ints w' B' m' l' ∧ n' ≤ c' ∧ m' ≤ d') ∧ Hid (NF (at_ s l) s' l' ∧ s'.length ≤ n ∧ l'.length ≤ m) ∧ Below w.heap.size w w' :=
  (norm_any A B n c m d s l w ha hb hn hm hm0 hnc hmd).mono fun _ _ ⟨v, s', l', he, ⟨A', n', c', B', m', d', hv, h1, h2, h3, h4⟩, hnf, hs, hl, hb⟩ => by
    subst hv
    exact ⟨A', n', c', B', m', d', s', l', he, ⟨h1, h2, h3, h4⟩, ⟨hnf, hs, hl⟩, hb⟩

/-- What Rest returns. -/
def RestRes (w w' : World) (f : Nat → Int) (e : Ending) : Prop :=
  ∃ A' n' c' B' m' d' s' l', e = .returned (.agg #[.slice A' n' c', .slice B' m' d']) ∧
    (Ints w' A' n' s' ∧ Ints w' B' m' l' ∧ n' ≤ c' ∧ m' ≤ d') ∧ Hid (NF f s' l' ∧ s'.length ≤ 100000 ∧ l'.length ≤ 100000) ∧ Below w.heap.size w w'

set_option maxRecDepth 100000 in
set_option maxHeartbeats 1000000 in
theorem Rest_near (A B : Option Addr) (n c m d : Nat) (s l : List Int) (k : Nat) (w : World) (ha : Ints w A n s) (hb : Ints w B m l) (h1 : n + m ≤ 100000) (hnc : n ≤ c) (hmd : m ≤ d) (hm0 : 0 < m) (hk : k ≤ n) :
    Calls Tryd.prog 72 #[.agg #[.slice A n c, .slice B m d], .int .i64 k] w fun e w' => RestRes w w' (tail_ s l k) e := by
  have hn : n ≤ 100000 := by omega
  have hm : m ≤ 100000 := by omega
  have e1 := ha.1
  have e2 := hb.1
  have HA2 := Lib.hid (show at_ (s.drop k) l = tail_ s l k from tail_near (by omega))
  have HCUT := Lib.hid (fun W (hW : Ints W A n s) => hW.cut (k := k) (cap := c) hk hnc)
  obtain ⟨A3, hA3⟩ : ∃ A3, (if c = k then A else A.map (·.add k)) = A3 := ⟨_, rfl⟩
  rw [hA3] at HCUT
  have HA3 := Lib.hid hA3
  clear hA3
  have b1 : (k : Int) ≤ (n : Int) := by omega
  have b2 : (k : Int) ≤ (c : Int) := by omega
  have b3 : (n : Int) ≤ (c : Int) := by omega
  have b4 : (0 : Int) ≤ (k : Int) := by omega
  clear h1 e1 e2
  have hd : decide ((k : Int) ≤ (n : Int)) = true := by simp; omega
  go_enter Tryd.func72, Tryd.ntmps72
  go_upto_region 1 with fail
  generalize hX : (w.alloc (.cells #[.slice A n c, .slice B m d] 24)).alloc (.cells #[.slice none 0 0, .slice none 0 0] 24) = X
  have ha1 := Lib.hid ((ha.alloc (.cells #[.slice A n c, .slice B m d] 24)).alloc (.cells #[.slice none 0 0, .slice none 0 0] 24))
  have hb1 := Lib.hid ((hb.alloc (.cells #[.slice A n c, .slice B m d] 24)).alloc (.cells #[.slice none 0 0, .slice none 0 0] 24))
  rw [hX] at ha1 hb1
  have hbw : Below w.heap.size w X := by rw [← hX]; exact ((Below.refl _ _).alloc (Nat.le_refl _) _).alloc (by simp) _
  have hz : w.heap.size + 1 < X.heap.size := by rw [← hX]; simp
  have hz0 : w.heap.size < X.heap.size := by omega
  have p0 : X.cell? ⟨w.heap.size, 0, none⟩ = some (.slice A n c) := by rw [← hX]; simp [go_sem]
  have p1 : X.cell? ⟨w.heap.size, 1, none⟩ = some (.slice B m d) := by rw [← hX]; simp [go_sem]
  have q0 : X.cell? ⟨w.heap.size + 1, 0, none⟩ = some (.slice none 0 0) := by rw [← hX]; simp [go_sem]
  have q1 : X.cell? ⟨w.heap.size + 1, 1, none⟩ = some (.slice none 0 0) := by rw [← hX]; simp [go_sem]
  have q2 : X.frozen? ⟨w.heap.size + 1, 0, none⟩ = false := by rw [← hX]; simp [go_sem]
  have q3 : X.frozen? ⟨w.heap.size + 1, 1, none⟩ = false := by rw [← hX]; simp [go_sem]
  clear hX ha hb
  go_wp2_with fail
  go_region_held3 (fun V => V.cell? ⟨w.heap.size, 0, none⟩ = some (.slice A n c) ∧ V.cell? ⟨w.heap.size, 1, none⟩ = some (.slice B m d))
    (first
      | go_keep
      | (refine ⟨?_, ?_⟩
         · rw [hb3.cell (by simpa using hz0)]; exact p0
         · rw [hb3.cell (by simpa using hz0)]; exact p1))
    (first
      | (go_at_call 70
         rw [HA3.out]
         refine (norm_parts A3 B (n - k) _ m d (s.drop k) l X.drew (by exact HCUT.out _ ha1.out.drew) hb1.out.drew (by omega) hm hm0 (by omega) hmd).mono ?_
         rintro e w3 ⟨A', n', c', B', m', d', s', l', rfl, ⟨ha', hb', hnc', hmd'⟩, HN, hb3⟩
         have hb13 : Below X.heap.size X w3 := ((Below.refl _ _).drew).trans hb3
         have r0 : w3.cell? ⟨w.heap.size + 1, 0, none⟩ = some (.slice none 0 0) := by rw [hb13.cell (by simpa using hz)]; exact q0
         have r1 : w3.cell? ⟨w.heap.size + 1, 1, none⟩ = some (.slice none 0 0) := by rw [hb13.cell (by simpa using hz)]; exact q1
         have k0 : w3.frozen? ⟨w.heap.size + 1, 0, none⟩ = false := by rw [hb13.frozen (by simpa using hz)]; exact q2
         have k1 : w3.frozen? ⟨w.heap.size + 1, 1, none⟩ = false := by rw [hb13.frozen (by simpa using hz)]; exact q3
         have hz2 : w.heap.size + 1 < w3.heap.size := by have := hb13.size; omega)
      | fail)
  go_wp2_with fail
  refine bodyPost_ret (v := .agg #[.slice A' n' c', .slice B' m' d']) (by simp [results, Tryd.results72, go_sem, r0, r1]) rfl ?_
  have r1' := (World.cell?_setCell_other w3 ⟨w.heap.size + 1, 0, none⟩ ⟨w.heap.size + 1, 1, none⟩ (.slice A' n' c') (by simp)).trans r1
  refine ⟨A', n', c', B', m', d', s', l', rfl, ⟨(ha'.set r0 (by simp) _).set r1' (by simp) _, (hb'.set r0 (by simp) _).set r1' (by simp) _, hnc', hmd'⟩, ⟨?_, ?_, ?_⟩, ?_⟩
  · have := HN.out.1
    rw [HA2.out] at this
    exact this
  · have := HN.out; omega
  · have := HN.out; omega
  · exact ((hbw.trans (hb13.mono hbw.size)).setCell (by simp) _).setCell (by simp) _

set_option maxRecDepth 100000 in
set_option maxHeartbeats 1500000 in
theorem Rest_far (A B : Option Addr) (n c m d : Nat) (s l : List Int) (k : Nat) (w : World) (ha : Ints w A n s) (hb : Ints w B m l) (h1 : n + m ≤ 100000) (hmd : m ≤ d) (hm0 : 0 < m) (hk : n < k) (hk2 : k ≤ 9223372036854775807) :
    Calls Tryd.prog 72 #[.agg #[.slice A n c, .slice B m d], .int .i64 k] w fun e w' => RestRes w w' (tail_ s l k) e := by
  obtain ⟨i0, hi, hi0, hi1, hi2⟩ := info_parts int_info
  have hn : n ≤ 100000 := by omega
  have hm : m ≤ 100000 := by omega
  have e1 := ha.1
  have e2 := hb.1
  obtain ⟨b, off, rfl, hbB, hcb⟩ := hb.at_ hm0
  have hlt : (k - n) % m < m := Nat.mod_lt _ hm0
  have HA := Lib.hid (show at_ [] (rot l ((k - n) % m)) = tail_ s l k by have := tail_far (s := s) (l := l) (k := k) (by omega) (by omega); rw [e1, e2] at this; exact this)
  obtain ⟨st, hst⟩ : ∃ st, (k - n) % m = st := ⟨_, rfl⟩
  rw [hst] at hlt
  have HA2 := Lib.hid (show at_ [] (rot l st) = tail_ s l k by rw [← hst]; exact HA.out)
  have HST := Lib.hid hst
  clear hst HA hcb h1 e1 e2
  have b1 : (0 : Int) ≤ (k : Int) - n := by omega
  have b2 : (st : Int) ≤ (m : Int) := by omega
  have b3 : (st : Int) ≤ (d : Int) := by omega
  have b4 : (m : Int) ≤ (d : Int) := by omega
  have b5 : ¬ d = st := by omega
  have b6 : st ≤ m := by omega
  have b7 : st ≤ d := by omega
  have hd : decide ((k : Int) ≤ (n : Int)) = false := by simp; omega
  go_enter Tryd.func72, Tryd.ntmps72
  go_upto_region 1 with fail
  generalize hX : (w.alloc (.cells #[.slice A n c, .slice (some ⟨b, off, none⟩) m d] 24)).alloc (.cells #[.slice none 0 0, .slice none 0 0] 24) = X
  have HB0 := Lib.hid ((hb.alloc (.cells #[.slice A n c, .slice (some ⟨b, off, none⟩) m d] 24)).alloc (.cells #[.slice none 0 0, .slice none 0 0] 24))
  rw [hX] at HB0
  have HD := Lib.hid (show Ints X (some ⟨b, off + st, none⟩) (m - st) (l.drop st) from by have := HB0.out.cut (k := st) (cap := d) (by omega) hmd; rw [if_neg (by omega)] at this; simpa [Addr.add_lit] using this)
  have HT := Lib.hid (HB0.out.take (k := st) (by omega))
  have hbw : Below w.heap.size w X := by rw [← hX]; exact ((Below.refl _ _).alloc (Nat.le_refl _) _).alloc (by simp) _
  have hz : w.heap.size + 1 < X.heap.size := by rw [← hX]; simp
  have hz0 : w.heap.size < X.heap.size := by omega
  have p0 : X.cell? ⟨w.heap.size, 0, none⟩ = some (.slice A n c) := by rw [← hX]; simp [go_sem]
  have p1 : X.cell? ⟨w.heap.size, 1, none⟩ = some (.slice (some ⟨b, off, none⟩) m d) := by rw [← hX]; simp [go_sem]
  have q0 : X.cell? ⟨w.heap.size + 1, 0, none⟩ = some (.slice none 0 0) := by rw [← hX]; simp [go_sem]
  have q1 : X.cell? ⟨w.heap.size + 1, 1, none⟩ = some (.slice none 0 0) := by rw [← hX]; simp [go_sem]
  have q2 : X.frozen? ⟨w.heap.size + 1, 0, none⟩ = false := by rw [← hX]; simp [go_sem]
  have q3 : X.frozen? ⟨w.heap.size + 1, 1, none⟩ = false := by rw [← hX]; simp [go_sem]
  clear hX ha hb
  have hown0 : (X.alloc (.cells #[] 3)).drew.ownsRow X.heap.size 3 1 (.slice (some ⟨X.heap.size, 0, none⟩) 0 0) 0 [] := World.ownsRow_made X #[] 0 (Nat.le_refl _) (Nat.zero_le _) rfl
  have hbd : Below X.heap.size X (X.alloc (.cells #[] 3)).drew := ((Below.refl X.heap.size X).alloc (Nat.le_refl _) (.cells #[] 3)).drew
  have g1 : IntKind.i64.wrap ((k : Int) - (n : Int)) = (k : Int) - n := IntWalk.i64_in _ (by omega)
  have g2 : ((k : Int) - (n : Int)).tmod (m : Int) = (st : Int) := by
    rw [Int.tmod_eq_emod_of_nonneg b1, ← HST.out, show (k : Int) - n = ((k - n : Nat) : Int) by omega, Int.natCast_emod]
  go_wp2_with fail
  go_region_held3 (fun V => V.cell? ⟨w.heap.size, 0, none⟩ = some (.slice A n c) ∧ V.cell? ⟨w.heap.size, 1, none⟩ = some (.slice (some ⟨b, off, none⟩) m d))
    (first
      | go_keep
      | (refine ⟨?_, ?_⟩
         · rw [hba.cell (by simpa using hz0)]; exact p0
         · rw [hba.cell (by simpa using hz0)]; exact p1)
      | (refine ⟨?_, ?_⟩
         · rw [hbb.cell (by simpa using hz0)]; exact p0
         · rw [hbb.cell (by simpa using hz0)]; exact p1)
      | (refine ⟨?_, ?_⟩
         · rw [hb13.cell (by simpa using hz0)]; exact p0
         · rw [hb13.cell (by simpa using hz0)]; exact p1))
    (first
      | ((refine step_append_ints _ (by rfl) _ _ _ (by rfl) X.heap.size 3 i0 _ Tryd.underlying22 hi hi0 hi1 hi2 rfl (.slice (some ⟨X.heap.size, 0, none⟩) 0 0) 0 [] (by rfl) hown0 _ (m - st) _ (l.drop st) (by rfl) (by exact HD.out.below hbd) (by omega) hbd.size ?_; intro va wa howna hgrowa hata; have hba : Below X.heap.size X wa := hbd.trans (below_own (base := X.heap.size) hown0 hgrowa hbd.size)))
      | ((refine step_append_ints _ (by rfl) _ _ _ (by rfl) X.heap.size 3 i0 _ Tryd.underlying22 hi hi0 hi1 hi2 rfl va (0 + (m - st)) ([] ++ (l.drop st).map (Value.int .i64)) (by rfl) (by exact howna) _ st _ (l.take st) (by rfl) (by exact HT.out.below hba) (by omega) hba.size ?_; intro vb wb hownb hgrowb hatb; have hbb : Below X.heap.size X wb := hba.trans (below_own howna hgrowb hba.size); rw [show 0 + (m - st) + st = m by omega] at hownb; have hvb := own_slice hownb; obtain ⟨B3, d3, hvb, hk3⟩ := hvb; rw [hvb] at hownb; rw [hvb]; have HIb := Lib.hid (Ints.of_own (n := m) (xs := rot l st) (by simpa [rot] using hownb)); clear hownb))
      | (go_at_call 70
         refine (norm_parts none B3 0 0 m d3 [] (rot l st) _ Ints.none_ HIb.out (by omega) hm hm0 (Nat.le_refl _) hk3).mono ?_
         rintro e w3 ⟨A', n', c', B', m', d', s', l', rfl, ⟨ha', hb', hnc', hmd'⟩, HN, hb3⟩
         have hb13 : Below X.heap.size X w3 := hbb.trans (hb3.mono hbb.size)
         have r0 : w3.cell? ⟨w.heap.size + 1, 0, none⟩ = some (.slice none 0 0) := by rw [hb13.cell (by simpa using hz)]; exact q0
         have r1 : w3.cell? ⟨w.heap.size + 1, 1, none⟩ = some (.slice none 0 0) := by rw [hb13.cell (by simpa using hz)]; exact q1
         have k0 : w3.frozen? ⟨w.heap.size + 1, 0, none⟩ = false := by rw [hb13.frozen (by simpa using hz)]; exact q2
         have k1 : w3.frozen? ⟨w.heap.size + 1, 1, none⟩ = false := by rw [hb13.frozen (by simpa using hz)]; exact q3
         have hz2 : w.heap.size + 1 < w3.heap.size := by have := hb13.size; omega)
      | fail)
  go_wp2_with fail
  refine bodyPost_ret (v := .agg #[.slice A' n' c', .slice B' m' d']) (by simp [results, Tryd.results72, go_sem, r0, r1]) rfl ?_
  have r1' := (World.cell?_setCell_other w3 ⟨w.heap.size + 1, 0, none⟩ ⟨w.heap.size + 1, 1, none⟩ (.slice A' n' c') (by simp)).trans r1
  refine ⟨A', n', c', B', m', d', s', l', rfl, ⟨(ha'.set r0 (by simp) _).set r1' (by simp) _, (hb'.set r0 (by simp) _).set r1' (by simp) _, hnc', hmd'⟩, ⟨?_, ?_, ?_⟩, ?_⟩
  · have := HN.out.1
    rw [HA2.out] at this
    exact this
  · have := HN.out; omega
  · have := HN.out; omega
  · exact ((hbw.trans (hb13.mono hbw.size)).setCell (by simp) _).setCell (by simp) _

theorem Rest_any (A B : Option Addr) (n c m d : Nat) (s l : List Int) (k : Nat) (w : World) (ha : Ints w A n s) (hb : Ints w B m l) (h1 : n + m ≤ 100000) (hnc : n ≤ c) (hmd : m ≤ d) (hm0 : 0 < m) (hk2 : k ≤ 9223372036854775807) :
    Calls Tryd.prog 72 #[.agg #[.slice A n c, .slice B m d], .int .i64 k] w fun e w' => RestRes w w' (tail_ s l k) e := by
  by_cases hj : k ≤ n
  · exact Rest_near A B n c m d s l k w ha hb h1 hnc hmd hm0 hj
  · exact Rest_far A B n c m d s l k w ha hb h1 hmd hm0 (by omega) hk2

set_option maxRecDepth 100000 in
set_option maxHeartbeats 1000000 in
theorem refFrom_any (A B : Option Addr) (n c m d : Nat) (s l : List Int) (k : Int) (w : World) (ha : Ints w A n s) (hb : Ints w B m l) (h1 : n + m ≤ 100000) (hnc : n ≤ c) (hmd : m ≤ d) (hk : k ≤ 9223372036854775807) :
    Calls Tryd.prog 20 #[.agg #[.slice A n c, .slice B m d], .int .i64 k] w fun e w' => Res w w' (Out (okF (validB 6 s l) k) (tail_ s l k)) (codeF (validB 6 s l) k) e := by
  have hn : n ≤ 100000 := by omega
  have hm : m ≤ 100000 := by omega
  have HC := Lib.hid (fun W hW hW' => is_any A B n c m d s l W hW hW' hn hm)
  cases hv : validB 6 s l
  · have HV := Lib.hid hv
    clear hv h1
    go_enter Tryd.func20, Tryd.ntmps20
    go_wp2_with fail
    refine (HC.out _ ((ha.alloc _).alloc _) ((hb.alloc _).alloc _)).mono ?_
    rintro e w1 ⟨rfl, hb1⟩
    rw [HV.out]
    obtain ⟨hc, hf⟩ := bcell hb1
    have hz : w.heap.size + 1 < w1.heap.size := by have := hb1.size; simp at this; omega
    go_wp2_with fail
    refine bodyPost_ret (v := .tuple #[.agg #[.slice none 0 0, .slice none 0 0], .int .i64 1]) (by simp [results, Tryd.results20, go_sem, hc]) rfl ?_
    exact res_bad ((((((Below.refl _ _).alloc (Nat.le_refl _) _).alloc (by simp) _).trans (hb1.mono (by simp; omega))).setCell (by simp) _).setCell (by simp) _) rfl rfl
  · have hm0 : 0 < m := by have := valid6 hv; have := hb.1; omega
    have HV := Lib.hid hv
    clear hv
    by_cases h0 : k < 0
    · clear h1
      go_enter Tryd.func20, Tryd.ntmps20
      go_wp2_with fail
      refine (HC.out _ ((ha.alloc _).alloc _) ((hb.alloc _).alloc _)).mono ?_
      rintro e w1 ⟨rfl, hb1⟩
      rw [HV.out]
      obtain ⟨hc, hf⟩ := bcell hb1
      have hz : w.heap.size + 1 < w1.heap.size := by have := hb1.size; simp at this; omega
      go_wp2_with fail
      refine bodyPost_ret (v := .tuple #[.agg #[.slice none 0 0, .slice none 0 0], .int .i64 6]) (by simp [results, Tryd.results20, go_sem, hc]) rfl ?_
      exact res_bad ((((((Below.refl _ _).alloc (Nat.le_refl _) _).alloc (by simp) _).trans (hb1.mono (by simp; omega))).setCell (by simp) _).setCell (by simp) _) (by simp [okF]; omega) (by simp [codeF, h0])
    · obtain ⟨j, rfl⟩ := Int.eq_ofNat_of_zero_le (show 0 ≤ k by omega)
      have hd0 : decide ((j : Int) < 0) = false := by simp
      have HR := Lib.hid (fun W hW hW' => Rest_any A B n c m d s l j W hW hW' h1 hnc hmd hm0 (by omega))
      clear h1 h0
      go_enter Tryd.func20, Tryd.ntmps20
      go_wp2_with fail
      refine (HC.out _ ((ha.alloc _).alloc _) ((hb.alloc _).alloc _)).mono ?_
      rintro e w1 ⟨rfl, hb1⟩
      rw [HV.out]
      obtain ⟨hc, hf⟩ := bcell hb1
      have hz : w.heap.size + 1 < w1.heap.size := by have := hb1.size; simp at this; omega
      go_wp2_with fail
      refine (HR.out _ (((ha.alloc _).alloc _).below hb1) (((hb.alloc _).alloc _).below hb1)).mono ?_
      rintro e w3 ⟨A', n', c', B', m', d', s', l', rfl, ⟨ha', hb', hnc', hmd'⟩, HN, hb3⟩
      have r0 : w3.cell? ⟨w.heap.size + 1, 0, none⟩ = some (.slice none 0 0) := by rw [hb3.cell (by simpa using hz), hc _ _ (by simp)]; simp [go_sem]
      have r1 : w3.cell? ⟨w.heap.size + 1, 1, none⟩ = some (.slice none 0 0) := by rw [hb3.cell (by simpa using hz), hc _ _ (by simp)]; simp [go_sem]
      have k0 : w3.frozen? ⟨w.heap.size + 1, 0, none⟩ = false := by rw [hb3.frozen (by simpa using hz), hf _ _ (by simp)]; simp [go_sem]
      have k1 : w3.frozen? ⟨w.heap.size + 1, 1, none⟩ = false := by rw [hb3.frozen (by simpa using hz), hf _ _ (by simp)]; simp [go_sem]
      have hz2 : w.heap.size + 1 < w3.heap.size := by have := hb3.size; omega
      clear hc hf
      go_wp2_with fail
      refine bodyPost_ret (v := .tuple #[.agg #[.slice A' n' c', .slice B' m' d'], .int .i64 0]) (by simp [results, Tryd.results20, go_sem, r0, r1]) rfl ?_
      have r1' := (World.cell?_setCell_other w3 ⟨w.heap.size + 1, 0, none⟩ ⟨w.heap.size + 1, 1, none⟩ (.slice A' n' c') (by simp)).trans r1
      refine ⟨A', n', c', B', m', d', s', l', rfl, ⟨(ha'.set r0 (by simp) _).set r1' (by simp) _, (hb'.set r0 (by simp) _).set r1' (by simp) _, hnc', hmd'⟩, ⟨out_good HN.out.1, HN.out.2⟩, ?_⟩
      exact (((((Below.refl _ _).alloc (Nat.le_refl _) _).alloc (by simp) _).trans ((hb1.trans (hb3.mono hb1.size)).mono (by simp; omega))).setCell (by simp) _).setCell (by simp) _

end Go.Proofs.YtnkmmmagdmnngaaDoor.Wd
