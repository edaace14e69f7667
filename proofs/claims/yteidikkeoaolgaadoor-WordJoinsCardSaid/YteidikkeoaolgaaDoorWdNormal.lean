/-
  normal of package word: it returns the normal form.
-/
import Derived.Test.YteidikkeoaolgaaDoorWdRotated
import Derived.Test.YteidikkeoaolgaaDoorWdPeriod
import Derived.Test.YteidikkeoaolgaaDoorWdMath2
namespace Go.Proofs.YteidikkeoaolgaaDoor.Wd
open Go.RowKit
set_option linter.unusedVariables false

/-- The value v is a word of the stem s and the loop l, which lie in the world w. -/
def IsWord (w : World) (v : Value) (s l : List Int) : Prop :=
  ∃ (A : Option Addr) (n c : Nat) (B : Option Addr) (m d : Nat), v = .agg #[.slice A n c, .slice B m d] ∧ Ints w A n s ∧ Ints w B m l ∧ n ≤ c ∧ m ≤ d

theorem IsWord.below {w w' : World} {v : Value} {s l : List Int} (h : IsWord w v s l) (hb : Below w.heap.size w w') : IsWord w' v s l := by
  obtain ⟨A, n, c, B, m, d, rfl, h1, h2, h3, h4⟩ := h
  exact ⟨A, n, c, B, m, d, rfl, h1.below hb, h2.below hb, h3, h4⟩

theorem back_more {xs ys : List Int} {n p j : Nat} (h : ∀ i, i < j → xs.getD (n - 1 - i) 0 = ys.getD (p - 1 - i % p) 0) (he : xs.getD (n - 1 - j) 0 = ys.getD (p - 1 - j % p) 0) :
    ∀ i, i < j + 1 → xs.getD (n - 1 - i) 0 = ys.getD (p - 1 - i % p) 0 := by
  intro i hi
  rcases Nat.lt_or_ge i j with hl | hg
  · exact h i hl
  · obtain rfl : i = j := by omega
    exact he

theorem start_turn (j p : Nat) (hp : 0 < p) : ∃ s : Nat, -((j : Int) % (p : Int)) % (p : Int) = (s : Int) ∧ (p - j % p) % p = s := ⟨_, by
  have := Nat.mod_lt j hp
  have e : -((j : Int) % (p : Int)) % (p : Int) = ((p : Int) - (j : Int) % (p : Int)) % (p : Int) := by simp
  rw [e, Int.natCast_emod, Int.ofNat_sub (by omega), Int.natCast_emod], rfl⟩

set_option maxRecDepth 100000 in
set_option maxHeartbeats 2000000 in
theorem normal_any (A B : Option Addr) (n c m d : Nat) (xs ys : List Int) (w : World) (h : Ints w A n xs) (h' : Ints w B m ys) (hn : n ≤ 100000) (hm : m ≤ 100000) (hm0 : 0 < m) (hnc : n ≤ c) (hmd : m ≤ d) :
    Calls Tryd.prog 51 #[.slice A n c, .slice B m d] w fun e w' => ∃ v s l, e = .returned v ∧ IsWord w' v s l ∧ NF (at_ xs ys) s l ∧ s.length ≤ n ∧ l.length ≤ m ∧ Below w.heap.size w w' := by
  have HX := Lib.hid h.1
  have HY := Lib.hid h'.1
  obtain ⟨b, off, rfl, hb, hcb⟩ := h'.at_ hm0
  have HCB := Lib.hid hcb
  clear hcb
  go_enter Tryd.func51, Tryd.ntmps51
  go_wp2_with fail
  refine (period_any _ m d ys _ (h'.alloc _) hm hm0).mono ?_
  rintro e w1 ⟨p, d1, rfl, hP, rfl⟩
  have HP := Lib.hid hP
  have hp1 : 1 ≤ p := hP.1
  have hp2 : p ≤ m := by have := hP.2.1; rw [HY.out] at this; exact this
  clear hP
  go_wp2_with fail
  go_loopg [5] n (fun g i wx => ∃ j d : Nat, j + g = n ∧ j ≤ n ∧ i = .int .i64 j ∧ wx = (w.alloc (.cells #[.slice none 0 0, .slice none 0 0] 24)).drewN d ∧ Hid (∀ i, i < j → xs.getD (n - 1 - i) 0 = ys.getD (p - 1 - i % p) 0))
  case atStart => exact ⟨0, d1, by omega, by omega, rfl, rfl, fun i hi => by omega⟩
  case round =>
    obtain ⟨j, d2, hjg, hjn, rfl, rfl, HI⟩ := hrel
    have hmod1 : (0 : Int) ≤ (j : Int) % (p : Int) := Int.emod_nonneg _ (by omega)
    have hmod2 : (j : Int) % (p : Int) < (p : Int) := Int.emod_lt_of_pos _ (by omega)
    by_cases hjl : j < n
    · obtain ⟨bA, oA, rfl, hbA, hca⟩ := h.at_ hjl
      have c1 := hca (n - 1 - j) (by omega)
      have c2 := HCB.out (p - 1 - j % p) (by omega)
      clear hca
      generalize hva : xs.getD (n - 1 - j) 0 = va at c1
      generalize hvb : ys.getD (p - 1 - j % p) 0 = vb at c2
      have HA := Lib.hid hva
      have HB := Lib.hid hvb
      clear hva hvb
      have e1 : IntKind.i64.wrap ((n : Int) - 1) = (n : Int) - 1 := IntWalk.i64_in _ (by omega)
      have e2 : IntKind.i64.wrap ((n : Int) - 1 - j) = (n : Int) - 1 - j := IntWalk.i64_in _ (by omega)
      have e3 : IntKind.i64.wrap ((p : Int) - 1) = (p : Int) - 1 := IntWalk.i64_in _ (by omega)
      have e4 : IntKind.i64.wrap ((p : Int) - 1 - (j : Int) % (p : Int)) = (p : Int) - 1 - (j : Int) % (p : Int) := IntWalk.i64_in _ (by omega)
      have e5 : ((n : Int) - 1 - j).toNat = n - 1 - j := by omega
      have e6 : ((p : Int) - 1 - (j : Int) % (p : Int)).toNat = p - 1 - j % p := by omega
      have e7 : (j : Int).tmod (p : Int) = (j : Int) % (p : Int) := Int.tmod_eq_emod_of_nonneg (by omega)
      have f1 : (0 : Int) ≤ (n : Int) - 1 - j := by omega
      have f2 : (n : Int) - 1 - j < n := by omega
      have f3 : (0 : Int) ≤ (p : Int) - 1 - (j : Int) % (p : Int) := by omega
      have f4 : (p : Int) - 1 - (j : Int) % (p : Int) < p := by omega
      have hd : decide ((j : Int) < (n : Int)) = true := by simp; omega
      cases he : (va == vb)
      · have HE := Lib.hid (show j = n ∨ xs.getD (n - 1 - j) 0 ≠ ys.getD (p - 1 - j % p) 0 from .inr (by rw [HA.out, HB.out]; simpa using he))
        go_wp2_with fail
        go_quiet (fail)
        clear e1 e2 e3 e4 e5 e6 e7
        have hs0 : (p - j % p) % p < p := Nat.mod_lt _ (by omega)
        obtain ⟨s, hs, hss⟩ := start_turn j p (by omega)
        have HS := Lib.hid hss
        have hsp : s < p := by omega
        clear hss hs0
        have HSI := Lib.hid hs
        clear hs
        go_wp2_with fail
        refine (clone_slice _ (n - j) c (xs.take (n - j)) _ (((h.alloc _).drewN _).take (by omega)) (by omega)).mono ?_
        rintro e w1 ⟨A1, k1, rfl, hown1, hk1, hb1⟩
        have hi1 := Ints.of_own hown1
        go_wp2_with fail
        rw [HSI.out]
        refine (rotated_slice b off p d s (ys.take p) _ ((((h'.alloc _).drewN _).take hp2).below hb1) (by omega) (by omega) hsp).mono ?_
        rintro e w2 ⟨A2, k2, rfl, hi2, hk2, hb2⟩
        have hi1' := hi1.below hb2
        have hbb : Below (w.alloc (.cells #[.slice none 0 0, .slice none 0 0] 24)).heap.size (w.alloc (.cells #[.slice none 0 0, .slice none 0 0] 24)) w2 :=
          (below_drewN (Below.refl _ _) _).trans (hb1.trans (hb2.mono hb1.size))
        obtain ⟨hc0, hf0⟩ := bcell hbb
        have hz : w.heap.size < w2.heap.size := by have := hbb.size; simp at this; omega
        clear hown1 hi1 hb1 hb2
        go_wp2_with fail
        refine bodyPost_ret (v := .agg #[.slice A1 (n - j) k1, .slice A2 p k2]) (by simp [results, Tryd.results51, go_sem, hc0]) rfl ?_
        have g0 : w2.cell? ⟨w.heap.size, 0, none⟩ = some (.slice none 0 0) := (hc0 _ _ (by simp)).trans (by simp [go_sem])
        have g1 : w2.cell? ⟨w.heap.size, 1, none⟩ = some (.slice none 0 0) := (hc0 _ _ (by simp)).trans (by simp [go_sem])
        have g1' := (World.cell?_setCell_other w2 ⟨w.heap.size, 0, none⟩ ⟨w.heap.size, 1, none⟩ (.slice A1 (n - j) k1) (by simp)).trans g1
        have hNF := nf_normal (xs := xs) (ys := ys) (p := p) (j := j) HP.out (by rw [HX.out]; exact hjn) (by rw [HX.out]; exact HI.out) (by rw [HX.out]; exact HE.out)
        rw [HX.out, HS.out] at hNF
        refine ⟨_, _, _, rfl, ⟨A1, n - j, k1, A2, p, k2, rfl, (hi1'.set g0 (by simp) _).set g1' (by simp) _, (hi2.set g0 (by simp) _).set g1' (by simp) _, hk1, hk2⟩, hNF, ?_, ?_, ?_⟩
        · rw [List.length_take, HX.out]; omega
        · simp only [List.length_append, List.length_drop, List.length_take, HY.out]; omega
        · exact ((((Below.refl _ _).alloc (Nat.le_refl _) _).trans (hbb.mono (by simp))).setCell (Nat.le_refl _) _).setCell (Nat.le_refl _) _
      · have HE := Lib.hid (show va = vb by simpa using he)
        cases gk with
        | zero => exfalso; omega
        | succ g =>
        go_wp2_with fail
        go_quiet (fail)
        clear e1 e2 e3 e4 e5 e6 e7
        go_wp2_with fail
        go_roundg g
        case measure => omega
        case rel => exact ⟨j + 1, _, by omega, by omega, by go_num, rfl, back_more HI.out (by rw [HA.out, HB.out, HE.out])⟩
    · have hd : decide ((j : Int) < (n : Int)) = false := by simp; omega
      have HE := Lib.hid (show j = n ∨ xs.getD (n - 1 - j) 0 ≠ ys.getD (p - 1 - j % p) 0 from .inl (by omega))
      go_wp2_with fail
      go_quiet (fail)
      have hs0 : (p - j % p) % p < p := Nat.mod_lt _ (by omega)
      obtain ⟨s, hs, hss⟩ := start_turn j p (by omega)
      have HS := Lib.hid hss
      have hsp : s < p := by omega
      clear hss hs0
      have HSI := Lib.hid hs
      clear hs
      go_wp2_with fail
      refine (clone_slice _ (n - j) c (xs.take (n - j)) _ (((h.alloc _).drewN _).take (by omega)) (by omega)).mono ?_
      rintro e w1 ⟨A1, k1, rfl, hown1, hk1, hb1⟩
      have hi1 := Ints.of_own hown1
      go_wp2_with fail
      rw [HSI.out]
      refine (rotated_slice b off p d s (ys.take p) _ ((((h'.alloc _).drewN _).take hp2).below hb1) (by omega) (by omega) hsp).mono ?_
      rintro e w2 ⟨A2, k2, rfl, hi2, hk2, hb2⟩
      have hi1' := hi1.below hb2
      have hbb : Below (w.alloc (.cells #[.slice none 0 0, .slice none 0 0] 24)).heap.size (w.alloc (.cells #[.slice none 0 0, .slice none 0 0] 24)) w2 :=
        (below_drewN (Below.refl _ _) _).trans (hb1.trans (hb2.mono hb1.size))
      obtain ⟨hc0, hf0⟩ := bcell hbb
      have hz : w.heap.size < w2.heap.size := by have := hbb.size; simp at this; omega
      clear hown1 hi1 hb1 hb2
      go_wp2_with fail
      refine bodyPost_ret (v := .agg #[.slice A1 (n - j) k1, .slice A2 p k2]) (by simp [results, Tryd.results51, go_sem, hc0]) rfl ?_
      have g0 : w2.cell? ⟨w.heap.size, 0, none⟩ = some (.slice none 0 0) := (hc0 _ _ (by simp)).trans (by simp [go_sem])
      have g1 : w2.cell? ⟨w.heap.size, 1, none⟩ = some (.slice none 0 0) := (hc0 _ _ (by simp)).trans (by simp [go_sem])
      have g1' := (World.cell?_setCell_other w2 ⟨w.heap.size, 0, none⟩ ⟨w.heap.size, 1, none⟩ (.slice A1 (n - j) k1) (by simp)).trans g1
      have hNF := nf_normal (xs := xs) (ys := ys) (p := p) (j := j) HP.out (by rw [HX.out]; exact hjn) (by rw [HX.out]; exact HI.out) (by rw [HX.out]; exact HE.out)
      rw [HX.out, HS.out] at hNF
      refine ⟨_, _, _, rfl, ⟨A1, n - j, k1, A2, p, k2, rfl, (hi1'.set g0 (by simp) _).set g1' (by simp) _, (hi2.set g0 (by simp) _).set g1' (by simp) _, hk1, hk2⟩, hNF, ?_, ?_, ?_⟩
      · rw [List.length_take, HX.out]; omega
      · simp only [List.length_append, List.length_drop, List.length_take, HY.out]; omega
      · exact ((((Below.refl _ _).alloc (Nat.le_refl _) _).trans (hbb.mono (by simp))).setCell (Nat.le_refl _) _).setCell (Nat.le_refl _) _

/-- The same, the result written out. -/
theorem normal_parts (A B : Option Addr) (n c m d : Nat) (xs ys : List Int) (w : World) (h : Ints w A n xs) (h' : Ints w B m ys) (hn : n ≤ 100000) (hm : m ≤ 100000) (hm0 : 0 < m) (hnc : n ≤ c) (hmd : m ≤ d) :
    Calls Tryd.prog 51 #[.slice A n c, .slice B m d] w fun e w' => ∃ A' n' c' B' m' d' s l, e = .returned (.agg #[.slice A' n' c', .slice B' m' d']) ∧
      (Ints w' A' n' s ∧ Ints w' B' m' l ∧ n' ≤ c' ∧ m' ≤ d') ∧ Hid (NF (at_ xs ys) s l ∧ s.length ≤ n ∧ l.length ≤ m) ∧ Below w.heap.size w w' :=
  (normal_any A B n c m d xs ys w h h' hn hm hm0 hnc hmd).mono fun _ _ ⟨v, s, l, he, ⟨A', n', c', B', m', d', hv, h1, h2, h3, h4⟩, hnf, hs, hl, hb⟩ => by
    subst hv
    exact ⟨A', n', c', B', m', d', s, l, he, ⟨h1, h2, h3, h4⟩, ⟨hnf, hs, hl⟩, hb⟩

end Go.Proofs.YteidikkeoaolgaaDoor.Wd
