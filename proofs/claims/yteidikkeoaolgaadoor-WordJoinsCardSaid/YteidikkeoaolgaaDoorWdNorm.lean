/-
  Norm of the reference: it returns the normal form.
-/
import Derived.Test.YteidikkeoaolgaaDoorWdRefValid
import Derived.Deep.DeepCutAuto
namespace Go.Proofs.YteidikkeoaolgaaDoor.Wd
open Go.RowKit
set_option linter.unusedVariables false

/-- What is known behind the first loop: the loop is cut to its least period. -/
def Cutted (b off m d : Nat) (l : List Int) (W : World) (v : Value) (wx : World) : Prop := ∃ p k : Nat, v = .slice (some ⟨b, off, none⟩) p d ∧ Hid (Least l p) ∧ p ≤ m ∧ wx = W.drewN k

theorem own_one (w : World) (k : Nat) (x : Int) : ((w.drewN k).alloc (.cells #[.int .i64 x] 3)).ownsRow w.heap.size 3 1 (.slice (some ⟨w.heap.size, 0, none⟩) 1 1) 1 [.int .i64 x] :=
  World.ownsRow_lit (w.drewN k) #[.int .i64 x] 1 (Nat.le_refl _) (by decide) rfl

theorem norm_fin {s l s2 l2 L : List Int} {p : Nat} (hP : Least l p) (hL : l.take p = L) (hE : ∀ k, at_ s2 l2 k = at_ s L k) (h2 : l2.length = p) (hs : s2 = [] ∨ s2.getD (s2.length - 1) 0 ≠ l2.getD (l2.length - 1) 0) : NF (at_ s l) s2 l2 :=
  nf_of (fun k => by rw [hE, ← hL, at_take hP]) (by rw [h2]; exact hP.1) (fun m q h => by rw [h2]; exact least_ev hP m q h) hs

theorem snoc_take {xs : List Int} {n : Nat} {x : Int} (h : xs.length = n) (hn : 0 < n) (hx : xs.getD (n - 1) 0 = x) : xs.take (n - 1) ++ [x] = xs := by
  subst h
  rw [← hx]
  have hlt : xs.length - 1 < xs.length := by omega
  have := List.take_succ_eq_append_getElem hlt
  rw [show xs.length - 1 + 1 = xs.length by omega, List.take_of_length_le (Nat.le_refl _)] at this
  rw [List.getD_eq_getElem?_getD, List.getElem?_eq_getElem hlt]
  exact this.symm

theorem step_same {s2 l2 : List Int} {j p : Nat} {x : Int} (hs : s2.length = j) (hl : l2.length = p) (hj : 0 < j) (hp : 0 < p) (h1 : s2.getD (j - 1) 0 = x) (h2 : l2.getD (p - 1) 0 = x) (k : Nat) :
    at_ (s2.take (j - 1)) (x :: l2.take (p - 1)) k = at_ s2 l2 k := by
  rw [at_step, snoc_take hs hj h1, snoc_take hl hp h2]

theorem per_of_mod {l : List Int} {p : Nat} (hp : 0 < p) (h0 : l.length % p = 0) (h : ∀ t, t < l.length → l.getD t 0 = l.getD (t % p) 0) : Per l p := by
  refine ⟨h0, fun i hi hil => ?_⟩
  rw [h i hil, h (i - p) (by omega), ← Nat.mod_eq_sub_mod hi]

theorem same_more {l : List Int} {p j : Nat} {b b' : Bool} (h : b = true ↔ ∀ t, t < j → l.getD t 0 = l.getD (t % p) 0) (he : b' = true ↔ (b = true ∧ l.getD j 0 = l.getD (j % p) 0)) :
    b' = true ↔ ∀ t, t < j + 1 → l.getD t 0 = l.getD (t % p) 0 := by
  rw [he, h]
  constructor
  · rintro ⟨h1, h2⟩ t ht
    rcases Nat.lt_or_ge t j with hl | hg
    · exact h1 t hl
    · obtain rfl : t = j := by omega
      exact h2
  · exact fun h1 => ⟨fun t ht => h1 t (by omega), h1 j (by omega)⟩

set_option maxRecDepth 100000 in
set_option maxHeartbeats 2000000 in
theorem norm_any (A B : Option Addr) (n c m d : Nat) (s l : List Int) (w : World) (ha : Ints w A n s) (hb : Ints w B m l) (hn : n ≤ 100000) (hm : m ≤ 100000) (hm0 : 0 < m) (hnc : n ≤ c) (hmd : m ≤ d) :
    Calls Tryd.prog 65 #[.agg #[.slice A n c, .slice B m d]] w fun e w' => ∃ v s' l', e = .returned v ∧ IsWord w' v s' l' ∧ NF (at_ s l) s' l' ∧ s'.length ≤ n ∧ l'.length ≤ m ∧ Below w.heap.size w w' := by
  obtain ⟨i0, hi, hz0, hz1, hz2⟩ := info_parts int_info
  have HX := Lib.hid ha.1
  have HY := Lib.hid hb.1
  obtain ⟨b, off, rfl, hbB, hcb⟩ := hb.at_ hm0
  have HC := Lib.hid hcb
  clear hcb
  go_enter Tryd.func65, Tryd.ntmps65
  go_upto_region 2 with fail
  iterate 7 go_step
  generalize hW : (w.alloc (.cells #[.slice A n c, .slice (some ⟨b, off, none⟩) m d] 24)).alloc (.cells #[.slice none 0 0, .slice none 0 0] 24) = W
  have HW := Lib.hid hW
  have HC' := Lib.hid (fun j (hj : j < m) => (show W.cell? ⟨b, off + j, none⟩ = some (.int .i64 (l.getD j 0)) by
    rw [← hW, (((Below.refl w.heap.size w).alloc (Nat.le_refl _) _).alloc (by simp) _).cell hbB]; exact HC.out j hj))
  clear hW
  go_cut [3] (fun v wx => Cutted b off m d l W v wx)
  case first =>
    go_wp2_with fail
    go_loopg [3, 4] m (fun g v i wx => ∃ p k : Nat, p + g = m + 1 ∧ 1 ≤ p ∧ p ≤ m ∧ v = .slice (some ⟨b, off, none⟩) m d ∧ i = .int .i64 p ∧ wx = W.drewN k ∧ Hid (∀ q, 1 ≤ q → q < p → ¬ Per l q))
    case atStart => exact ⟨1, 0, by omega, by omega, by omega, rfl, rfl, rfl, fun q h1 h2 => by omega⟩
    case round =>
      obtain ⟨p, k, hpg, hp1, hpm, rfl, rfl, rfl, HL⟩ := hrel
      cases gk with
      | zero => exfalso; omega
      | succ g =>
      by_cases hlt : p < m
      · cases hd : ((m : Int) % (p : Int) != 0)
        · have HD := Lib.hid (show l.length % p = 0 from per_test (by rw [HY.out]; exact hd))
          go_wp2_with fail
          clear hd
          go_loopg [5, 24] m (fun g2 sv iv wy => ∃ (j k : Nat) (same : Bool), j + g2 = m ∧ j ≤ m ∧ sv = .bool same ∧ iv = .int .i64 j ∧ wy = W.drewN k ∧ Hid (same = true ↔ ∀ t, t < j → l.getD t 0 = l.getD (t % p) 0))
          case atStart => exact ⟨0, _, true, by omega, by omega, rfl, rfl, rfl, ⟨fun _ t h2 => by omega, fun _ => rfl⟩⟩
          case round =>
            obtain ⟨j, k2, same, hjg, hjm, rfl, rfl, rfl, HI⟩ := hrel
            by_cases hjl : j < m
            · have c1 := HC'.out j hjl
              have c2 := HC'.out (j % p) (by have := Nat.mod_lt j hp1; omega)
              cases gk with
              | zero => exfalso; omega
              | succ g2 =>
              generalize hva : l.getD j 0 = va at c1
              generalize hvb : l.getD (j % p) 0 = vb at c2
              have HA := Lib.hid hva
              have HB := Lib.hid hvb
              clear hva hvb
              have f1 : (0 : Int) ≤ (j : Int) % (p : Int) := Int.emod_nonneg _ (by omega)
              have f2 : (j : Int) % (p : Int) < (p : Int) := Int.emod_lt_of_pos _ (by omega)
              have f3 : (j : Int) % (p : Int) < (m : Int) := by omega
              have e6 : ((j : Int) % (p : Int)).toNat = j % p := by omega
              have e7 : (j : Int).tmod (p : Int) = (j : Int) % (p : Int) := Int.tmod_eq_emod_of_nonneg (by omega)
              cases same
              · go_wp2_with fail
                try (go_quiet (fail); go_wp2_with fail)
                go_roundg g2
                case measure => omega
                case rel => exact ⟨j + 1, _, false, by omega, by omega, rfl, by go_num, rfl, same_more HI.out (by simp)⟩
              · cases he : (va == vb)
                · have HE := Lib.hid (show ¬ va = vb by simpa using he)
                  go_wp2_with fail
                  go_quiet (fail)
                  go_wp2_with fail
                  go_roundg g2
                  case measure => omega
                  case rel => exact ⟨j + 1, _, false, by omega, by omega, rfl, by go_num, rfl, same_more (b := true) ⟨fun _ => HI.out.1 trivial, fun _ => rfl⟩ (by rw [HA.out, HB.out]; simp [HE.out])⟩
                · have HE := Lib.hid (show va = vb by simpa using he)
                  go_wp2_with fail
                  go_quiet (fail)
                  go_wp2_with fail
                  go_roundg g2
                  case measure => omega
                  case rel => exact ⟨j + 1, _, true, by omega, by omega, rfl, by go_num, rfl, same_more (b := true) ⟨fun _ => HI.out.1 trivial, fun _ => rfl⟩ (by rw [HA.out, HB.out]; simp [HE.out])⟩
            · obtain rfl : j = m := by omega
              cases same
              · go_wp2_with fail
                go_roundg g
                case measure => omega
                case rel => exact ⟨p + 1, _, by omega, by omega, by omega, rfl, by go_num, rfl, per_next HL.out (fun hq => by
                  have := HI.out.2 (fun t ht => mod_step l p hp1 hq t (by rw [HY.out]; exact ht))
                  cases this)⟩
              · go_wp2_with fail
                go_meet
                case rel => exact ⟨p, _, rfl, ⟨hp1, by rw [HY.out]; omega, per_of_mod hp1 HD.out (fun t ht => HI.out.1 trivial t (by rw [← HY.out]; exact ht)), HL.out⟩, by omega, rfl⟩
        · have HD := Lib.hid (per_test' hd)
          go_wp2_with fail
          go_roundg g
          case measure => omega
          case rel => exact ⟨p + 1, _, by omega, by omega, by omega, rfl, by go_num, rfl, per_next HL.out (fun hq => HD.out (by rw [← HY.out]; exact hq.1))⟩
      · go_wp2_with fail
        go_meet
        case rel =>
          obtain rfl : p = m := by omega
          exact ⟨p, _, rfl, ⟨hp1, by rw [HY.out]; omega, ⟨by rw [HY.out]; exact Nat.mod_self p, fun i h1 h2 => by rw [HY.out] at h2; omega⟩, HL.out⟩, by omega, rfl⟩
  case rest =>
    obtain ⟨p, k, rfl, HP, hpm, rfl⟩ := hcut
    have hp1 : 1 ≤ p := HP.out.1
    obtain ⟨L, hL⟩ : ∃ L, l.take p = L := ⟨_, rfl⟩
    have HL : Hid (l.take p = L) := hL
    clear hL
    have HAs : Hid (Ints (W.drewN k) A n s) := by
      have := (ha.alloc (.cells #[.slice A n c, .slice (some ⟨b, off, none⟩) m d] 24)).alloc (.cells #[.slice none 0 0, .slice none 0 0] 24)
      rw [HW.out] at this
      exact this
    have HBs : Hid (Ints (W.drewN k) (some ⟨b, off, none⟩) p L) := by
      have := ((hb.take hpm).alloc (.cells #[.slice A n c, .slice (some ⟨b, off, none⟩) m d] 24)).alloc (.cells #[.slice none 0 0, .slice none 0 0] 24)
      rw [HW.out, HL.out] at this
      exact this
    have hbw : Below w.heap.size w (W.drewN k) := below_drewN (by rw [← HW.out]; exact ((Below.refl _ _).alloc (Nat.le_refl _) _).alloc (by simp) _) k
    have hz : w.heap.size + 2 = (W.drewN k).heap.size := by rw [← HW.out]; simp
    have q0 : (W.drewN k).cell? ⟨w.heap.size, 0, none⟩ = some (.slice A n c) := by rw [← HW.out]; exact box_first _ _ _ _ 0
    have q1 : (W.drewN k).cell? ⟨w.heap.size + 1, 0, none⟩ = some (.slice none 0 0) := by
      rw [← HW.out]; simp
    have q2 : (W.drewN k).cell? ⟨w.heap.size + 1, 1, none⟩ = some (.slice none 0 0) := by
      rw [← HW.out]; simp
    have f0 : (W.drewN k).frozen? ⟨w.heap.size + 1, 0, none⟩ = false := by
      rw [← HW.out]; simp
    have f1 : (W.drewN k).frozen? ⟨w.heap.size + 1, 1, none⟩ = false := by
      rw [← HW.out]; simp
    generalize W.drewN k = X at *
    clear ha hb HC HC' HW
    have hlt : w.heap.size < X.heap.size := by omega
    have hown0 : (X.alloc (.cells #[] 3)).ownsRow X.heap.size 3 1 (.slice (some ⟨X.heap.size, 0, none⟩) 0 0) 0 [] := World.ownsRow_made X #[] 0 (Nat.le_refl _) (Nat.zero_le _) rfl
    have hbd : Below X.heap.size X (X.alloc (.cells #[] 3)) := (Below.refl X.heap.size X).alloc (Nat.le_refl _) (.cells #[] 3)
    go_upto_region 14 with fail
    go_wp2_with (at_builtin; refine wpList_append_ints _ (by rfl) _ _ 22 (by rfl) X.heap.size 3 i0 _ Tryd.underlying22 hi hz0 hz1 hz2 rfl (.slice (some ⟨X.heap.size, 0, none⟩) 0 0) 0 [] (by rfl) hown0 _ n c s (by rfl) (by exact HAs.out.below hbd) (by omega) hbd.size ?_)
    intro va wa howna hgrowa _
    have hba : Below X.heap.size X wa := hbd.trans (below_own (base := X.heap.size) hown0 hgrowa hbd.size)
    obtain ⟨A1, k1, hva, hk1⟩ := own_slice howna
    rw [hva] at howna
    have HIa : Hid (Ints wa A1 n s) := Ints.of_own howna
    have HBa : Hid (Ints wa (some ⟨b, off, none⟩) p L) := HBs.out.below hba
    rw [hva]
    clear hva howna hgrowa hown0 hbd
    have hown0 : (wa.alloc (.cells #[] 3)).ownsRow wa.heap.size 3 1 (.slice (some ⟨wa.heap.size, 0, none⟩) 0 0) 0 [] := World.ownsRow_made wa #[] 0 (Nat.le_refl _) (Nat.zero_le _) rfl
    have hbd : Below wa.heap.size wa (wa.alloc (.cells #[] 3)) := (Below.refl wa.heap.size wa).alloc (Nat.le_refl _) (.cells #[] 3)
    go_upto_region 15 with fail
    go_wp2_with (at_builtin; refine wpList_append_ints _ (by rfl) _ _ 22 (by rfl) wa.heap.size 3 i0 _ Tryd.underlying22 hi hz0 hz1 hz2 rfl (.slice (some ⟨wa.heap.size, 0, none⟩) 0 0) 0 [] (by rfl) hown0 _ p d L (by rfl) (by exact HBa.out.below hbd) (by omega) hbd.size ?_)
    intro vb wb hownb hgrowb _
    have hbb : Below wa.heap.size wa wb := hbd.trans (below_own (base := wa.heap.size) hown0 hgrowb hbd.size)
    obtain ⟨B1, k2, hvb, hk2⟩ := own_slice hownb
    rw [hvb] at hownb
    have HBb : Hid (Ints wb B1 p L) := Ints.of_own (by simpa using hownb)
    have HIb : Hid (Ints wb A1 n s) := HIa.out.below hbb
    have hab : Below X.heap.size X wb := hba.trans (hbb.mono hba.size)
    have hall : Below w.heap.size w wb := hbw.trans (hab.mono hbw.size)
    have r1 : wb.cell? ⟨w.heap.size + 1, 0, none⟩ = some (.slice none 0 0) := by rw [hab.cell (by simp; omega)]; exact q1
    have r2 : wb.cell? ⟨w.heap.size + 1, 1, none⟩ = some (.slice none 0 0) := by rw [hab.cell (by simp; omega)]; exact q2
    have g1 : wb.frozen? ⟨w.heap.size + 1, 0, none⟩ = false := by rw [hab.frozen (by simp; omega)]; exact f0
    have g2 : wb.frozen? ⟨w.heap.size + 1, 1, none⟩ = false := by rw [hab.frozen (by simp; omega)]; exact f1
    have hzb : w.heap.size + 2 ≤ wb.heap.size := by have := hab.size; omega
    rw [hvb]
    clear hvb hownb hgrowb hown0 hbd hba hbb hab hbw q0 q1 q2 f0 f1 HIa HBa HAs HBs hz hlt
    go_wp2_with fail
    go_loopg [3, 7] n (fun g v3 v7 wx => ∃ (j k3 k7 : Nat) (A2 B2 : Option Addr) (s2 l2 : List Int), j = g ∧ j ≤ n ∧ v3 = .slice B2 p k3 ∧ v7 = .slice A2 j k7 ∧ p ≤ k3 ∧ j ≤ k7 ∧ Hid (Ints wx A2 j s2) ∧ Hid (Ints wx B2 p l2) ∧ Below wb.heap.size wb wx ∧ Hid (∀ k, at_ s2 l2 k = at_ s L k))
    case atStart => exact ⟨n, k2, k1, A1, B1, s, L, rfl, by omega, rfl, rfl, by omega, by omega, HIb, HBb, Below.refl _ _, fun k => rfl⟩
    case round =>
      obtain ⟨j, k3, k7, A2, B2, s2, l2, hjg, hjn, rfl, rfl, hk3, hk7, HS, HL2, hbx, HE⟩ := hrel
      have HJG := Lib.hid hjg
      clear hjg
      obtain ⟨hcx, hfx⟩ := bcell hbx
      have HCX := Lib.hid hcx
      have HFX := Lib.hid hfx
      have t1 : wr.cell? ⟨w.heap.size + 1, 0, none⟩ = some (.slice none 0 0) := by rw [hcx _ _ (by omega)]; exact r1
      have t2 : wr.cell? ⟨w.heap.size + 1, 1, none⟩ = some (.slice none 0 0) := by rw [hcx _ _ (by omega)]; exact r2
      have u1 : wr.frozen? ⟨w.heap.size + 1, 0, none⟩ = false := by rw [hfx _ _ (by omega)]; exact g1
      have u2 : wr.frozen? ⟨w.heap.size + 1, 1, none⟩ = false := by rw [hfx _ _ (by omega)]; exact g2
      clear hcx hfx r1 r2 g1 g2
      by_cases hj0 : j = 0
      · subst hj0
        go_wp2_with fail
        go_quiet (fail)
        go_wp2_with fail
        refine bodyPost_ret (v := .agg #[.slice A2 0 k7, .slice B2 p k3]) (by simp [results, Tryd.results65, go_sem, t1, t2]) rfl ?_
        have t2' := (World.cell?_setCell_other wr ⟨w.heap.size + 1, 0, none⟩ ⟨w.heap.size + 1, 1, none⟩ (.slice A2 0 k7) (by simp)).trans t2
        refine ⟨_, s2, l2, rfl, ⟨A2, 0, k7, B2, p, k3, rfl, (HS.out.set t1 (by simp) _).set t2' (by simp) _, (HL2.out.set t1 (by simp) _).set t2' (by simp) _, by omega, hk3⟩, norm_fin HP.out HL.out HE.out HL2.out.1 (.inl (List.eq_nil_of_length_eq_zero HS.out.1)), ?_, ?_, ?_⟩
        · rw [HS.out.1]; omega
        · rw [HL2.out.1]; omega
        · exact ((below_drewN (hall.trans (hbx.mono hall.size)) _).setCell (by simp) _).setCell (by simp) _
      · have hsj := HS.out
        have hlj := HL2.out
        have HSL := Lib.hid hsj.1
        have HLL := Lib.hid hlj.1
        obtain ⟨bA, oA, rfl, hbA, hca⟩ := hsj.at_ (show j - 1 < j by omega)
        obtain ⟨bB, oB, rfl, hbB2, hcb⟩ := hlj.at_ (show p - 1 < p by omega)
        have c1 := hca (j - 1) (by omega)
        have c2 := hcb (p - 1) (by omega)
        clear hca hcb hsj hlj
        generalize hva : s2.getD (j - 1) 0 = va at c1
        generalize hvb : l2.getD (p - 1) 0 = vb at c2
        have HVA := Lib.hid hva
        have HVB := Lib.hid hvb
        clear hva hvb
        have e1 : IntKind.i64.wrap ((j : Int) - 1) = (j : Int) - 1 := IntWalk.i64_in _ (by omega)
        have e2 : IntKind.i64.wrap ((p : Int) - 1) = (p : Int) - 1 := IntWalk.i64_in _ (by omega)
        have e5 : ((j : Int) - 1).toNat = j - 1 := by omega
        have e6 : ((p : Int) - 1).toNat = p - 1 := by omega
        have f1 : (0 : Int) ≤ (j : Int) - 1 := by omega
        have f2 : (j : Int) - 1 < j := by omega
        have f3 : (0 : Int) ≤ (p : Int) - 1 := by omega
        have f4 : (p : Int) - 1 < p := by omega
        have f5 : (p : Int) - 1 ≤ k3 := by omega
        have f6 : (j : Int) - 1 ≤ k7 := by omega
        have f7 : (p : Int) - 1 ≤ p := by omega
        have f8 : (j : Int) - 1 ≤ j := by omega
        have f9 : (p : Int) ≤ k3 := by omega
        have f10 : (j : Int) ≤ k7 := by omega
        have hd : decide (0 < j) = true := by simp; omega
        have hjp : 0 < j := by omega
        cases he : (va == vb)
        · have HEV := Lib.hid (show ¬ va = vb by simpa using he)
          go_wp2_with fail
          go_quiet (fail)
          clear e1 e2 e5 e6
          go_wp2_with fail
          refine bodyPost_ret (v := .agg #[.slice (some ⟨bA, oA, none⟩) j k7, .slice (some ⟨bB, oB, none⟩) p k3]) (by simp [results, Tryd.results65, go_sem, t1, t2]) rfl ?_
          have t2' := (World.cell?_setCell_other wr ⟨w.heap.size + 1, 0, none⟩ ⟨w.heap.size + 1, 1, none⟩ (.slice (some ⟨bA, oA, none⟩) j k7) (by simp)).trans t2
          refine ⟨_, s2, l2, rfl, ⟨_, j, k7, _, p, k3, rfl, (HS.out.set t1 (by simp) _).set t2' (by simp) _, (HL2.out.set t1 (by simp) _).set t2' (by simp) _, hk7, hk3⟩, norm_fin HP.out HL.out HE.out HL2.out.1 (.inr (by rw [HSL.out, HLL.out, HVA.out, HVB.out]; exact HEV.out)), ?_, ?_, ?_⟩
          · rw [HS.out.1]; omega
          · rw [HL2.out.1]; omega
          · exact ((below_drewN (hall.trans (hbx.mono hall.size)) _).setCell (by simp) _).setCell (by simp) _
        · have HEV := Lib.hid (show va = vb by simpa using he)
          have HLt := Lib.hid (HL2.out.take (k := p - 1) (by omega))
          have HSt := Lib.hid (HS.out.take (k := j - 1) (by omega))
          have HO := Lib.hid (fun k => own_one wr k vb)
          have HBk : Hid (∀ k, Below wr.heap.size wr ((wr.drewN k).alloc (.cells #[.int .i64 vb] 3))) := fun k => (below_drewN (Below.refl _ _) k).alloc (Nat.le_refl _) _
          go_wp2_with fail
          go_quiet (fail)
          go_wp2_with (at_builtin; refine wpList_append_ints _ (by rfl) _ _ 22 (by rfl) wr.heap.size 3 i0 _ Tryd.underlying22 hi hz0 hz1 hz2 rfl (.slice (some ⟨wr.heap.size, 0, none⟩) 1 1) 1 [.int .i64 vb] (by rfl) (HO.out _) _ (p - 1) k3 (l2.take (p - 1)) (by rfl) (by exact HLt.out.below (HBk.out _)) (by omega) (HBk.out _).size ?_)
          intro vx wx hownx hgrowx _
          have hbx2 : Below wr.heap.size wr wx := (HBk.out _).trans (below_own (base := wr.heap.size) (HO.out _) hgrowx (HBk.out _).size)
          obtain ⟨B3, k4, hvx, hk4⟩ := own_slice hownx
          rw [hvx] at hownx
          have HIx : Hid (Ints wx B3 p (vb :: l2.take (p - 1))) := Ints.of_own (by simpa using hownx)
          rw [hvx]
          clear hvx hownx hgrowx
          go_wp2_with fail
          go_roundg (gk - 1)
          case measure => have := HJG.out; omega
          case rel =>
            have hw0 : Below wb.heap.size wb wx := hbx.trans (hbx2.mono hbx.size)
            exact ⟨j - 1, k4, k7, _, B3, s2.take (j - 1), vb :: l2.take (p - 1), by have := HJG.out; omega, by omega, rfl, rfl, by omega, by omega, HSt.out.below hbx2, HIx, hw0, fun k => by
              rw [step_same HSL.out HLL.out hjp hp1 (HVA.out.trans HEV.out) HVB.out]; exact HE.out k⟩

end Go.Proofs.YteidikkeoaolgaaDoor.Wd
