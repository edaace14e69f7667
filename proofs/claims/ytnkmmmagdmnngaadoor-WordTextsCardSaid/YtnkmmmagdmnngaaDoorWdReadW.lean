/-
  read of package word: what is read of a text.
-/
import Derived.Test.YtnkmmmagdmnngaaDoorWdNum
import Derived.Test.YtnkmmmagdmnngaaDoorWdRdS
import Derived.Test.YtnkmmmagdmnngaaDoorWdAwake
import Derived.Deep.RegionWith
import Derived.Deep.RegionLaw
import Derived.Deep.DeepCutAuto
namespace Go.Proofs.YtnkmmmagdmnngaaDoor.Wd
open Go.RowKit
set_option linter.unusedVariables false

theorem dropWhile_drop (p : UInt8 → Bool) (l : List UInt8) : l.dropWhile p = l.drop (l.takeWhile p).length :=
  (List.drop_left (l₁ := l.takeWhile p) (l₂ := l.dropWhile p)).symm.trans (congrArg (List.drop _) List.takeWhile_append_dropWhile)

section
variable {s : ByteArray} {k a : Nat} {m : Int} {p : Nat} {S L : List Int}
theorem drop_at (h : a < s.size) : s.data.toList.drop a = s[a] :: s.data.toList.drop (a + 1) := by
  rw [List.drop_eq_getElem_cons (by simpa using h)]; rfl
theorem rd_skip (h : a < s.size) (hc : s[a].toNat = 32) : rd m (k + 1) (s.data.toList.drop a) p S L = rd m k (s.data.toList.drop (a + 1)) p S L := by
  rw [drop_at h]
  conv => lhs; unfold rd
  rw [if_pos hc]
theorem rd_par (h : a < s.size) (hc : s[a].toNat = 40 ∧ p = 0 ∨ s[a].toNat = 41 ∧ p = 1) : rd m (k + 1) (s.data.toList.drop a) p S L = rd m k (s.data.toList.drop (a + 1)) (p + 1) S L := by
  rw [drop_at h]
  conv => lhs; unfold rd
  rw [if_neg (by omega), if_pos hc]
theorem rd_dig0 (h : a < s.size) (hc : isDig s[a] = true) : rd m (k + 1) (s.data.toList.drop a) 0 S L = rd m k (s.data.toList.drop (a + (runAt s a).length)) 0 (S ++ [numOf m (runAt s a)]) L := by
  have hd := isDig_iff.1 hc
  have e : (s.data.toList.drop a).dropWhile isDig = s.data.toList.drop (a + (runAt s a).length) := by
    rw [dropWhile_drop, List.drop_drop]; rfl
  have e2 : (s.data.toList.drop a).takeWhile isDig = runAt s a := rfl
  rw [drop_at h] at e e2 ⊢
  conv => lhs; unfold rd
  rw [if_neg (by omega), if_neg (by omega), if_pos ⟨hc, rfl⟩, e, e2]
theorem rd_dig1 (h : a < s.size) (hc : isDig s[a] = true) : rd m (k + 1) (s.data.toList.drop a) 1 S L = rd m k (s.data.toList.drop (a + (runAt s a).length)) 1 S (L ++ [numOf m (runAt s a)]) := by
  have hd := isDig_iff.1 hc
  have e : (s.data.toList.drop a).dropWhile isDig = s.data.toList.drop (a + (runAt s a).length) := by
    rw [dropWhile_drop, List.drop_drop]; rfl
  have e2 : (s.data.toList.drop a).takeWhile isDig = runAt s a := rfl
  rw [drop_at h] at e e2 ⊢
  conv => lhs; unfold rd
  rw [if_neg (by omega), if_neg (by omega), if_neg (by omega), if_pos ⟨hc, rfl⟩, e, e2]
theorem rd_stop (h : a < s.size) (h1 : s[a].toNat ≠ 32) (h2 : ¬ (s[a].toNat = 40 ∧ p = 0 ∨ s[a].toNat = 41 ∧ p = 1)) (h3 : ¬ (isDig s[a] = true ∧ p = 0)) (h4 : ¬ (isDig s[a] = true ∧ p = 1)) : rd m (k + 1) (s.data.toList.drop a) p S L = none := by
  rw [drop_at h]
  conv => lhs; unfold rd
  rw [if_neg h1, if_neg h2, if_neg h3, if_neg h4]
theorem rd_over (h : ¬ a < s.size) : rd m (k + 1) (s.data.toList.drop a) p S L = some (S, L, p) := by
  rw [List.drop_eq_nil_of_le (by simp; show s.size ≤ a; omega)]
  rfl
theorem runAt_pos (h : a < s.size) (hc : isDig s[a] = true) : 0 < (runAt s a).length := by
  unfold runAt
  rw [drop_at h, List.takeWhile_cons_of_pos hc]
  simp
end

/-- The piece of a text that is its run of digits. -/
theorem run_piece (s : ByteArray) (a : Nat) : (s.extract a (a + (runAt s a).length)).data.toList = runAt s a := by
  rw [Lib.extract_data]
  have h := List.takeWhile_append_dropWhile (p := isDig) (l := s.data.toList.drop a)
  have e := List.take_left (l₁ := (s.data.toList.drop a).takeWhile isDig) (l₂ := (s.data.toList.drop a).dropWhile isDig)
  rw [h] at e
  simpa [runAt] using e

/-- What reading comes to. -/
def ReadRes (w w' : World) (r : Option (List Int × List Int × Nat)) (e : Ending) : Prop :=
  ∃ A n c B m d S L ok, e = .returned (.tuple #[.agg #[.slice A n c, .slice B m d], .bool ok]) ∧ (Ints w' A n S ∧ Ints w' B m L ∧ n ≤ c ∧ m ≤ d) ∧
    Hid ((ok = true → r = some (S, L, 2)) ∧ (ok = false → ∀ S L, r ≠ some (S, L, 2)) ∧ n + m ≤ 50000) ∧ Below w.heap.size w w'

set_option maxRecDepth 100000 in
set_option maxHeartbeats 4000000 in
theorem read_any (s : ByteArray) (w : World) (hs : s.size ≤ 20000) :
    Calls Tryd.prog 87 #[.string s] w fun e w' => ReadRes w w' (rd 64 (s.size + 1) s.data.toList 0 [] []) e := by
  obtain ⟨i0, hi, hi0, hi1, hi2⟩ := info_parts int_info
  go_enter Tryd.func87, Tryd.ntmps87
  go_wp2_with fail
  have hst := RdS.start w
  have hb0 : Below w.heap.size w (w.alloc (.cells #[.slice none 0 0, .slice none 0 0] 24)) := (Below.refl _ _).alloc (Nat.le_refl _) _
  go_loopg [4, 5] s.size (fun g p i wx => ∃ (pl a k : Nat) (A : Option Addr) (n c : Nat) (B : Option Addr) (m d : Nat) (S L : List Int), p = .int .i64 pl ∧ i = .int .i64 a ∧ pl ≤ 2 ∧ a + g = s.size ∧ Hid (g < k) ∧
    Hid (RdS w.heap.size wx pl A n c B m d S L) ∧ n + m ≤ a ∧ Hid (rd 64 (s.size + 1) s.data.toList 0 [] [] = rd 64 k (s.data.toList.drop a) pl S L) ∧ Below w.heap.size w wx)
  case atStart => exact ⟨0, 0, s.size + 1, none, 0, 0, none, 0, 0, [], [], rfl, rfl, by omega, by omega, by show s.size < s.size + 1; omega, hst, by omega, by simp [Hid], hb0⟩
  case round =>
    obtain ⟨pl, a, k, A, n, c, B, m, d, S, L, rfl, rfl, hpl, hag, hgk, HR, hnm, HE, hbx⟩ := hrel
    clear hst hb0
    have hc0 := HR.out.c0
    have hc1 := HR.out.c1
    have hf0 := HR.out.f0
    have hf1 := HR.out.f1
    have hsz := HR.out.size
    by_cases hlt : a < s.size
    · obtain ⟨k, rfl⟩ : ∃ k', k = k' + 1 := ⟨k - 1, by have := hgk.out; omega⟩
      have hp3 : pl = 0 ∨ pl = 1 ∨ pl = 2 := by omega
      by_cases h32 : s[a].toNat = 32
      · have e1 : ((s[a].toNat : Int) == 32) = true := by simp; omega
        have HK := Lib.hid (rd_skip (m := 64) (k := k) (p := pl) (S := S) (L := L) hlt h32)
        clear h32
        go_wp2_with fail
        go_roundg (gk - 1)
        case measure => omega
        case rel => exact ⟨pl, a + 1, k, A, n, c, B, m, d, S, L, rfl, by go_num, hpl, by omega, by have := hgk.out; show gk - 1 < k; omega, HR, by omega, HE.out.trans HK.out, hbx⟩
      · by_cases h40 : s[a].toNat = 40
        · have hd : isDig s[a] = false := by simp [isDig]; omega
          have e1 : ((s[a].toNat : Int) == 32) = false := by simp; omega
          have e2 : ((s[a].toNat : Int) == 40) = true := by simp; omega
          have e3 : ((s[a].toNat : Int) == 41) = false := by simp; omega
          rcases hp3 with h0 | h0 | h0
          · have q0 : ((pl : Int) == 0) = true := by simp; omega
            have q1 : ((pl : Int) == 1) = false := by simp; omega
            have HK := Lib.hid (rd_par (m := 64) (k := k) (p := pl) (S := S) (L := L) hlt (.inl ⟨h40, h0⟩))
            have HR1 := Lib.hid (show RdS w.heap.size wr (pl + 1) A n c B m d S L by have := HR.out; subst h0; exact this.opened)
            have H0 := Lib.hid h0
            clear h32 h40 h0
            go_wp2_with fail
            go_roundg (gk - 1)
            case measure => omega
            case rel => exact ⟨pl + 1, a + 1, k, A, n, c, B, m, d, S, L, by go_num, by go_num, by have := H0.out; omega, by omega, by have := hgk.out; show gk - 1 < k; omega, HR1, by omega, HE.out.trans HK.out, hbx⟩
          · have q0 : ((pl : Int) == 0) = false := by simp; omega
            have q1 : ((pl : Int) == 1) = true := by simp; omega
            have HK := Lib.hid (rd_stop (m := 64) (k := k) (p := pl) (S := S) (L := L) hlt (by omega) (by omega) (by rw [hd]; simp) (by rw [hd]; simp))
            clear h32 h40 h0
            go_wp2_with fail
            refine (isDigit_any s[a] false _ hd).mono ?_
            rintro e w1 ⟨rfl, rfl⟩
            go_wp2_with fail
            refine (isDigit_any s[a] false _ hd).mono ?_
            rintro e w1 ⟨rfl, rfl⟩
            go_wp2_with fail
            refine bodyPost_ret (v := .tuple #[.agg #[.slice none 0 0, .slice none 0 0], .bool false]) (by simp [results, Tryd.results87, go_sem, hc0, hc1]) rfl ?_
            exact ⟨none, 0, 0, none, 0, 0, [], [], false, rfl, ⟨Ints.none_, Ints.none_, Nat.le_refl _, Nat.le_refl _⟩, ⟨(fun h => by cases h), (fun _ S L => by rw [HE.out, HK.out]; simp), by omega⟩, (hbx.setCell (Nat.le_refl _) _).setCell (Nat.le_refl _) _⟩
          · have q0 : ((pl : Int) == 0) = false := by simp; omega
            have q1 : ((pl : Int) == 1) = false := by simp; omega
            have HK := Lib.hid (rd_stop (m := 64) (k := k) (p := pl) (S := S) (L := L) hlt (by omega) (by omega) (by rw [hd]; simp) (by rw [hd]; simp))
            clear h32 h40 h0
            go_wp2_with fail
            refine (isDigit_any s[a] false _ hd).mono ?_
            rintro e w1 ⟨rfl, rfl⟩
            go_wp2_with fail
            refine (isDigit_any s[a] false _ hd).mono ?_
            rintro e w1 ⟨rfl, rfl⟩
            go_wp2_with fail
            refine bodyPost_ret (v := .tuple #[.agg #[.slice none 0 0, .slice none 0 0], .bool false]) (by simp [results, Tryd.results87, go_sem, hc0, hc1]) rfl ?_
            exact ⟨none, 0, 0, none, 0, 0, [], [], false, rfl, ⟨Ints.none_, Ints.none_, Nat.le_refl _, Nat.le_refl _⟩, ⟨(fun h => by cases h), (fun _ S L => by rw [HE.out, HK.out]; simp), by omega⟩, (hbx.setCell (Nat.le_refl _) _).setCell (Nat.le_refl _) _⟩
        by_cases h41 : s[a].toNat = 41
        · have hd : isDig s[a] = false := by simp [isDig]; omega
          have e1 : ((s[a].toNat : Int) == 32) = false := by simp; omega
          have e2 : ((s[a].toNat : Int) == 40) = false := by simp; omega
          have e3 : ((s[a].toNat : Int) == 41) = true := by simp; omega
          rcases hp3 with h0 | h0 | h0
          · have q0 : ((pl : Int) == 0) = true := by simp; omega
            have q1 : ((pl : Int) == 1) = false := by simp; omega
            have HK := Lib.hid (rd_stop (m := 64) (k := k) (p := pl) (S := S) (L := L) hlt (by omega) (by omega) (by rw [hd]; simp) (by rw [hd]; simp))
            clear h32 h40 h41 h0
            go_wp2_with fail
            refine (isDigit_any s[a] false _ hd).mono ?_
            rintro e w1 ⟨rfl, rfl⟩
            go_wp2_with fail
            refine (isDigit_any s[a] false _ hd).mono ?_
            rintro e w1 ⟨rfl, rfl⟩
            go_wp2_with fail
            refine bodyPost_ret (v := .tuple #[.agg #[.slice none 0 0, .slice none 0 0], .bool false]) (by simp [results, Tryd.results87, go_sem, hc0, hc1]) rfl ?_
            exact ⟨none, 0, 0, none, 0, 0, [], [], false, rfl, ⟨Ints.none_, Ints.none_, Nat.le_refl _, Nat.le_refl _⟩, ⟨(fun h => by cases h), (fun _ S L => by rw [HE.out, HK.out]; simp), by omega⟩, (hbx.setCell (Nat.le_refl _) _).setCell (Nat.le_refl _) _⟩
          · have q0 : ((pl : Int) == 0) = false := by simp; omega
            have q1 : ((pl : Int) == 1) = true := by simp; omega
            have HK := Lib.hid (rd_par (m := 64) (k := k) (p := pl) (S := S) (L := L) hlt (.inr ⟨h41, h0⟩))
            have HR1 := Lib.hid (show RdS w.heap.size wr (pl + 1) A n c B m d S L by have := HR.out; subst h0; exact this.closed)
            have H0 := Lib.hid h0
            clear h32 h40 h41 h0
            go_wp2_with fail
            go_roundg (gk - 1)
            case measure => omega
            case rel => exact ⟨pl + 1, a + 1, k, A, n, c, B, m, d, S, L, by go_num, by go_num, by have := H0.out; omega, by omega, by have := hgk.out; show gk - 1 < k; omega, HR1, by omega, HE.out.trans HK.out, hbx⟩
          · have q0 : ((pl : Int) == 0) = false := by simp; omega
            have q1 : ((pl : Int) == 1) = false := by simp; omega
            have HK := Lib.hid (rd_stop (m := 64) (k := k) (p := pl) (S := S) (L := L) hlt (by omega) (by omega) (by rw [hd]; simp) (by rw [hd]; simp))
            clear h32 h40 h41 h0
            go_wp2_with fail
            refine (isDigit_any s[a] false _ hd).mono ?_
            rintro e w1 ⟨rfl, rfl⟩
            go_wp2_with fail
            refine (isDigit_any s[a] false _ hd).mono ?_
            rintro e w1 ⟨rfl, rfl⟩
            go_wp2_with fail
            refine bodyPost_ret (v := .tuple #[.agg #[.slice none 0 0, .slice none 0 0], .bool false]) (by simp [results, Tryd.results87, go_sem, hc0, hc1]) rfl ?_
            exact ⟨none, 0, 0, none, 0, 0, [], [], false, rfl, ⟨Ints.none_, Ints.none_, Nat.le_refl _, Nat.le_refl _⟩, ⟨(fun h => by cases h), (fun _ S L => by rw [HE.out, HK.out]; simp), by omega⟩, (hbx.setCell (Nat.le_refl _) _).setCell (Nat.le_refl _) _⟩
        cases hd : isDig s[a]
        · have e1 : ((s[a].toNat : Int) == 32) = false := by simp; omega
          have e2 : ((s[a].toNat : Int) == 40) = false := by simp; omega
          have e3 : ((s[a].toNat : Int) == 41) = false := by simp; omega
          have HK := Lib.hid (rd_stop (m := 64) (k := k) (p := pl) (S := S) (L := L) hlt (by omega) (by omega) (by rw [hd]; simp) (by rw [hd]; simp))
          clear h32 h40 h41
          go_wp2_with fail
          refine (isDigit_any s[a] false _ hd).mono ?_
          rintro e w1 ⟨rfl, rfl⟩
          go_wp2_with fail
          refine (isDigit_any s[a] false _ hd).mono ?_
          rintro e w1 ⟨rfl, rfl⟩
          go_wp2_with fail
          refine bodyPost_ret (v := .tuple #[.agg #[.slice none 0 0, .slice none 0 0], .bool false]) (by simp [results, Tryd.results87, go_sem, hc0, hc1]) rfl ?_
          exact ⟨none, 0, 0, none, 0, 0, [], [], false, rfl, ⟨Ints.none_, Ints.none_, Nat.le_refl _, Nat.le_refl _⟩, ⟨(fun h => by cases h), (fun _ S L => by rw [HE.out, HK.out]; simp), by omega⟩, (hbx.setCell (Nat.le_refl _) _).setCell (Nat.le_refl _) _⟩
        · have e1 : ((s[a].toNat : Int) == 32) = false := by simp; omega
          have e2 : ((s[a].toNat : Int) == 40) = false := by simp; omega
          have e3 : ((s[a].toNat : Int) == 41) = false := by simp; omega
          rcases hp3 with h0 | h0 | h0
          · have hpz : Hid (pl = 0) := h0
            have q0 : ((pl : Int) == 0) = true := by simp; omega
            have HK := Lib.hid (show rd 64 (k + 1) (s.data.toList.drop a) pl S L = rd 64 k (s.data.toList.drop (a + (runAt s a).length)) pl (S ++ [numOf 64 (runAt s a)]) L by subst h0; exact rd_dig0 hlt hd)
            have hq1 := runAt_pos hlt hd
            have hq2 := runAt_le s a
            have HP := Lib.hid (run_piece s a)
            have HDG : Hid (∀ x ∈ runAt s a, isDig x = true) := mem_run
            have hR0 := HR.out
            rw [h0] at hR0
            have hrow := Lib.hid (hR0.zero rfl).1
            have HR0 := Lib.hid hR0
            clear hR0 h32 h40 h41 h0
            have hdg := digitsEnd_any s a (hs := by omega) (hk := by omega)
            have HDE := Lib.hid hdg
            clear hdg
            generalize hqq : (runAt s a).length = q at *
            have hsl : ∀ w, (Instr.slice 9 (.string s) (some (.int .i64 (a : Int))) (some (.int .i64 ((a + q : Nat) : Int))) none).run Tryd.prog w = .ok (.string (s.extract a (a + q))) w := fun w => by
              rw [run_slice_string w 9 s .i64 .i64 _ _ Tryd.underlying9 (by omega) (by omega) (by omega), show ((a : Int)).toNat = a by omega, show (((a + q : Nat) : Int)).toNat = a + q by omega]
            generalize hds : s.extract a (a + q) = ds at *
            have hdsz : ds.size = q := by
              have := congrArg List.length HP.out
              rw [hqq] at this
              simpa using this
            have HDS := Lib.hid hdsz
            have HQQ := Lib.hid hqq
            clear hds hdsz hqq
            generalize hru : runAt s a = ru at *
            clear hru
            generalize he : a + q = en at *
            have HEN := Lib.hid he
            have hen : a < en ∧ en ≤ s.size := by omega
            clear he
            have hnum := fun w => number_any ds w (by have := HDS.out; omega) (show Hid (∀ d ∈ ds.data.toList, isDig d = true) by rw [HP.out]; exact HDG)
            rw [HP.out] at hnum
            have HNU := Lib.hid hnum
            clear hnum
            go_wp2_with fail
            refine (isDigit_any s[a] true _ hd).mono ?_
            rintro e w1 ⟨rfl, rfl⟩
            go_wp2_with fail
            refine (HDE.out _).mono ?_
            rintro e w1 ⟨rfl, rfl⟩
            go_wp2_with fail
            go_region_law (first
              | (refine step_append_ints _ (by rfl) _ _ _ (by rfl) (w.heap.size + 1) 3 i0 _ Tryd.underlying22 hi hi0 hi1 hi2 rfl (.slice A n c) n (S.map (Value.int .i64)) (by rfl) (by exact (hR1.out.zero rfl).1.alloc _) (some ⟨w1.heap.size, 0, none⟩) 1 1 [numOf 64 ru] (by rfl) (by exact ints_new w1 [numOf 64 ru] _) (by omega) (by simp; omega) ?_; intro v' w2 hown hgrow hat; obtain ⟨A', c', hv', hcc'⟩ := own_slice hown; rw [hv'] at hown; rw [hv']
                 have hput := hR1.out.put0 ((Below.refl _ _).alloc (Nat.le_refl _) _) hown hgrow
                 have hbel : Below (w.heap.size + 1) _ w2 := below_own ((hR1.out.zero rfl).1.alloc _) hgrow (by simp; omega)
                 have r2 : w2.frozen? ⟨w.heap.size, 0, none⟩ = false := (hbel.frozen (p := ⟨w.heap.size, 0, none⟩) (Nat.lt_succ_self _)).trans ((hR1.out.below ((Below.refl _ _).alloc (Nat.le_refl _) _)).f0)
                 have r0 : w2.cell? ⟨w.heap.size, 0, none⟩ = some (.slice A n c) := (hbel.cell (p := ⟨w.heap.size, 0, none⟩) (Nat.lt_succ_self _)).trans ((hR1.out.below ((Below.refl _ _).alloc (Nat.le_refl _) _)).c0)
                 have HPUT := Lib.hid hput
                 clear hput hown hgrow hat hbel hv')
              | (go_simp
                 go_wp2_with (go_at_call 124; refine (HNU.out _).mono ?_; rintro e w1 ⟨rfl, hb1⟩
                              have hb1' : Below wr.heap.size wr w1 := ((Below.refl _ _).drew).trans hb1
                              have hR1 := Lib.hid (HR0.out.below hb1')
                              have HBR := Lib.hid hb1'
                              have p0 := hR1.out.c0
                              have p1 := hR1.out.c1
                              have p2 := hR1.out.f0
                              have p3 := hR1.out.f1
                              have p4 := hR1.out.size
                              clear hb1 hb1'))
              | fail)
            all_goals
              go_wp2_with fail
              go_roundg (s.size - en)
              case measure => omega
              case rel => exact ⟨pl, en, k, A', n + 1, c', B, m, d, S ++ [numOf 64 ru], L, rfl, rfl, hpl, by omega, by have := hgk.out; show s.size - en < k; omega, by have e := hpz.out; subst e; exact HPUT.out.1, by omega, HE.out.trans HK.out, hbx.trans ((HBR.out.mono (by omega)).trans HPUT.out.2)⟩
          · have hpz : Hid (pl = 1) := h0
            have q0 : ((pl : Int) == 0) = false := by simp; omega
            have q1 : ((pl : Int) == 1) = true := by simp; omega
            have HK := Lib.hid (show rd 64 (k + 1) (s.data.toList.drop a) pl S L = rd 64 k (s.data.toList.drop (a + (runAt s a).length)) pl S (L ++ [numOf 64 (runAt s a)]) by subst h0; exact rd_dig1 hlt hd)
            have hq1 := runAt_pos hlt hd
            have hq2 := runAt_le s a
            have HP := Lib.hid (run_piece s a)
            have HDG : Hid (∀ x ∈ runAt s a, isDig x = true) := mem_run
            have hR0 := HR.out
            rw [h0] at hR0
            obtain ⟨B1, hB1, hB2, hI, hrow⟩ := hR0.more (by decide)
            have HI := Lib.hid hI
            have HROW := Lib.hid hrow
            clear hI hrow
            have HR0 := Lib.hid hR0
            clear hR0 h32 h40 h41 h0
            have hdg := digitsEnd_any s a (hs := by omega) (hk := by omega)
            have HDE := Lib.hid hdg
            clear hdg
            generalize hqq : (runAt s a).length = q at *
            have hsl : ∀ w, (Instr.slice 9 (.string s) (some (.int .i64 (a : Int))) (some (.int .i64 ((a + q : Nat) : Int))) none).run Tryd.prog w = .ok (.string (s.extract a (a + q))) w := fun w => by
              rw [run_slice_string w 9 s .i64 .i64 _ _ Tryd.underlying9 (by omega) (by omega) (by omega), show ((a : Int)).toNat = a by omega, show (((a + q : Nat) : Int)).toNat = a + q by omega]
            generalize hds : s.extract a (a + q) = ds at *
            have hdsz : ds.size = q := by
              have := congrArg List.length HP.out
              rw [hqq] at this
              simpa using this
            have HDS := Lib.hid hdsz
            have HQQ := Lib.hid hqq
            clear hds hdsz hqq
            generalize hru : runAt s a = ru at *
            clear hru
            generalize he : a + q = en at *
            have HEN := Lib.hid he
            have hen : a < en ∧ en ≤ s.size := by omega
            clear he
            have hnum := fun w => number_any ds w (by have := HDS.out; omega) (show Hid (∀ d ∈ ds.data.toList, isDig d = true) by rw [HP.out]; exact HDG)
            rw [HP.out] at hnum
            have HNU := Lib.hid hnum
            clear hnum
            go_wp2_with fail
            refine (isDigit_any s[a] true _ hd).mono ?_
            rintro e w1 ⟨rfl, rfl⟩
            go_wp2_with fail
            refine (isDigit_any s[a] true _ hd).mono ?_
            rintro e w1 ⟨rfl, rfl⟩
            go_wp2_with fail
            refine (HDE.out _).mono ?_
            rintro e w1 ⟨rfl, rfl⟩
            go_wp2_with fail
            go_region_law (first
              | (refine step_append_ints _ (by rfl) _ _ _ (by rfl) B1 3 i0 _ Tryd.underlying22 hi hi0 hi1 hi2 rfl (.slice B m d) m (L.map (Value.int .i64)) (by rfl) (by exact (own_below HROW.out HBR.out).alloc _) (some ⟨w1.heap.size, 0, none⟩) 1 1 [numOf 64 ru] (by rfl) (by exact ints_new w1 [numOf 64 ru] _) (by omega) (by simp; omega) ?_; intro v' w2 hown hgrow hat; obtain ⟨B', d', hv', hcc'⟩ := own_slice hown; rw [hv'] at hown; rw [hv']
                 have hput := hR1.out.put1 hB1 (by omega) (HI.out.below (HBR.out.mono hB2)) (own_below HROW.out HBR.out) ((Below.refl _ _).alloc (Nat.le_refl _) _) hown hgrow
                 have hbel : Below B1 _ w2 := below_own ((own_below HROW.out HBR.out).alloc _) hgrow (by simp; omega)
                 have r2 : w2.frozen? ⟨w.heap.size, 1, none⟩ = false := (hbel.frozen (p := ⟨w.heap.size, 1, none⟩) hB1).trans ((hR1.out.below ((Below.refl _ _).alloc (Nat.le_refl _) _)).f1)
                 have r0 : w2.cell? ⟨w.heap.size, 1, none⟩ = some (.slice B m d) := (hbel.cell (p := ⟨w.heap.size, 1, none⟩) hB1).trans ((hR1.out.below ((Below.refl _ _).alloc (Nat.le_refl _) _)).c1)
                 have HPUT := Lib.hid hput
                 clear hput hown hgrow hat hbel hv')
              | (go_simp
                 go_wp2_with (go_at_call 124; refine (HNU.out _).mono ?_; rintro e w1 ⟨rfl, hb1⟩
                              have hb1' : Below wr.heap.size wr w1 := ((Below.refl _ _).drew).trans hb1
                              have hR1 := Lib.hid (HR0.out.below hb1')
                              have HBR := Lib.hid hb1'
                              have p0 := hR1.out.c0
                              have p1 := hR1.out.c1
                              have p2 := hR1.out.f0
                              have p3 := hR1.out.f1
                              have p4 := hR1.out.size
                              have p5 : B1 ≤ w1.heap.size := Nat.le_trans hB2 HBR.out.size
                              clear hb1 hb1'))
              | fail)
            all_goals
              go_wp2_with fail
              go_roundg (s.size - en)
              case measure => omega
              case rel => exact ⟨pl, en, k, A, n, c, B', m + 1, d', S, L ++ [numOf 64 ru], rfl, rfl, hpl, by omega, by have := hgk.out; show s.size - en < k; omega, by have e := hpz.out; subst e; exact HPUT.out.1, by omega, HE.out.trans HK.out, hbx.trans ((HBR.out.mono (by omega)).trans HPUT.out.2)⟩
          · have q0 : ((pl : Int) == 0) = false := by simp; omega
            have q1 : ((pl : Int) == 1) = false := by simp; omega
            have HK := Lib.hid (rd_stop (m := 64) (k := k) (p := pl) (S := S) (L := L) hlt (by omega) (by omega) (by rw [hd]; simp; omega) (by rw [hd]; simp; omega))
            clear h32 h40 h41 h0
            go_wp2_with fail
            refine (isDigit_any s[a] true _ hd).mono ?_
            rintro e w1 ⟨rfl, rfl⟩
            go_wp2_with fail
            refine (isDigit_any s[a] true _ hd).mono ?_
            rintro e w1 ⟨rfl, rfl⟩
            go_wp2_with fail
            refine bodyPost_ret (v := .tuple #[.agg #[.slice none 0 0, .slice none 0 0], .bool false]) (by simp [results, Tryd.results87, go_sem, hc0, hc1]) rfl ?_
            exact ⟨none, 0, 0, none, 0, 0, [], [], false, rfl, ⟨Ints.none_, Ints.none_, Nat.le_refl _, Nat.le_refl _⟩, ⟨(fun h => by cases h), (fun _ S L => by rw [HE.out, HK.out]; simp), by omega⟩, (hbx.setCell (Nat.le_refl _) _).setCell (Nat.le_refl _) _⟩
    · have HK := Lib.hid (fun k => rd_over (m := 64) (k := k) (p := pl) (S := S) (L := L) hlt)
      have hgk' := hgk.out
      obtain ⟨k, rfl⟩ : ∃ k', k = k' + 1 := ⟨k - 1, by omega⟩
      clear hgk'
      obtain ⟨hi1', hi2'⟩ := HR.out.ints
      have HI1 := Lib.hid hi1'
      have HI2 := Lib.hid hi2'
      clear hi1' hi2'
      have hnc := HR.out.hc
      have hmd := HR.out.hd
      cases hq : ((pl : Int) == 2)
      · have H2 := Lib.hid (show pl ≠ 2 from by have := hq; simp at this; omega)
        go_wp2_with fail
        refine bodyPost_ret (v := .tuple #[.agg #[.slice A n c, .slice B m d], .bool false]) (by simp [results, Tryd.results87, go_sem, hc0, hc1]) rfl ?_
        have hc1' := (World.cell?_setCell_other wr ⟨w.heap.size, 0, none⟩ ⟨w.heap.size, 1, none⟩ (.slice A n c) (by simp)).trans hc1
        exact ⟨A, n, c, B, m, d, S, L, false, rfl, ⟨(HI1.out.set hc0 (by simp) _).set hc1' (by simp) _, (HI2.out.set hc0 (by simp) _).set hc1' (by simp) _, hnc, hmd⟩, ⟨(fun h => by cases h), (fun _ S L => by rw [HE.out, HK.out]; intro h; injection h with h; injection h with _ h; injection h with _ h; exact H2.out h), by omega⟩, (hbx.setCell (Nat.le_refl _) _).setCell (Nat.le_refl _) _⟩
      · have H2 := Lib.hid (show pl = 2 from by have := hq; simp at this; omega)
        go_wp2_with fail
        refine bodyPost_ret (v := .tuple #[.agg #[.slice A n c, .slice B m d], .bool true]) (by simp [results, Tryd.results87, go_sem, hc0, hc1]) rfl ?_
        have hc1' := (World.cell?_setCell_other wr ⟨w.heap.size, 0, none⟩ ⟨w.heap.size, 1, none⟩ (.slice A n c) (by simp)).trans hc1
        exact ⟨A, n, c, B, m, d, S, L, true, rfl, ⟨(HI1.out.set hc0 (by simp) _).set hc1' (by simp) _, (HI2.out.set hc0 (by simp) _).set hc1' (by simp) _, hnc, hmd⟩, ⟨(fun _ => by rw [HE.out, HK.out, H2.out]), (fun h => by cases h), by omega⟩, (hbx.setCell (Nat.le_refl _) _).setCell (Nat.le_refl _) _⟩

end Go.Proofs.YtnkmmmagdmnngaaDoor.Wd
