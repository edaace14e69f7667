/-
  Parse of the reference.
-/
import Derived.Test.YtnkmmmagdmnngaaDoorWdParse
import Derived.Test.YtnkmmmagdmnngaaDoorWdRefValid
namespace Go.Proofs.YtnkmmmagdmnngaaDoor.Wd
open Go.RowKit
set_option linter.unusedVariables false

theorem numOf_thousand (l : List UInt8) (h : ∀ d ∈ l, isDig d = true) : 0 ≤ numOf 1000 l ∧ numOf 1000 l ≤ 1000 := by
  refine ⟨(numFrom_cap l 0 (by omega) h).2, ?_⟩
  rcases List.eq_nil_or_concat l with rfl | ⟨L, c, rfl⟩
  rotate_left
  · rw [List.concat_eq_append]
    unfold numOf
    rw [numFrom_snoc]
    omega
  · show (0 : Int) ≤ 1000; omega
theorem run_snoc {s : ByteArray} {a j : Nat} (h : j < (runAt s a).length) (h' : a + j < s.size) : (runAt s a).take (j + 1) = (runAt s a).take j ++ [s[a + j]] := by
  rw [List.take_succ_eq_append_getElem h]
  congr 2
  rw [← byte_at s a j h']
  exact (List.takeWhile_prefix isDig (l := s.data.toList.drop a)).getElem h
theorem run_num {s : ByteArray} {a j : Nat} (h : j < (runAt s a).length) (h' : a + j < s.size) :
    numOf 1000 ((runAt s a).take (j + 1)) = min (10 * numOf 1000 ((runAt s a).take j) + ((s[a + j].toNat : Int) - 48)) 1000 := by
  rw [run_snoc h h']
  exact numFrom_snoc _ _ _ _
theorem run_bounds (s : ByteArray) (a j : Nat) : 0 ≤ numOf 1000 ((runAt s a).take j) ∧ numOf 1000 ((runAt s a).take j) ≤ 1000 :=
  numOf_thousand _ fun d hd => mem_run d (List.mem_of_mem_take hd)

theorem isDig_not {c : UInt8} (h : isDig c = false) : (c.toNat : Int) < 48 ∨ 57 < (c.toNat : Int) := by
  simp only [isDig, Bool.and_eq_false_iff, decide_eq_false_iff_not] at h
  omega

set_option maxRecDepth 100000 in
set_option maxHeartbeats 4000000 in
theorem refParse_long (s : ByteArray) (w : World) (hs : s.size ≤ 20000) (hl : 16384 < s.size) :
    Calls Tryd.prog 37 #[.string s] w fun e w' => ResT w w' s.data.toList e := by
  have HO := Lib.hid (show OutP s.data.toList [] [] 3 from .inl ⟨by rw [size_list]; exact hl, rfl, rfl, rfl⟩)
  go_enter Tryd.func37, Tryd.ntmps37
  go_wp2_with fail
  refine bodyPost_ret (v := .tuple #[.agg #[.slice none 0 0, .slice none 0 0], .int .i64 3]) (by simp [results, Tryd.results37, go_sem]) rfl ?_
  have hb : Below w.heap.size w (w.alloc (.cells #[.slice none 0 0, .slice none 0 0] 24)) := (Below.refl _ _).alloc (Nat.le_refl _) _
  exact ResT.bad hb 3 HO.out

set_option maxRecDepth 100000 in
set_option maxHeartbeats 8000000 in
theorem refParse_short (s : ByteArray) (w : World) (hl : s.size ≤ 16384) :
    Calls Tryd.prog 37 #[.string s] w fun e w' => ResT w w' s.data.toList e := by
  obtain ⟨i0, hi, hi0, hi1, hi2⟩ := info_parts int_info
  have HL := Lib.hid (show s.data.toList.length ≤ 16384 by rw [size_list]; omega)
  have HSZ := Lib.hid (size_list s)
  go_enter Tryd.func37, Tryd.ntmps37
  go_wp2_with fail
  obtain ⟨W0, hW0⟩ : ∃ W0, w.alloc (.cells #[.slice none 0 0, .slice none 0 0] 24) = W0 := ⟨_, rfl⟩
  obtain ⟨b, hbb⟩ : ∃ b, w.heap.size + 1 = b := ⟨_, rfl⟩
  have hsz0 : W0.heap.size = b := by rw [← hW0, ← hbb]; simp
  have HS0 := Lib.hid hsz0
  have hbW0 : Below w.heap.size w W0 := by rw [← hW0]; exact (Below.refl _ _).alloc (Nat.le_refl _) _
  have r0 : W0.cell? ⟨w.heap.size, 0, none⟩ = some (.slice none 0 0) := by rw [← hW0, box_last]; rfl
  have r1 : W0.cell? ⟨w.heap.size, 1, none⟩ = some (.slice none 0 0) := by rw [← hW0, box_last]; rfl
  have k0 : W0.frozen? ⟨w.heap.size, 0, none⟩ = false := by rw [← hW0, box_last_free]
  have k1 : W0.frozen? ⟨w.heap.size, 1, none⟩ = false := by rw [← hW0, box_last_free]
  have hst := RdS.start W0
  have hb0 : Below b W0 (W0.alloc (.cells #[.slice none 0 0, .slice none 0 0] 24)) := (Below.refl _ _).alloc (by omega) _
  rw [hsz0] at hst
  have hwb : w.heap.size < b := by omega
  rw [hW0, hbb]
  have HWB := Lib.hid hbb
  clear hW0 hbb hsz0
  go_loopg [5, 6] s.size (fun g p i wx => ∃ (pl a k : Nat) (A : Option Addr) (n c : Nat) (B : Option Addr) (m d : Nat) (S L : List Int), p = .int .i64 pl ∧ i = .int .i64 a ∧ pl ≤ 2 ∧ a + g = s.size ∧ Hid (g < k) ∧
    Hid (RdS b wx pl A n c B m d S L) ∧ n + m ≤ a ∧ Hid (rd 1000 (s.size + 1) s.data.toList 0 [] [] = rd 1000 k (s.data.toList.drop a) pl S L) ∧ Below b W0 wx)
  case atStart => exact ⟨0, 0, s.size + 1, none, 0, 0, none, 0, 0, [], [], rfl, rfl, by omega, by omega, by show s.size < s.size + 1; omega, hst, by omega, by simp [Hid], hb0⟩
  case round =>
    obtain ⟨pl, a, k, A, n, c, B, m, d, S, L, rfl, rfl, hpl, hag, hgk, HR, hnm, HE, hbx⟩ := hrel
    clear hst hb0
    have hc0 := HR.out.c0
    have hc1 := HR.out.c1
    have hf0 := HR.out.f0
    have hf1 := HR.out.f1
    have hsz := HR.out.size
    have g0 := (hbx.cell (p := ⟨w.heap.size, 0, none⟩) hwb).trans r0
    have g1 := (hbx.cell (p := ⟨w.heap.size, 1, none⟩) hwb).trans r1
    have j0 := (hbx.frozen (p := ⟨w.heap.size, 0, none⟩) hwb).trans k0
    have j1 := (hbx.frozen (p := ⟨w.heap.size, 1, none⟩) hwb).trans k1
    have hwz : w.heap.size < wr.heap.size := by omega
    have hbxw : Below w.heap.size w wr := hbW0.trans (hbx.mono (by omega))
    clear r0 r1 k0 k1
    by_cases hlt : a < s.size
    · obtain ⟨k, rfl⟩ : ∃ k', k = k' + 1 := ⟨k - 1, by have := hgk.out; omega⟩
      have hp3 : pl = 0 ∨ pl = 1 ∨ pl = 2 := by omega
      by_cases h32 : s[a].toNat = 32
      · have e1 : ((s[a].toNat : Int) == 32) = true := by simp; omega
        have HK := Lib.hid (rd_skip (m := 1000) (k := k) (p := pl) (S := S) (L := L) hlt h32)
        clear h32
        go_wp2_with fail
        go_roundg (gk - 1)
        case measure => omega
        case rel => exact ⟨pl, a + 1, k, A, n, c, B, m, d, S, L, rfl, by go_num, hpl, by omega, by have := hgk.out; show gk - 1 < k; omega, HR, by omega, HE.out.trans HK.out, hbx⟩
      · by_cases h40 : s[a].toNat = 40
        · have hd : isDig s[a] = false := by simp [isDig]; omega
          have e1 : ((s[a].toNat : Int) == 32) = false := by simp; omega
          have e2 : ((s[a].toNat : Int) == 40) = true := by simp; omega
          have e3 : ((s[a].toNat : Int) == 41) = false := by simp; omega
          have hn48 : (s[a].toNat : Int) < 48 := by omega
          rcases hp3 with h0 | h0 | h0
          · have q0 : ((pl : Int) == 0) = true := by simp; omega
            have q1 : ((pl : Int) == 1) = false := by simp; omega
            have HK := Lib.hid (rd_par (m := 1000) (k := k) (p := pl) (S := S) (L := L) hlt (.inl ⟨h40, h0⟩))
            have HR1 := Lib.hid (show RdS b wr (pl + 1) A n c B m d S L by have := HR.out; subst h0; exact this.opened)
            have H0 := Lib.hid h0
            clear h32 h40 h0
            go_wp2_with fail
            go_roundg (gk - 1)
            case measure => omega
            case rel => exact ⟨pl + 1, a + 1, k, A, n, c, B, m, d, S, L, by go_num, by go_num, by have := H0.out; omega, by omega, by have := hgk.out; show gk - 1 < k; omega, HR1, by omega, HE.out.trans HK.out, hbx⟩
          · have q0 : ((pl : Int) == 0) = false := by simp; omega
            have q1 : ((pl : Int) == 1) = true := by simp; omega
            have HK := Lib.hid (rd_stop (m := 1000) (k := k) (p := pl) (S := S) (L := L) hlt (by omega) (by omega) (by rw [hd]; simp) (by rw [hd]; simp))
            have HO := Lib.hid (show OutP s.data.toList [] [] 4 from .inr ⟨HL.out, .inr ⟨parsed_not (by rw [HSZ.out, HE.out, HK.out]; intro S L h; cases h), rfl, rfl, rfl⟩⟩)
            clear h32 h40 h0
            go_wp2_with fail
            all_goals
              refine bodyPost_ret (v := .tuple #[.agg #[.slice none 0 0, .slice none 0 0], .int .i64 4]) (by simp [results, Tryd.results37, go_sem, g0, g1]) rfl ?_
              exact ResT.bad ((hbxw.setCell (Nat.le_refl _) _).setCell (Nat.le_refl _) _) 4 HO.out
          · have q0 : ((pl : Int) == 0) = false := by simp; omega
            have q1 : ((pl : Int) == 1) = false := by simp; omega
            have HK := Lib.hid (rd_stop (m := 1000) (k := k) (p := pl) (S := S) (L := L) hlt (by omega) (by omega) (by rw [hd]; simp) (by rw [hd]; simp))
            have HO := Lib.hid (show OutP s.data.toList [] [] 4 from .inr ⟨HL.out, .inr ⟨parsed_not (by rw [HSZ.out, HE.out, HK.out]; intro S L h; cases h), rfl, rfl, rfl⟩⟩)
            clear h32 h40 h0
            go_wp2_with fail
            all_goals
              refine bodyPost_ret (v := .tuple #[.agg #[.slice none 0 0, .slice none 0 0], .int .i64 4]) (by simp [results, Tryd.results37, go_sem, g0, g1]) rfl ?_
              exact ResT.bad ((hbxw.setCell (Nat.le_refl _) _).setCell (Nat.le_refl _) _) 4 HO.out
        by_cases h41 : s[a].toNat = 41
        · have hd : isDig s[a] = false := by simp [isDig]; omega
          have e1 : ((s[a].toNat : Int) == 32) = false := by simp; omega
          have e2 : ((s[a].toNat : Int) == 40) = false := by simp; omega
          have e3 : ((s[a].toNat : Int) == 41) = true := by simp; omega
          have hn48 : (s[a].toNat : Int) < 48 := by omega
          rcases hp3 with h0 | h0 | h0
          · have q0 : ((pl : Int) == 0) = true := by simp; omega
            have q1 : ((pl : Int) == 1) = false := by simp; omega
            have HK := Lib.hid (rd_stop (m := 1000) (k := k) (p := pl) (S := S) (L := L) hlt (by omega) (by omega) (by rw [hd]; simp) (by rw [hd]; simp))
            have HO := Lib.hid (show OutP s.data.toList [] [] 4 from .inr ⟨HL.out, .inr ⟨parsed_not (by rw [HSZ.out, HE.out, HK.out]; intro S L h; cases h), rfl, rfl, rfl⟩⟩)
            clear h32 h40 h41 h0
            go_wp2_with fail
            all_goals
              refine bodyPost_ret (v := .tuple #[.agg #[.slice none 0 0, .slice none 0 0], .int .i64 4]) (by simp [results, Tryd.results37, go_sem, g0, g1]) rfl ?_
              exact ResT.bad ((hbxw.setCell (Nat.le_refl _) _).setCell (Nat.le_refl _) _) 4 HO.out
          · have q0 : ((pl : Int) == 0) = false := by simp; omega
            have q1 : ((pl : Int) == 1) = true := by simp; omega
            have HK := Lib.hid (rd_par (m := 1000) (k := k) (p := pl) (S := S) (L := L) hlt (.inr ⟨h41, h0⟩))
            have HR1 := Lib.hid (show RdS b wr (pl + 1) A n c B m d S L by have := HR.out; subst h0; exact this.closed)
            have H0 := Lib.hid h0
            clear h32 h40 h41 h0
            go_wp2_with fail
            go_roundg (gk - 1)
            case measure => omega
            case rel => exact ⟨pl + 1, a + 1, k, A, n, c, B, m, d, S, L, by go_num, by go_num, by have := H0.out; omega, by omega, by have := hgk.out; show gk - 1 < k; omega, HR1, by omega, HE.out.trans HK.out, hbx⟩
          · have q0 : ((pl : Int) == 0) = false := by simp; omega
            have q1 : ((pl : Int) == 1) = false := by simp; omega
            have HK := Lib.hid (rd_stop (m := 1000) (k := k) (p := pl) (S := S) (L := L) hlt (by omega) (by omega) (by rw [hd]; simp) (by rw [hd]; simp))
            have HO := Lib.hid (show OutP s.data.toList [] [] 4 from .inr ⟨HL.out, .inr ⟨parsed_not (by rw [HSZ.out, HE.out, HK.out]; intro S L h; cases h), rfl, rfl, rfl⟩⟩)
            clear h32 h40 h41 h0
            go_wp2_with fail
            all_goals
              refine bodyPost_ret (v := .tuple #[.agg #[.slice none 0 0, .slice none 0 0], .int .i64 4]) (by simp [results, Tryd.results37, go_sem, g0, g1]) rfl ?_
              exact ResT.bad ((hbxw.setCell (Nat.le_refl _) _).setCell (Nat.le_refl _) _) 4 HO.out
        cases hd : isDig s[a]
        · have e1 : ((s[a].toNat : Int) == 32) = false := by simp; omega
          have e2 : ((s[a].toNat : Int) == 40) = false := by simp; omega
          have e3 : ((s[a].toNat : Int) == 41) = false := by simp; omega
          have hnd := isDig_not hd
          rcases hnd with hnd | hnd
          · have HK := Lib.hid (rd_stop (m := 1000) (k := k) (p := pl) (S := S) (L := L) hlt (by omega) (by omega) (by rw [hd]; simp) (by rw [hd]; simp))
            have HO := Lib.hid (show OutP s.data.toList [] [] 4 from .inr ⟨HL.out, .inr ⟨parsed_not (by rw [HSZ.out, HE.out, HK.out]; intro S L h; cases h), rfl, rfl, rfl⟩⟩)
            clear h32 h40 h41
            go_wp2_with fail
            all_goals
              refine bodyPost_ret (v := .tuple #[.agg #[.slice none 0 0, .slice none 0 0], .int .i64 4]) (by simp [results, Tryd.results37, go_sem, g0, g1]) rfl ?_
              exact ResT.bad ((hbxw.setCell (Nat.le_refl _) _).setCell (Nat.le_refl _) _) 4 HO.out
          · have HK := Lib.hid (rd_stop (m := 1000) (k := k) (p := pl) (S := S) (L := L) hlt (by omega) (by omega) (by rw [hd]; simp) (by rw [hd]; simp))
            have HO := Lib.hid (show OutP s.data.toList [] [] 4 from .inr ⟨HL.out, .inr ⟨parsed_not (by rw [HSZ.out, HE.out, HK.out]; intro S L h; cases h), rfl, rfl, rfl⟩⟩)
            clear h32 h40 h41
            go_wp2_with fail
            all_goals
              refine bodyPost_ret (v := .tuple #[.agg #[.slice none 0 0, .slice none 0 0], .int .i64 4]) (by simp [results, Tryd.results37, go_sem, g0, g1]) rfl ?_
              exact ResT.bad ((hbxw.setCell (Nat.le_refl _) _).setCell (Nat.le_refl _) _) 4 HO.out
        · have e1 : ((s[a].toNat : Int) == 32) = false := by simp; omega
          have e2 : ((s[a].toNat : Int) == 40) = false := by simp; omega
          have e3 : ((s[a].toNat : Int) == 41) = false := by simp; omega
          have hdd := isDig_iff.1 hd
          have hd1 := hdd.1
          have hd2 := hdd.2
          by_cases h2 : pl = 2
          · have q0 : ((pl : Int) == 0) = false := by simp; omega
            have q1 : ((pl : Int) == 1) = false := by simp; omega
            have hp2 : 2 ≤ pl := by omega
            have HK := Lib.hid (rd_stop (m := 1000) (k := k) (p := pl) (S := S) (L := L) hlt (by omega) (by omega) (by rw [hd]; simp; omega) (by rw [hd]; simp; omega))
            have HO := Lib.hid (show OutP s.data.toList [] [] 4 from .inr ⟨HL.out, .inr ⟨parsed_not (by rw [HSZ.out, HE.out, HK.out]; intro S L h; cases h), rfl, rfl, rfl⟩⟩)
            clear h32 h40 h41 h2 hdd
            go_wp2_with fail
            all_goals
              refine bodyPost_ret (v := .tuple #[.agg #[.slice none 0 0, .slice none 0 0], .int .i64 4]) (by simp [results, Tryd.results37, go_sem, g0, g1]) rfl ?_
              exact ResT.bad ((hbxw.setCell (Nat.le_refl _) _).setCell (Nat.le_refl _) _) 4 HO.out
          have hp2 : pl < 2 := by omega
          have hq1 := runAt_pos hlt hd
          have hq2 : a + (runAt s a).length ≤ s.size := by have := runAt_le s a; omega
          have H1 := Lib.hid (fun j h h' => runAt_lt (s := s) (k := a) (j := j) h h')
          have H2 := Lib.hid (fun h => runAt_end (s := s) (k := a) h)
          have H3 := Lib.hid (fun j h h' => run_num (s := s) (a := a) (j := j) h h')
          have H4 := Lib.hid (fun j => run_bounds s a j)
          have HQ := Lib.hid (show (runAt s a).take (runAt s a).length = runAt s a from List.take_of_length_le (Nat.le_refl _))
          have HK0 := Lib.hid (fun (h0 : pl = 0) => show rd 1000 (k + 1) (s.data.toList.drop a) pl S L = rd 1000 k (s.data.toList.drop (a + (runAt s a).length)) pl (S ++ [numOf 1000 (runAt s a)]) L by subst h0; exact rd_dig0 hlt hd)
          have HK1 := Lib.hid (fun (h0 : pl = 1) => show rd 1000 (k + 1) (s.data.toList.drop a) pl S L = rd 1000 k (s.data.toList.drop (a + (runAt s a).length)) pl S (L ++ [numOf 1000 (runAt s a)]) by subst h0; exact rd_dig1 hlt hd)
          generalize hqq : (runAt s a).length = q at *
          generalize hru : runAt s a = ru at *
          clear hqq hru h32 h40 h41 h2 hdd hp3
          go_wp2_with fail
          go_loop [6, 8] (fun i v => ∃ j : Nat, j ≤ q ∧ i = .int .i64 ((a + j : Nat) : Int) ∧ v = .int .i64 (numOf 1000 (ru.take j))) (fun i v => s.size - (intOf i).toNat)
          case atStart => exact ⟨0, by omega, rfl, rfl⟩
          case round =>
            obtain ⟨j, hj, rfl, rfl⟩ := hrel
            have hb4 := H4.out j
            by_cases hjq : j < q
            · have hlt2 : a + j < s.size := by omega
              have hdj := isDig_iff.1 (H1.out j hjq hlt2)
              have hdj1 := hdj.1
              have hdj2 := hdj.2
              have HN := Lib.hid (H3.out j hjq hlt2)
              clear hdj
              generalize hv : numOf 1000 (ru.take j) = v at *
              clear hv
              generalize hen : a + j = en at *
              have HEN := Lib.hid hen
              clear hen
              go_wp2_with fail
              go_round
              case rel => exact ⟨j + 1, by omega, by rw [← HEN.out]; go_num, by rw [HN.out]; congr 1; omega⟩
              case measure => simp [intOf]; omega
            · obtain rfl : j = q := by omega
              rw [HQ.out] at hb4 ⊢
              have hcase : s.size ≤ a + j ∨ (∃ h : a + j < s.size, (s[a + j].toNat : Int) < 48) ∨ (∃ h : a + j < s.size, 57 < (s[a + j].toNat : Int)) := by
                by_cases hx : a + j < s.size
                · rcases isDig_not (H2.out hx) with h | h
                  · exact .inr (.inl ⟨hx, h⟩)
                  · exact .inr (.inr ⟨hx, h⟩)
                · exact .inl (by omega)
              have hR0 := HR.out
              have hen2 : a < a + j ∧ a + j ≤ s.size := by omega
              generalize hv : numOf 1000 ru = v at *
              clear hv H1 H2 H3 H4 HQ
              generalize hen : a + j = en at *
              clear hen
              by_cases h0 : pl = 0
              · have HK := Lib.hid (HK0.out h0)
                have q0 : ((pl : Int) == 0) = true := by simp; omega
                have HPZ := Lib.hid h0
                rw [h0] at hR0
                have HR0 := Lib.hid hR0
                clear h0 hR0 HK0 HK1
                rcases hcase with hx | ⟨hx, hx2⟩ | ⟨hx, hx2⟩
                all_goals
                  go_wp2_with (at_builtin; refine wpList_append_ints _ (by rfl) _ _ 22 (by rfl) (b + 1) 3 i0 _ Tryd.underlying22 hi hi0 hi1 hi2 rfl (.slice A n c) n (S.map (Value.int .i64)) (by rfl) ((HR0.out.zero rfl).1.alloc _) (some ⟨wr.heap.size, 0, none⟩) 1 1 [v] (by rfl) (ints_new wr [v] _) (by omega) (by simp; omega) ?_)
                  intro v' w2 hown hgrow hat
                  obtain ⟨A', c', hv', hcc'⟩ := own_slice hown
                  subst hv'
                  have HPUT := Lib.hid (HR0.out.put0 ((Below.refl _ _).alloc (Nat.le_refl _) _) hown hgrow)
                  have hbel : Below (b + 1) _ w2 := below_own ((HR0.out.zero rfl).1.alloc _) hgrow (by simp; omega)
                  have t2 : w2.frozen? ⟨b, 0, none⟩ = false := (hbel.frozen (p := ⟨b, 0, none⟩) (Nat.lt_succ_self _)).trans ((HR0.out.below ((Below.refl _ _).alloc (Nat.le_refl _) _)).f0)
                  have t0 : w2.cell? ⟨b, 0, none⟩ = some (.slice A n c) := (hbel.cell (p := ⟨b, 0, none⟩) (Nat.lt_succ_self _)).trans ((HR0.out.below ((Below.refl _ _).alloc (Nat.le_refl _) _)).c0)
                  clear hown hgrow hat hbel
                  go_wp2_with fail
                  go_roundg (s.size - en)
                  case measure => omega
                  case rel => exact ⟨pl, en, k, A', n + 1, c', B, m, d, S ++ [v], L, rfl, rfl, hpl, by omega, by have := hgk.out; show s.size - en < k; omega, by have e := HPZ.out; subst e; exact HPUT.out.1, by omega, HE.out.trans HK.out, hbx.trans HPUT.out.2⟩
              · have h1 : pl = 1 := by omega
                have HK := Lib.hid (HK1.out h1)
                have q0 : ((pl : Int) == 0) = false := by simp; omega
                have HPZ := Lib.hid h1
                rw [h1] at hR0
                obtain ⟨B1, hB1, hB2, hI, hrow⟩ := hR0.more (by decide)
                have HI := Lib.hid hI
                have HROW := Lib.hid hrow
                have HR0 := Lib.hid hR0
                clear h0 h1 hR0 HK0 HK1 hI hrow
                rcases hcase with hx | ⟨hx, hx2⟩ | ⟨hx, hx2⟩
                all_goals
                  go_wp2_with (at_builtin; refine wpList_append_ints _ (by rfl) _ _ 22 (by rfl) B1 3 i0 _ Tryd.underlying22 hi hi0 hi1 hi2 rfl (.slice B m d) m (L.map (Value.int .i64)) (by rfl) (HROW.out.alloc _) (some ⟨wr.heap.size, 0, none⟩) 1 1 [v] (by rfl) (ints_new wr [v] _) (by omega) (by simp; omega) ?_)
                  intro v' w2 hown hgrow hat
                  obtain ⟨B', d', hv', hcc'⟩ := own_slice hown
                  subst hv'
                  have HPUT := Lib.hid (HR0.out.put1 hB1 hB2 HI.out HROW.out ((Below.refl _ _).alloc (Nat.le_refl _) _) hown hgrow)
                  have hbel : Below B1 _ w2 := below_own (HROW.out.alloc _) hgrow (by simp; omega)
                  have t2 : w2.frozen? ⟨b, 1, none⟩ = false := (hbel.frozen (p := ⟨b, 1, none⟩) hB1).trans ((HR0.out.below ((Below.refl _ _).alloc (Nat.le_refl _) _)).f1)
                  have t0 : w2.cell? ⟨b, 1, none⟩ = some (.slice B m d) := (hbel.cell (p := ⟨b, 1, none⟩) hB1).trans ((HR0.out.below ((Below.refl _ _).alloc (Nat.le_refl _) _)).c1)
                  clear hown hgrow hat hbel
                  go_wp2_with fail
                  go_roundg (s.size - en)
                  case measure => omega
                  case rel => exact ⟨pl, en, k, A, n, c, B', m + 1, d', S, L ++ [v], rfl, rfl, hpl, by omega, by have := hgk.out; show s.size - en < k; omega, by have e := HPZ.out; subst e; exact HPUT.out.1, by omega, HE.out.trans HK.out, hbx.trans HPUT.out.2⟩
    · have HK := Lib.hid (fun k => rd_over (m := 1000) (k := k) (p := pl) (S := S) (L := L) hlt)
      have hgk' := hgk.out
      obtain ⟨k, rfl⟩ : ∃ k', k = k' + 1 := ⟨k - 1, by omega⟩
      clear hgk'
      obtain ⟨hi1', hi2'⟩ := HR.out.ints
      have HI1 := Lib.hid hi1'
      have HI2 := Lib.hid hi2'
      have hnc := HR.out.hc
      have hmd := HR.out.hd
      have HXY := Lib.hid (show S.length ≤ 100000 ∧ L.length ≤ 100000 by have := HR.out.hn; have := HR.out.hm; omega)
      clear hi1' hi2'
      cases hq : ((pl : Int) != 2)
      · have H2 := Lib.hid (show pl = 2 from by have := hq; simp at this; omega)
        have HP := Lib.hid (parsed_of (m := 1000) (by rw [HSZ.out, HE.out, HK.out, H2.out]))
        go_wp2_with fail
        refine (is_any A B n c m d S L _ HI1.out HI2.out (by omega) (by omega)).mono ?_
        rintro e w2 ⟨rfl, hb2⟩
        have s0 := (hb2.cell (p := ⟨w.heap.size, 0, none⟩) hwz).trans g0
        have s1 := (hb2.cell (p := ⟨w.heap.size, 1, none⟩) hwz).trans g1
        have l0 := (hb2.frozen (p := ⟨w.heap.size, 0, none⟩) hwz).trans j0
        have l1 := (hb2.frozen (p := ⟨w.heap.size, 1, none⟩) hwz).trans j1
        have t0 := (hb2.cell (p := ⟨b, 0, none⟩) hsz).trans hc0
        have t1 := (hb2.cell (p := ⟨b, 1, none⟩) hsz).trans hc1
        have hwz2 : w.heap.size < w2.heap.size := Nat.lt_of_lt_of_le hwz hb2.size
        have hbz2 : b < w2.heap.size := Nat.lt_of_lt_of_le hsz hb2.size
        have hA2 := Lib.hid (HI1.out.below hb2)
        have hB2 := Lib.hid (HI2.out.below hb2)
        have hbw2 := hbxw.trans (hb2.mono hbxw.size)
        clear hb2
        cases hv : validB 6 S L
        · have HO := Lib.hid (show OutP s.data.toList [] [] 4 from .inr ⟨HL.out, .inr ⟨by rw [HP.out, if_neg (by rw [hv]; decide)], rfl, rfl, rfl⟩⟩)
          go_wp2_with fail
          refine bodyPost_ret (v := .tuple #[.agg #[.slice none 0 0, .slice none 0 0], .int .i64 4]) (by simp [results, Tryd.results37, go_sem, s0, s1]) rfl ?_
          exact ResT.bad ((hbw2.setCell (Nat.le_refl _) _).setCell (Nat.le_refl _) _) 4 HO.out
        · have HO := Lib.hid (show OutP s.data.toList S L 0 from .inr ⟨HL.out, .inl ⟨by rw [HP.out, if_pos hv], rfl⟩⟩)
          go_wp2_with fail
          refine bodyPost_ret (v := .tuple #[.agg #[.slice A n c, .slice B m d], .int .i64 0]) (by simp [results, Tryd.results37, go_sem, s0, s1]) rfl ?_
          have s1' := (World.cell?_setCell_other w2 ⟨w.heap.size, 0, none⟩ ⟨w.heap.size, 1, none⟩ (.slice A n c) (by simp)).trans s1
          exact ⟨A, n, c, B, m, d, S, L, 0, rfl, ⟨(hA2.out.set s0 (by simp) _).set s1' (by simp) _, (hB2.out.set s0 (by simp) _).set s1' (by simp) _, hnc, hmd⟩, ⟨HO.out, HXY.out⟩, (hbw2.setCell (Nat.le_refl _) _).setCell (Nat.le_refl _) _⟩
      · have H2 := Lib.hid (show pl ≠ 2 from by have := hq; simp at this; omega)
        have HO := Lib.hid (show OutP s.data.toList [] [] 4 from .inr ⟨HL.out, .inr ⟨parsed_not (by rw [HSZ.out, HE.out, HK.out]; intro S L h; injection h with h; injection h with _ h; injection h with _ h; exact H2.out h), rfl, rfl, rfl⟩⟩)
        go_wp2_with fail
        refine bodyPost_ret (v := .tuple #[.agg #[.slice none 0 0, .slice none 0 0], .int .i64 4]) (by simp [results, Tryd.results37, go_sem, g0, g1]) rfl ?_
        exact ResT.bad ((hbxw.setCell (Nat.le_refl _) _).setCell (Nat.le_refl _) _) 4 HO.out

theorem refParse_any (s : ByteArray) (w : World) (hs : s.size ≤ 20000) :
    Calls Tryd.prog 37 #[.string s] w fun e w' => ResT w w' s.data.toList e := by
  by_cases hl : 16384 < s.size
  · exact refParse_long s w hs hl
  · exact refParse_short s w (by omega)

end Go.Proofs.YtnkmmmagdmnngaaDoor.Wd
