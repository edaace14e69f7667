/-
  period of package word: the least period of a list.
-/
import Derived.Test.YteidikkeoaolgaaDoorWdLeaf
namespace Go.Proofs.YteidikkeoaolgaaDoor.Wd
open Go.RowKit

theorem per_test {xs : List Int} {p : Nat} (h : ((xs.length : Int) % (p : Int) != 0) = false) : xs.length % p = 0 := by
  have h2 : ((xs.length : Int) % (p : Int)) = 0 := by simpa using h
  omega

theorem per_test' {n p : Nat} (h : ((n : Int) % (p : Int) != 0) = true) : ¬ n % p = 0 := by
  have h2 : ¬ ((n : Int) % (p : Int)) = 0 := by simpa using h
  omega
theorem per_more {xs : List Int} {p j : Nat} (h : ∀ t, p ≤ t → t < j → xs.getD t 0 = xs.getD (t - p) 0) (he : xs.getD j 0 = xs.getD (j - p) 0) :
    ∀ t, p ≤ t → t < j + 1 → xs.getD t 0 = xs.getD (t - p) 0 := by
  intro t h1 h2
  rcases Nat.lt_or_ge t j with hl | hg
  · exact h t h1 hl
  · obtain rfl : t = j := by omega
    exact he
theorem per_next {xs : List Int} {p : Nat} (h : ∀ q, 1 ≤ q → q < p → ¬ Per xs q) (hp : ¬ Per xs p) : ∀ q, 1 ≤ q → q < p + 1 → ¬ Per xs q := by
  intro q h1 h2
  rcases Nat.lt_or_ge q p with hl | hg
  · exact h q h1 hl
  · obtain rfl : q = p := by omega
    exact hp

set_option maxHeartbeats 800000 in
theorem period_any (A : Option Addr) (n c : Nat) (xs : List Int) (w : World) (h : Ints w A n xs) (hn : n ≤ 100000) (hn0 : 0 < n) :
    Calls Tryd.prog 99 #[.slice A n c] w fun e w' => ∃ p d : Nat, e = .returned (.int .i64 p) ∧ Least xs p ∧ w' = w.drewN d := by
  have hx := h.1
  obtain ⟨b, off, rfl, hb, hc⟩ := h.at_ hn0
  have HC := Lib.hid hc
  have HX := Lib.hid hx
  clear hc h
  go_enter Tryd.func99, Tryd.ntmps99
  go_wp2_with fail
  go_step3
  go_wp2
  go_step3
  go_wp2
  go_loopg [3, 4] n (fun g i _ wx => ∃ p d : Nat, p + g = n + 1 ∧ 1 ≤ p ∧ p ≤ n ∧ i = .int .i64 p ∧ wx = w.drewN d ∧ Hid (∀ q, 1 ≤ q → q < p → ¬ Per xs q))
  case atStart => exact ⟨1, 0, by omega, by omega, by omega, rfl, rfl, fun q h1 h2 => by omega⟩
  case round =>
    obtain ⟨p, d, hpg, hp1, hpn, rfl, rfl, HL⟩ := hrel
    cases gk with
    | zero => exfalso; omega
    | succ g =>
    by_cases hlt : p < n
    · cases hd : ((n : Int) % (p : Int) != 0)
      · have HD := Lib.hid (show xs.length % p = 0 from per_test (by rw [hx]; exact hd))
        go_wp2_with fail
        clear hd
        go_loopg [4] (n - p) (fun g2 i wy => ∃ j d : Nat, j + g2 = n ∧ p ≤ j ∧ j ≤ n ∧ i = .int .i64 j ∧ wy = w.drewN d ∧ Hid (∀ t, p ≤ t → t < j → xs.getD t 0 = xs.getD (t - p) 0))
        case atStart => exact ⟨p, d, by omega, by omega, by omega, rfl, rfl, fun t h1 h2 => by omega⟩
        case round =>
          obtain ⟨j, d2, hjg, hj1, hjn, rfl, rfl, HI⟩ := hrel
          by_cases hjl : j < n
          · have c1 := HC.out j hjl
            have c2 := HC.out (j - p) (by omega)
            cases gk with
            | zero => exfalso; omega
            | succ g2 =>
            generalize hva : xs.getD j 0 = va at c1
            generalize hvb : xs.getD (j - p) 0 = vb at c2
            have HA := Lib.hid hva
            have HB := Lib.hid hvb
            clear hva hvb
            cases he : (va != vb)
            · have HE := Lib.hid (show va = vb by simpa using he)
              go_wp2_with fail
              go_quiet (fail)
              go_wp2_with fail
              go_roundg g2
              case measure => omega
              case rel => exact ⟨j + 1, _, by omega, by omega, by omega, by go_num, rfl, per_more HI.out (by rw [HA.out, HB.out, HE.out])⟩
            · have HE := Lib.hid (show ¬ va = vb by simpa using he)
              go_wp2_with fail
              go_quiet (fail)
              go_wp2_with fail
              go_roundg g
              case measure => omega
              case rel => exact ⟨p + 1, _, by omega, by omega, by omega, by go_num, rfl, per_next HL.out (fun hq => HE.out (by rw [← HA.out, ← HB.out]; exact hq.2 j (by omega) (by omega)))⟩
          · go_wp2_with fail
            rw [Exit.noGoto_ret]
            go_ret
            exact ⟨p, _, rfl, ⟨hp1, by omega, ⟨HD.out, fun i h1 h2 => HI.out i h1 (by omega)⟩, HL.out⟩, rfl⟩
      · have HD := Lib.hid (per_test' hd)
        go_wp2_with fail
        go_roundg g
        case measure => omega
        case rel => exact ⟨p + 1, d, by omega, by omega, by omega, by go_num, rfl, per_next HL.out (fun hq => HD.out (by rw [← hx]; exact hq.1))⟩
    · go_wp2_with fail
      rw [Exit.noGoto_ret]
      go_ret
      obtain rfl : p = n := by omega
      exact ⟨p, d, rfl, ⟨hp1, by omega, ⟨by rw [hx]; exact Nat.mod_self p, fun i h1 h2 => by omega⟩, HL.out⟩, rfl⟩

end Go.Proofs.YteidikkeoaolgaaDoor.Wd
