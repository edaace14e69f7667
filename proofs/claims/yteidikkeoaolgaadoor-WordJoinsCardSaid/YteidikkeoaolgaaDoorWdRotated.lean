/-
  rotated of package word.
-/
import Derived.Test.YteidikkeoaolgaaDoorWdClone
namespace Go.Proofs.YteidikkeoaolgaaDoor.Wd
open Go.RowKit

set_option maxRecDepth 100000 in
set_option maxHeartbeats 800000 in
theorem rotated_any (b off n c s : Nat) (xs : List Int) (w : World) (h : Ints w (some ⟨b, off, none⟩) n xs) (hn : n ≤ 100000) (hc : n ≤ c) (hs : s < n) :
    Calls Tryd.prog 100 #[.slice (some ⟨b, off, none⟩) n c, .int .i64 s] w fun e w' => ∃ v, e = .returned v ∧ w'.ownsRow w.heap.size 3 1 v n ((xs.drop s ++ xs.take s).map (Value.int .i64)) ∧ Below w.heap.size w w' := by
  obtain ⟨i0, hi, hz0, hz1, hz2⟩ := info_parts int_info
  have HC := Lib.hid (fun W (hW : Ints W (some ⟨b, off + s, none⟩) (n - s) (xs.drop s)) => clone_any (some ⟨b, off + s, none⟩) (n - s) (c - s) (xs.drop s) W hW (by omega))
  have HD := Lib.hid (show Ints w (some ⟨b, off + s, none⟩) (n - s) (xs.drop s) from by have := h.cut (k := s) (cap := c) (by omega) hc; rw [if_neg (by omega)] at this; simpa [Addr.add_lit] using this)
  have HT := Lib.hid (h.take (k := s) (by omega))
  clear h
  have b1 : (0 : Int) ≤ (s : Int) := by omega
  have b2 : (s : Int) ≤ (n : Int) := by omega
  have b3 : (n : Int) ≤ (c : Int) := by omega
  have b4 : (s : Int) ≤ (c : Int) := by omega
  have b5 : ¬ c = s := by omega
  have b6 : s ≤ c := by omega
  have b7 : s ≤ n := by omega
  go_enter Tryd.func100, Tryd.ntmps100
  go_wp2_with fail
  go_region_held3 (fun _ => True) (trivial)
    (first
      | ((refine step_append_ints _ (by rfl) _ _ _ (by rfl) w.heap.size 3 i0 _ Tryd.underlying22 hi hz0 hz1 hz2 rfl _ (n - s) _ (by rfl) hown _ s c (xs.take s) (by rfl) (HT.out.drew.below hb1) (by omega) hb1.size ?_; intro v2 w2 hown2 hgrow2 hat2))
      | (go_at_call 56; refine (HC.out _ HD.out.drew).mono ?_; rintro e w1 ⟨v, rfl, hown, hb1⟩))
  go_wp2_with fail
  go_ret
  refine ⟨_, rfl, ?_, ?_⟩
  · have := hown2
    rw [← List.map_append, show n - s + s = n by omega] at this
    exact this
  · exact ((Below.refl _ _).drew).trans (hb1.trans (below_own hown hgrow2 hb1.size))

/-- The same, the result written as a slice. -/
theorem rotated_slice (b off n c s : Nat) (xs : List Int) (w : World) (h : Ints w (some ⟨b, off, none⟩) n xs) (hn : n ≤ 100000) (hc : n ≤ c) (hs : s < n) :
    Calls Tryd.prog 100 #[.slice (some ⟨b, off, none⟩) n c, .int .i64 s] w fun e w' => ∃ A' c', e = .returned (.slice A' n c') ∧ Ints w' A' n (xs.drop s ++ xs.take s) ∧ n ≤ c' ∧ Below w.heap.size w w' :=
  (rotated_any b off n c s xs w h hn hc hs).mono fun _ _ ⟨v, he, ho, hb⟩ => by
    obtain ⟨A', c', rfl, hc⟩ := own_slice ho
    exact ⟨A', c', he, Ints.of_own ho, hc, hb⟩

end Go.Proofs.YteidikkeoaolgaaDoor.Wd
