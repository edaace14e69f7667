/-
  Regions in a drawn order, by what holds between their operations: one step for each operation, not one for each order.
-/
import Derived.Test.YtffdbncjndnnaaaWdHeld
namespace Go.Proofs.Ytffdbncjndnnaaa.Wd
open Go

section
variable {P : Program} {ops : Array Oper} {Q : Exit → Act → World → Prop} {md : Region.Mode} {S : World → Prop} {st : List Nat}

theorem open_lt {l : Array Bool} {i : Nat} (h : l.getD i true = false) : ∃ hi : i < l.size, l[i] = false := by
  rcases Nat.lt_or_ge i l.size with h' | h'
  · exact ⟨h', by simpa [h'] using h⟩
  · simp [Array.getElem?_eq_none h'] at h

theorem wpAnyU_inv {I : Array Bool → Act → World → Prop} (hS : ∀ l a w, I l a w → allOpen st l = true → S w)
    (hstep : ∀ l a w i o, I l a w → l.getD i true = false → ops[i]? = some o → (∀ e ∈ o.after, Region.binds md e = true → l.getD e.on false = true) →
      ∀ K : Act → World → Prop, Shut (∀ a' w', I (l.setIfInBounds i true) a' w' → K a' w') → if Region.wanted o (yielded ops a.tmps) = true then Oper.wp P o a w K Q else K (a.put o.dst undef) w)
    (hdone : ∀ l a w, I l a w → Region.ready md ops l = [] → Q .normal a w) :
    ∀ (fuel : Nat) (l : Array Bool) (a : Act) (w : World), (l.toList.countP fun b => !b) ≤ fuel → I l a w → wpAnyU P md ops Q S st fuel l a w
  | 0, l, a, w, hf, h => by
    have hr : Region.ready md ops l = [] := by
      refine List.eq_nil_iff_forall_not_mem.2 fun i hi => ?_
      obtain ⟨hlt, hb⟩ := open_lt (mem_ready.1 hi).1
      have : 0 < l.toList.countP fun b => !b := List.countP_pos_iff.2 ⟨l[i], by simp, by simp [hb]⟩
      omega
    exact ⟨hr, hdone l a w h hr⟩
  | fuel + 1, l, a, w, hf, h => by
    refine ⟨hdone l a w h, fun i hi => ?_⟩
    obtain ⟨h0, o, ho, hall⟩ := mem_ready.1 hi
    obtain ⟨hlt, hb⟩ := open_lt h0
    refine wpOp_step ho fun K hK => hstep l a w i o h h0 ho hall K (fun a' w' h' => hK a' w' ⟨hS _ _ _ h', wpAnyU_inv hS hstep hdone fuel _ a' w' ?_ h'⟩)
    have hpos : 0 < l.toList.countP fun b => !b := List.countP_pos_iff.2 ⟨l[i], by simp, by simp [hb]⟩
    rw [Array.toList_setIfInBounds, List.countP_set (by simpa using hlt)]
    have h1 : l.toList[i]'(by simpa using hlt) = false := by simpa using hb
    rw [h1, if_pos (show (!false) = true from rfl), if_neg (show ¬ (!true) = true from fun h => by cases h)]
    omega

/-- The same, told of the frame in which the region is met. -/
theorem wpAnyU_at {J : Act → Array Bool → Act → World → Prop} {fuel : Nat} {l0 : Array Bool} {a0 : Act} {w0 : World} (hS : ∀ l a w, J a0 l a w → allOpen st l = true → S w)
    (hf : (l0.toList.countP fun b => !b) ≤ fuel) (h : J a0 l0 a0 w0)
    (hdone : ∀ l a w, J a0 l a w → Region.ready md ops l = [] → Q .normal a w)
    (hstep : ∀ l a w i o, J a0 l a w → l.getD i true = false → ops[i]? = some o → (∀ e ∈ o.after, Region.binds md e = true → l.getD e.on false = true) →
      ∀ K : Act → World → Prop, Shut (∀ a' w', J a0 (l.setIfInBounds i true) a' w' → K a' w') → if Region.wanted o (yielded ops a.tmps) = true then Oper.wp P o a w K Q else K (a.put o.dst undef) w) :
    wpAnyU P md ops Q S st fuel l0 a0 w0 := wpAnyU_inv hS hstep hdone fuel l0 a0 w0 hf h

end
end Go.Proofs.Ytffdbncjndnnaaa.Wd
