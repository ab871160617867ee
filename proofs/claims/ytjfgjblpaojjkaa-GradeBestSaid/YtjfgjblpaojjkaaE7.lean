/- The walk of GradeBest. -/
import Derived.Test.YtjfgjblpaojjkaaE5
namespace Go.Proofs.Ytjfgjblpaojjkaa
open Go.RowKit

set_option maxHeartbeats 400000 in
theorem best_walk (v : Value) (xs : List Int) (hx : xs.length ≤ maxLen) (w : World) (h : ReadsI w v xs) :
    Calls Try.prog 4 #[v] w fun e w' => e = .returned (.bool true) ∧ Below w.heap.size w w' := by
  have HNB := Lib.hid (show bestN [] = 8 by decide)
  have H1 := Lib.hid h
  obtain ⟨b1, hb1⟩ : ∃ b, bestN xs = b := ⟨_, rfl⟩
  have HB1 := Lib.hid hb1
  obtain ⟨b2, hb2⟩ : ∃ b, bestN (xs.take 40) = b := ⟨_, rfl⟩
  have HB2 := Lib.hid hb2
  have HX := Lib.hid hx
  clear hb1 hb2 hx
  obtain ⟨p, c, rfl, hc, hr⟩ := h
  by_cases h40 : 40 < xs.length
  · have H2 : Hid (ReadsI w (.slice p 40 c) (xs.take 40)) := by
      have hl : (xs.take 40).length = 40 := by rw [List.length_take]; omega
      refine ⟨p, c, by rw [hl], by omega, .inr ?_⟩
      obtain ⟨b, off, hp, hb, hc⟩ := hr.resolve_left (fun e => by rw [e] at h40; simp at h40)
      refine ⟨b, off, hp, hb, fun j hj => ?_⟩
      rw [hc j (by omega), List.getD_eq_getElem?_getD, List.getD_eq_getElem?_getD, List.getElem?_take_of_lt (by omega)]
    have HL2 := Lib.hid (show (xs.take 40).length ≤ maxLen by rw [List.length_take]; unfold maxLen; omega)
    have hx := HX.out
    unfold maxLen at hx
    clear hr
    go_enter Try.func4, Try.ntmps4
    go_wp2_with (first
      | (go_at_call 17; with_reducible refine (Best_any _ _ HL2.out _ H2.out).mono ?_; rintro e w2 ⟨rfl, rfl⟩; rw [HB2.out])
      | (go_at_call 17; with_reducible refine (Best_any _ [] (by decide) _ (ReadsI.nil _)).mono ?_; rintro e w2 ⟨rfl, rfl⟩; rw [HNB.out])
      | (go_at_call 18; with_reducible refine (RBest_any _ _ HL2.out _ H2.out).mono ?_; rintro e w2 ⟨rfl, rfl⟩; rw [HB2.out])
      | (go_at_call 16; refine (awake_any _).mono ?_; rintro e w9 ⟨rfl, hb9⟩))
    go_ret
    exact ⟨rfl, hb9⟩
  · clear hr
    go_enter Try.func4, Try.ntmps4
    go_wp2_with (first
      | (go_at_call 17; with_reducible refine (Best_any _ _ HX.out _ H1.out).mono ?_; rintro e w2 ⟨rfl, rfl⟩; rw [HB1.out])
      | (go_at_call 17; with_reducible refine (Best_any _ [] (by decide) _ (ReadsI.nil _)).mono ?_; rintro e w2 ⟨rfl, rfl⟩; rw [HNB.out])
      | (go_at_call 18; with_reducible refine (RBest_any _ _ HX.out _ H1.out).mono ?_; rintro e w2 ⟨rfl, rfl⟩; rw [HB1.out])
      | (go_at_call 16; refine (awake_any _).mono ?_; rintro e w9 ⟨rfl, hb9⟩))
    go_ret
    exact ⟨rfl, hb9⟩
end Go.Proofs.Ytjfgjblpaojjkaa
