/- The statements' own examples, and the walks of GradeLevels, GradeRuns and GradeFalls. -/
import Derived.Test.YtjfgjblpaojjkaaE4
namespace Go.Proofs.Ytjfgjblpaojjkaa
open Go.RowKit

theorem ReadsI.new3 (w : World) (t : TypeId) (x y z : Int) : ReadsI (w.alloc (.cells #[.int .i64 x, .int .i64 y, .int .i64 z] t)) (.slice (some ⟨w.heap.size, 0, none⟩) 3 3) [x, y, z] := by
  have hb := Blk.new w t #[.int .i64 x, .int .i64 y, .int .i64 z]
  refine ⟨_, 3, rfl, Nat.le_refl _, .inr ⟨_, 0, rfl, hb.lt, fun j hj => ?_⟩⟩
  rw [hb.cell, Nat.zero_add]
  match j, hj with
  | 0, _ => rfl
  | 1, _ => rfl
  | 2, _ => rfl

set_option maxHeartbeats 4000000 in
theorem awake_any (w : World) :
    Calls Try.prog 16 #[] w fun e w' => e = .returned (.bool true) ∧ Below w.heap.size w w' := by
  have HR := Lib.hid (show runL 0 3 = (2, 1) by decide)
  have HB := Lib.hid (show bestN [5, 9, 2] = 2 by decide)
  go_enter Try.func16, Try.ntmps16
  go_wp2_with (first
    | (go_at_call 19; refine (Run_any 0 3 (by omega) _).mono ?_; rintro e w1 ⟨rfl, hb1⟩; rw [HR.out])
    | (go_at_call 17; refine (Best_any _ [5, 9, 2] (by decide) _ (ReadsI.new3 _ _ _ _ _)).mono ?_; rintro e w2 ⟨rfl, rfl⟩; rw [HB.out])
    | (go_at_call 21; refine (All_any _).mono ?_; rintro e w3 ⟨rfl, hb3⟩))
  go_ret
  exact ⟨rfl, (hb1.alloc hb1.size _).trans (hb3.mono (hb1.alloc hb1.size _).size)⟩
end Go.Proofs.Ytjfgjblpaojjkaa
