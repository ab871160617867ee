/- The contracts of package grade's plain functions and of their reference: Is, Hold, rank, Better, Down. -/
import Derived.Test.YtjfgjblpaojjkaaRows
import Derived.Test.YtjfgjblpaojjkaaMath
import Derived.WalkKit
import Derived.WalkSpells
import Derived.WalkLawsBesides
import Derived.Lib.Hide
namespace Go.Proofs.Ytjfgjblpaojjkaa
open Go.RowKit

theorem ret_int {k : IntKind} {a b : Int} (h : a = b) : Ending.returned (.int k a) = .returned (.int k b) := by rw [h]
theorem ret_bool {a b : Bool} (h : a = b) : Ending.returned (.bool a) = .returned (.bool b) := by rw [h]

set_option maxHeartbeats 400000 in
theorem Hold_any (l : Int) (w : World) :
    Calls Try.prog 8 #[.int .i64 l] w fun e w' => e = .returned (.int .i64 (holdN l)) ∧ w = w' := by
  by_cases h : l < 0
  · go_enter Try.func8, Try.ntmps8
    go_wp2
    go_ret
    exact ⟨ret_int (by unfold holdN; (repeat' split) <;> omega), rfl⟩
  · by_cases h7 : 7 < l
    · go_enter Try.func8, Try.ntmps8
      go_wp2
      go_ret
      exact ⟨ret_int (by unfold holdN; (repeat' split) <;> omega), rfl⟩
    · go_enter Try.func8, Try.ntmps8
      go_wp2
      go_ret
      exact ⟨ret_int (by unfold holdN; (repeat' split) <;> omega), rfl⟩

set_option maxHeartbeats 400000 in
theorem RHold_any (l : Int) (w : World) :
    Calls Try.prog 9 #[.int .i64 l] w fun e w' => e = .returned (.int .i64 (holdN l)) ∧ w = w' := by
  by_cases h : l < 0
  · go_enter Try.func9, Try.ntmps9
    go_wp2
    go_ret
    exact ⟨ret_int (by unfold holdN; (repeat' split) <;> omega), rfl⟩
  · by_cases h7 : 7 < l
    · go_enter Try.func9, Try.ntmps9
      go_wp2
      go_ret
      exact ⟨ret_int (by unfold holdN; (repeat' split) <;> omega), rfl⟩
    · go_enter Try.func9, Try.ntmps9
      go_wp2
      go_ret
      exact ⟨ret_int (by unfold holdN; (repeat' split) <;> omega), rfl⟩

set_option maxHeartbeats 400000 in
theorem rank_any (l : Int) (w : World) :
    Calls Try.prog 22 #[.int .i64 l] w fun e w' => e = .returned (.int .i64 (rankN l)) ∧ w = w' := by
  by_cases h : l < 0
  · go_enter Try.func22, Try.ntmps22
    go_wp2
    go_ret
    exact ⟨ret_int (by unfold rankN; (repeat' split) <;> omega), rfl⟩
  · by_cases h7 : 8 < l
    · go_enter Try.func22, Try.ntmps22
      go_wp2
      go_ret
      exact ⟨ret_int (by unfold rankN; (repeat' split) <;> omega), rfl⟩
    · go_enter Try.func22, Try.ntmps22
      go_wp2
      go_ret
      exact ⟨ret_int (by unfold rankN; (repeat' split) <;> omega), rfl⟩

set_option maxHeartbeats 400000 in
theorem Rrank_any (l : Int) (w : World) :
    Calls Try.prog 23 #[.int .i64 l] w fun e w' => e = .returned (.int .i64 (rankN l)) ∧ w = w' := by
  by_cases h7 : 7 < l
  · go_enter Try.func23, Try.ntmps23
    go_wp2
    go_ret
    exact ⟨ret_int (by unfold rankN; (repeat' split) <;> omega), rfl⟩
  · go_enter Try.func23, Try.ntmps23
    go_wp2_with (go_at_call 9; refine (RHold_any _ _).mono ?_; rintro e w' ⟨rfl, rfl⟩)
    go_ret
    exact ⟨ret_int (by unfold rankN holdN; (repeat' split) <;> omega), rfl⟩

set_option maxHeartbeats 400000 in
theorem Better_any (a b : Int) (w : World) :
    Calls Try.prog 10 #[.int .i64 a, .int .i64 b] w fun e w' => e = .returned (.bool (decide (rankN a < rankN b))) ∧ w = w' := by
  go_enter Try.func10, Try.ntmps10
  go_wp2_with (go_at_call 22; refine (rank_any _ _).mono ?_; rintro e w' ⟨rfl, rfl⟩)
  go_ret
  exact ⟨ret_bool (by simp), rfl⟩

set_option maxHeartbeats 400000 in
theorem RBetter_any (a b : Int) (w : World) :
    Calls Try.prog 11 #[.int .i64 a, .int .i64 b] w fun e w' => e = .returned (.bool (decide (rankN a < rankN b))) ∧ w = w' := by
  go_enter Try.func11, Try.ntmps11
  go_wp2_with (go_at_call 23; refine (Rrank_any _ _).mono ?_; rintro e w' ⟨rfl, rfl⟩)
  go_ret
  exact ⟨ret_bool (by simp), rfl⟩

set_option maxHeartbeats 400000 in
theorem Is_any (l : Int) (w : World) :
    Calls Try.prog 7 #[.int .i64 l] w fun e w' => e = .returned (.bool (decide (0 ≤ l ∧ l ≤ 7))) ∧ w = w' := by
  by_cases h : 0 ≤ l
  · by_cases h7 : l ≤ 7
    · go_enter Try.func7, Try.ntmps7
      go_wp2
      go_ret
      exact ⟨ret_bool (by simp; omega), rfl⟩
    · go_enter Try.func7, Try.ntmps7
      go_wp2
      go_ret
      exact ⟨ret_bool (by simp; omega), rfl⟩
  · go_enter Try.func7, Try.ntmps7
    go_wp2
    go_ret
    exact ⟨ret_bool (by simp; omega), rfl⟩

set_option maxHeartbeats 400000 in
theorem Down_any (l : Int) (w : World) :
    Calls Try.prog 14 #[.int .i64 l] w fun e w' => e = .returned (.int .i64 (downN (holdN l))) ∧ w = w' := by
  have h := holdN_le l
  go_enter Try.func14, Try.ntmps14
  go_wp2_with (go_at_call 8; refine (Hold_any _ _).mono ?_; rintro e w' ⟨rfl, rfl⟩)
  go_ret
  exact ⟨ret_int (by rw [hold_down _ h]), rfl⟩

set_option maxHeartbeats 400000 in
theorem RDown_any (l : Int) (w : World) :
    Calls Try.prog 15 #[.int .i64 l] w fun e w' => e = .returned (.int .i64 (downN (holdN l))) ∧ w = w' := by
  have h := holdN_le l
  go_enter Try.func15, Try.ntmps15
  go_wp2_with (go_at_call 9; refine (RHold_any _ _).mono ?_; rintro e w' ⟨rfl, rfl⟩)
  go_ret
  exact ⟨ret_int (by rw [hold_down _ h]), rfl⟩
end Go.Proofs.Ytjfgjblpaojjkaa
