/- The contracts of deed's small functions: isOp, Name, Waits, grade.Is, and of the reference's Name, Parts, small. -/
import Derived.Test.YtbjmdcjoaapmiaaDoorN10
import Derived.Test.YtbjmdcjoaapmiaaDoorB3
import Derived.Test.YtbjmdcjoaapmiaaDoorDM
namespace Go.Proofs.YtbjmdcjoaapmiaaDoor
open Go.RowKit

set_option maxHeartbeats 400000 in
theorem isOp_any (op : Int) (w : World) :
    Calls Tryd.prog 28 #[.int .i64 op] w fun e w' => e = .returned (.bool (isOp op)) ∧ w = w' := by
  by_cases h1 : 1 ≤ op
  · by_cases h2 : op ≤ 11
    · have e : isOp op = true := by simp [isOp, h1, h2]
      rw [e]; clear e
      go_enter Tryd.func28, Tryd.ntmps28
      go_wp2
      go_ret
      exact ⟨rfl, rfl⟩
    · have e : isOp op = false := by simp [isOp, h2]
      rw [e]; clear e
      go_enter Tryd.func28, Tryd.ntmps28
      go_wp2
      go_ret
      exact ⟨rfl, rfl⟩
  · have e : isOp op = false := by simp [isOp, h1]
    rw [e]; clear e
    go_enter Tryd.func28, Tryd.ntmps28
    go_wp2
    go_ret
    exact ⟨rfl, rfl⟩

def isLevel (l : Int) : Bool := decide (0 ≤ l) && decide (l ≤ 7)
set_option maxHeartbeats 400000 in
theorem Is_any (l : Int) (w : World) :
    Calls Tryd.prog 77 #[.int .i64 l] w fun e w' => e = .returned (.bool (isLevel l)) ∧ w = w' := by
  by_cases h1 : 0 ≤ l
  · have e : isLevel l = decide (l ≤ 7) := by simp [isLevel, h1]
    rw [e]; clear e
    go_enter Tryd.func77, Tryd.ntmps77
    go_wp2
    go_ret
    exact ⟨rfl, rfl⟩
  · have e : isLevel l = false := by simp [isLevel, h1]
    rw [e]; clear e
    go_enter Tryd.func77, Tryd.ntmps77
    go_wp2
    go_ret
    exact ⟨rfl, rfl⟩

def waitsB (op : Int) : Bool := op == 4 || op == 6 || op == 9 || op == 10
set_option maxHeartbeats 400000 in
theorem Waits_any (op : Int) (w : World) :
    Calls Tryd.prog 13 #[.int .i64 op] w fun e w' => e = .returned (.bool (waitsB op)) ∧ w = w' := by
  unfold waitsB
  by_cases h4 : op = 4
  · subst h4
    go_enter Tryd.func13, Tryd.ntmps13
    go_wp2
    go_ret
    exact ⟨rfl, rfl⟩
  · by_cases h6 : op = 6
    · subst h6
      go_enter Tryd.func13, Tryd.ntmps13
      go_wp2
      go_ret
      exact ⟨rfl, rfl⟩
    · by_cases h9 : op = 9
      · subst h9
        go_enter Tryd.func13, Tryd.ntmps13
        go_wp2
        go_ret
        exact ⟨rfl, rfl⟩
      · by_cases h10 : op = 10
        · subst h10
          go_enter Tryd.func13, Tryd.ntmps13
          go_wp2
          go_ret
          exact ⟨rfl, rfl⟩
        · go_enter Tryd.func13, Tryd.ntmps13
          go_wp2
          go_ret
          exact ⟨ret_bool (by simp [h4, h6, h9, h10]), rfl⟩

set_option maxHeartbeats 4000000 in
theorem Name_any (op : Int) (w : World) :
    Calls Tryd.prog 11 #[.int .i64 op] w fun e w' => e = .returned (sV (nameD op)) ∧ Below w.heap.size w w' := by
  by_cases h : isOp op = true
  · rcases isOp_cases h with rfl | rfl | rfl | rfl | rfl | rfl | rfl | rfl | rfl | rfl | rfl
    all_goals
      go_enter Tryd.func11, Tryd.ntmps11
      go_wp2_with (go_at_call 28; refine (isOp_any _ _).mono ?_; rintro e w' ⟨rfl, rfl⟩)
      go_ret
      exact ⟨rfl, ((Below.refl _ w).alloc (Nat.le_refl _) _)⟩
  · have hn : nameD op = [63] := by unfold nameD; rw [if_neg h]
    have H := Lib.hid (show isOp op = false by simpa using h)
    rw [hn]
    clear h hn
    go_enter Tryd.func11, Tryd.ntmps11
    go_wp2_with (go_at_call 28; refine (isOp_any _ _).mono ?_; rintro e w' ⟨rfl, rfl⟩; rw [H.out])
    go_ret
    exact ⟨rfl, ((Below.refl _ w).alloc (Nat.le_refl _) _)⟩

set_option maxHeartbeats 4000000 in
theorem RName_any (op : Int) (w : World) :
    Calls Tryd.prog 12 #[.int .i64 op] w fun e w' => e = .returned (sV (nameD op)) ∧ Below w.heap.size w w' := by
  by_cases h : isOp op = true
  · rcases isOp_cases h with rfl | rfl | rfl | rfl | rfl | rfl | rfl | rfl | rfl | rfl | rfl
    all_goals
      go_enter Tryd.func12, Tryd.ntmps12
      go_wp2
      go_ret
      exact ⟨rfl, ((Below.refl _ w).alloc (Nat.le_refl _) _)⟩
  · have hn : nameD op = [63] := by unfold nameD; rw [if_neg h]
    rw [hn]
    rcases isOp_not h with h1 | h1
    · clear h hn
      go_enter Tryd.func12, Tryd.ntmps12
      go_wp2
      go_ret
      exact ⟨rfl, Below.refl _ _⟩
    · clear h hn
      have h2 : ¬ op < 1 := by omega
      go_enter Tryd.func12, Tryd.ntmps12
      go_wp2
      go_ret
      exact ⟨rfl, Below.refl _ _⟩

def partsL (op : Int) : List UInt8 := (opr op).map letterN
set_option maxHeartbeats 4000000 in
theorem Parts_any (op : Int) (h : isOp op = true) (w : World) :
    Calls Tryd.prog 40 #[.int .i64 op] w fun e w' => e = .returned (sV (partsL op)) ∧ Below w.heap.size w w' := by
  rcases isOp_cases h with rfl | rfl | rfl | rfl | rfl | rfl | rfl | rfl | rfl | rfl | rfl
  all_goals
    go_enter Tryd.func40, Tryd.ntmps40
    go_wp2
    go_ret
    exact ⟨rfl, ((Below.refl _ w).alloc (Nat.le_refl _) _)⟩

def smallN (x : Nat) : Nat := if 64 < x then 64 else x
set_option maxHeartbeats 400000 in
theorem small_any (x : Nat) (w : World) :
    Calls Tryd.prog 47 #[.int .u64 x] w fun e w' => e = .returned (.int .i64 (smallN x : Int)) ∧ w = w' := by
  by_cases h : 64 < x
  · have e : smallN x = 64 := by unfold smallN; rw [if_pos h]
    rw [e]; clear e
    go_enter Tryd.func47, Tryd.ntmps47
    go_wp2
    go_ret
    exact ⟨rfl, rfl⟩
  · have e : smallN x = x := by unfold smallN; rw [if_neg h]
    rw [e]; clear e
    go_enter Tryd.func47, Tryd.ntmps47
    go_wp2
    go_ret
    exact ⟨rfl, rfl⟩
end Go.Proofs.YtbjmdcjoaapmiaaDoor
