/- The contracts of Quantum and of its reference: both make their table anew. -/
import Derived.Test.YtjfgjblpaojjkaaE1
import Derived.Below
import Derived.Test.YtjfgjblpaojjkaaB1
namespace Go.Proofs.Ytjfgjblpaojjkaa
open Go.RowKit

set_option maxHeartbeats 4000000 in
theorem Quantum_any (l : Int) (w : World) :
    Calls Try.prog 12 #[.int .i64 l] w fun e w' => e = .returned (.int .u64 (qN (holdN l) : Nat)) ∧ Below w.heap.size w w' := by
  have h := holdN_le l
  obtain ⟨k, hk⟩ : ∃ k, holdN l = k := ⟨_, rfl⟩
  rw [hk] at h ⊢
  have HK := Lib.hid hk
  clear hk
  have hc : k = 0 ∨ k = 1 ∨ k = 2 ∨ k = 3 ∨ k = 4 ∨ k = 5 ∨ k = 6 ∨ k = 7 := by omega
  clear h
  rcases hc with rfl | rfl | rfl | rfl | rfl | rfl | rfl | rfl
  all_goals
    go_enter Try.func12, Try.ntmps12
    go_wp2_with (go_at_call 8; refine (Hold_any _ _).mono ?_; rintro e w' ⟨rfl, rfl⟩; rw [HK.out])
    go_ret
    exact ⟨rfl, ((Below.refl _ w).alloc (Nat.le_refl _) _)⟩

set_option maxHeartbeats 4000000 in
theorem RQuantum_any (l : Int) (w : World) :
    Calls Try.prog 13 #[.int .i64 l] w fun e w' => e = .returned (.int .u64 (qN (holdN l) : Nat)) ∧ Below w.heap.size w w' := by
  have h := holdN_le l
  obtain ⟨k, hk⟩ : ∃ k, holdN l = k := ⟨_, rfl⟩
  rw [hk] at h ⊢
  have HK := Lib.hid hk
  clear hk
  have hc : k = 0 ∨ k = 1 ∨ k = 2 ∨ k = 3 ∨ k = 4 ∨ k = 5 ∨ k = 6 ∨ k = 7 := by omega
  clear h
  rcases hc with rfl | rfl | rfl | rfl | rfl | rfl | rfl | rfl
  all_goals
    go_enter Try.func13, Try.ntmps13
    go_wp2_with (go_at_call 9; refine (RHold_any _ _).mono ?_; rintro e w' ⟨rfl, rfl⟩; rw [HK.out])
    go_ret
    exact ⟨rfl, ((Below.refl _ w).alloc (Nat.le_refl _) _)⟩
end Go.Proofs.Ytjfgjblpaojjkaa
