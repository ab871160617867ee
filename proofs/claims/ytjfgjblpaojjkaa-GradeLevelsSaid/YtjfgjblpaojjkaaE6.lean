/- The walks of GradeLevels, GradeRuns, GradeFalls and GradeBest. -/
import Derived.Test.YtjfgjblpaojjkaaE5
namespace Go.Proofs.Ytjfgjblpaojjkaa
open Go.RowKit

set_option maxHeartbeats 4000000 in
theorem levels_walk (a b : Int) (w : World) :
    Calls Try.prog 3 #[.int .i64 a, .int .i64 b] w fun e w' => e = .returned (.bool true) ∧ Below w.heap.size w w' := by
  have g := Lib.hid (Below.refl w.heap.size w)
  have hq8 := qN_le (holdN a)
  have HAA := Lib.hid (show decide (rankN a < rankN a) = false from decide_eq_false (Nat.lt_irrefl _))
  obtain ⟨q, hq⟩ : ∃ q, qN (holdN a) = q := ⟨_, rfl⟩
  rw [hq] at hq8
  have HQ := Lib.hid hq
  obtain ⟨d, hd⟩ : ∃ d, holdN a = d := ⟨_, rfl⟩
  have HD := Lib.hid hd
  obtain ⟨e1, he⟩ : ∃ e, downN (holdN a) = e := ⟨_, rfl⟩
  have HE := Lib.hid he
  clear hq hd he
  by_cases hr : rankN a < rankN b
  · have HAB := Lib.hid (show decide (rankN a < rankN b) = true from decide_eq_true hr)
    have HBA := Lib.hid (show decide (rankN b < rankN a) = false from decide_eq_false (by omega))
    clear hr
    by_cases h0 : 0 ≤ a
    · by_cases h7 : a < 8
      · have HIS := Lib.hid (show decide (0 ≤ a ∧ a ≤ 7) = true from decide_eq_true (by omega))
        go_enter Try.func3, Try.ntmps3
        go_wp2_with (first
          | (go_at_call 7; refine (Is_any _ _).mono ?_; rintro e w1 ⟨rfl, rfl⟩; rw [HIS.out])
          | (go_at_call 8; refine (Hold_any _ _).mono ?_; rintro e w1 ⟨rfl, rfl⟩; rw [HD.out])
          | (go_at_call 9; refine (RHold_any _ _).mono ?_; rintro e w1 ⟨rfl, rfl⟩; rw [HD.out])
          | (go_at_call 10; refine (Better_any _ _ _).mono ?_; rintro e w1 ⟨rfl, rfl⟩; first | rw [HAA.out] | rw [HAB.out] | rw [HBA.out])
          | (go_at_call 11; refine (RBetter_any _ _ _).mono ?_; rintro e w1 ⟨rfl, rfl⟩; rw [HAB.out])
          | (go_at_call 12; refine (Quantum_any _ _).mono ?_; rintro e w1 ⟨rfl, hb1⟩; rw [HQ.out]; replace g := Lib.hid (g.out.trans (hb1.mono g.out.size)); clear hb1)
          | (go_at_call 13; refine (RQuantum_any _ _).mono ?_; rintro e w1 ⟨rfl, hb1⟩; rw [HQ.out]; replace g := Lib.hid (g.out.trans (hb1.mono g.out.size)); clear hb1)
          | (go_at_call 14; refine (Down_any _ _).mono ?_; rintro e w1 ⟨rfl, rfl⟩; rw [HE.out])
          | (go_at_call 15; refine (RDown_any _ _).mono ?_; rintro e w1 ⟨rfl, rfl⟩; rw [HE.out])
          | (go_at_call 16; refine (awake_any _).mono ?_; rintro e w9 ⟨rfl, hb9⟩))
        go_ret
        exact ⟨rfl, g.out.trans (hb9.mono g.out.size)⟩
      · have HIS := Lib.hid (show decide (0 ≤ a ∧ a ≤ 7) = false from decide_eq_false (by omega))
        go_enter Try.func3, Try.ntmps3
        go_wp2_with (first
          | (go_at_call 7; refine (Is_any _ _).mono ?_; rintro e w1 ⟨rfl, rfl⟩; rw [HIS.out])
          | (go_at_call 8; refine (Hold_any _ _).mono ?_; rintro e w1 ⟨rfl, rfl⟩; rw [HD.out])
          | (go_at_call 9; refine (RHold_any _ _).mono ?_; rintro e w1 ⟨rfl, rfl⟩; rw [HD.out])
          | (go_at_call 10; refine (Better_any _ _ _).mono ?_; rintro e w1 ⟨rfl, rfl⟩; first | rw [HAA.out] | rw [HAB.out] | rw [HBA.out])
          | (go_at_call 11; refine (RBetter_any _ _ _).mono ?_; rintro e w1 ⟨rfl, rfl⟩; rw [HAB.out])
          | (go_at_call 12; refine (Quantum_any _ _).mono ?_; rintro e w1 ⟨rfl, hb1⟩; rw [HQ.out]; replace g := Lib.hid (g.out.trans (hb1.mono g.out.size)); clear hb1)
          | (go_at_call 13; refine (RQuantum_any _ _).mono ?_; rintro e w1 ⟨rfl, hb1⟩; rw [HQ.out]; replace g := Lib.hid (g.out.trans (hb1.mono g.out.size)); clear hb1)
          | (go_at_call 14; refine (Down_any _ _).mono ?_; rintro e w1 ⟨rfl, rfl⟩; rw [HE.out])
          | (go_at_call 15; refine (RDown_any _ _).mono ?_; rintro e w1 ⟨rfl, rfl⟩; rw [HE.out])
          | (go_at_call 16; refine (awake_any _).mono ?_; rintro e w9 ⟨rfl, hb9⟩))
        go_ret
        exact ⟨rfl, g.out.trans (hb9.mono g.out.size)⟩
    · have HIS := Lib.hid (show decide (0 ≤ a ∧ a ≤ 7) = false from decide_eq_false (by omega))
      go_enter Try.func3, Try.ntmps3
      go_wp2_with (first
        | (go_at_call 7; refine (Is_any _ _).mono ?_; rintro e w1 ⟨rfl, rfl⟩; rw [HIS.out])
        | (go_at_call 8; refine (Hold_any _ _).mono ?_; rintro e w1 ⟨rfl, rfl⟩; rw [HD.out])
        | (go_at_call 9; refine (RHold_any _ _).mono ?_; rintro e w1 ⟨rfl, rfl⟩; rw [HD.out])
        | (go_at_call 10; refine (Better_any _ _ _).mono ?_; rintro e w1 ⟨rfl, rfl⟩; first | rw [HAA.out] | rw [HAB.out] | rw [HBA.out])
        | (go_at_call 11; refine (RBetter_any _ _ _).mono ?_; rintro e w1 ⟨rfl, rfl⟩; rw [HAB.out])
        | (go_at_call 12; refine (Quantum_any _ _).mono ?_; rintro e w1 ⟨rfl, hb1⟩; rw [HQ.out]; replace g := Lib.hid (g.out.trans (hb1.mono g.out.size)); clear hb1)
        | (go_at_call 13; refine (RQuantum_any _ _).mono ?_; rintro e w1 ⟨rfl, hb1⟩; rw [HQ.out]; replace g := Lib.hid (g.out.trans (hb1.mono g.out.size)); clear hb1)
        | (go_at_call 14; refine (Down_any _ _).mono ?_; rintro e w1 ⟨rfl, rfl⟩; rw [HE.out])
        | (go_at_call 15; refine (RDown_any _ _).mono ?_; rintro e w1 ⟨rfl, rfl⟩; rw [HE.out])
        | (go_at_call 16; refine (awake_any _).mono ?_; rintro e w9 ⟨rfl, hb9⟩))
      go_ret
      exact ⟨rfl, g.out.trans (hb9.mono g.out.size)⟩
  · have HAB := Lib.hid (show decide (rankN a < rankN b) = false from decide_eq_false hr)
    have HBA := HAB
    clear hr
    by_cases h0 : 0 ≤ a
    · by_cases h7 : a < 8
      · have HIS := Lib.hid (show decide (0 ≤ a ∧ a ≤ 7) = true from decide_eq_true (by omega))
        go_enter Try.func3, Try.ntmps3
        go_wp2_with (first
          | (go_at_call 7; refine (Is_any _ _).mono ?_; rintro e w1 ⟨rfl, rfl⟩; rw [HIS.out])
          | (go_at_call 8; refine (Hold_any _ _).mono ?_; rintro e w1 ⟨rfl, rfl⟩; rw [HD.out])
          | (go_at_call 9; refine (RHold_any _ _).mono ?_; rintro e w1 ⟨rfl, rfl⟩; rw [HD.out])
          | (go_at_call 10; refine (Better_any _ _ _).mono ?_; rintro e w1 ⟨rfl, rfl⟩; first | rw [HAA.out] | rw [HAB.out] | rw [HBA.out])
          | (go_at_call 11; refine (RBetter_any _ _ _).mono ?_; rintro e w1 ⟨rfl, rfl⟩; rw [HAB.out])
          | (go_at_call 12; refine (Quantum_any _ _).mono ?_; rintro e w1 ⟨rfl, hb1⟩; rw [HQ.out]; replace g := Lib.hid (g.out.trans (hb1.mono g.out.size)); clear hb1)
          | (go_at_call 13; refine (RQuantum_any _ _).mono ?_; rintro e w1 ⟨rfl, hb1⟩; rw [HQ.out]; replace g := Lib.hid (g.out.trans (hb1.mono g.out.size)); clear hb1)
          | (go_at_call 14; refine (Down_any _ _).mono ?_; rintro e w1 ⟨rfl, rfl⟩; rw [HE.out])
          | (go_at_call 15; refine (RDown_any _ _).mono ?_; rintro e w1 ⟨rfl, rfl⟩; rw [HE.out])
          | (go_at_call 16; refine (awake_any _).mono ?_; rintro e w9 ⟨rfl, hb9⟩))
        go_ret
        exact ⟨rfl, g.out.trans (hb9.mono g.out.size)⟩
      · have HIS := Lib.hid (show decide (0 ≤ a ∧ a ≤ 7) = false from decide_eq_false (by omega))
        go_enter Try.func3, Try.ntmps3
        go_wp2_with (first
          | (go_at_call 7; refine (Is_any _ _).mono ?_; rintro e w1 ⟨rfl, rfl⟩; rw [HIS.out])
          | (go_at_call 8; refine (Hold_any _ _).mono ?_; rintro e w1 ⟨rfl, rfl⟩; rw [HD.out])
          | (go_at_call 9; refine (RHold_any _ _).mono ?_; rintro e w1 ⟨rfl, rfl⟩; rw [HD.out])
          | (go_at_call 10; refine (Better_any _ _ _).mono ?_; rintro e w1 ⟨rfl, rfl⟩; first | rw [HAA.out] | rw [HAB.out] | rw [HBA.out])
          | (go_at_call 11; refine (RBetter_any _ _ _).mono ?_; rintro e w1 ⟨rfl, rfl⟩; rw [HAB.out])
          | (go_at_call 12; refine (Quantum_any _ _).mono ?_; rintro e w1 ⟨rfl, hb1⟩; rw [HQ.out]; replace g := Lib.hid (g.out.trans (hb1.mono g.out.size)); clear hb1)
          | (go_at_call 13; refine (RQuantum_any _ _).mono ?_; rintro e w1 ⟨rfl, hb1⟩; rw [HQ.out]; replace g := Lib.hid (g.out.trans (hb1.mono g.out.size)); clear hb1)
          | (go_at_call 14; refine (Down_any _ _).mono ?_; rintro e w1 ⟨rfl, rfl⟩; rw [HE.out])
          | (go_at_call 15; refine (RDown_any _ _).mono ?_; rintro e w1 ⟨rfl, rfl⟩; rw [HE.out])
          | (go_at_call 16; refine (awake_any _).mono ?_; rintro e w9 ⟨rfl, hb9⟩))
        go_ret
        exact ⟨rfl, g.out.trans (hb9.mono g.out.size)⟩
    · have HIS := Lib.hid (show decide (0 ≤ a ∧ a ≤ 7) = false from decide_eq_false (by omega))
      go_enter Try.func3, Try.ntmps3
      go_wp2_with (first
        | (go_at_call 7; refine (Is_any _ _).mono ?_; rintro e w1 ⟨rfl, rfl⟩; rw [HIS.out])
        | (go_at_call 8; refine (Hold_any _ _).mono ?_; rintro e w1 ⟨rfl, rfl⟩; rw [HD.out])
        | (go_at_call 9; refine (RHold_any _ _).mono ?_; rintro e w1 ⟨rfl, rfl⟩; rw [HD.out])
        | (go_at_call 10; refine (Better_any _ _ _).mono ?_; rintro e w1 ⟨rfl, rfl⟩; first | rw [HAA.out] | rw [HAB.out] | rw [HBA.out])
        | (go_at_call 11; refine (RBetter_any _ _ _).mono ?_; rintro e w1 ⟨rfl, rfl⟩; rw [HAB.out])
        | (go_at_call 12; refine (Quantum_any _ _).mono ?_; rintro e w1 ⟨rfl, hb1⟩; rw [HQ.out]; replace g := Lib.hid (g.out.trans (hb1.mono g.out.size)); clear hb1)
        | (go_at_call 13; refine (RQuantum_any _ _).mono ?_; rintro e w1 ⟨rfl, hb1⟩; rw [HQ.out]; replace g := Lib.hid (g.out.trans (hb1.mono g.out.size)); clear hb1)
        | (go_at_call 14; refine (Down_any _ _).mono ?_; rintro e w1 ⟨rfl, rfl⟩; rw [HE.out])
        | (go_at_call 15; refine (RDown_any _ _).mono ?_; rintro e w1 ⟨rfl, rfl⟩; rw [HE.out])
        | (go_at_call 16; refine (awake_any _).mono ?_; rintro e w9 ⟨rfl, hb9⟩))
      go_ret
      exact ⟨rfl, g.out.trans (hb9.mono g.out.size)⟩

set_option maxHeartbeats 4000000 in
theorem runs_walk (l : Int) (t : Nat) (ht : t < 18446744073709551616) (w : World) :
    Calls Try.prog 5 #[.int .i64 l, .int .u64 t] w fun e w' => e = .returned (.bool true) ∧ Below w.heap.size w w' := by
  have g := Lib.hid (Below.refl w.heap.size w)
  obtain ⟨hk, hk7, hx⟩ := run_fst (7 - holdN l) (holdN l) t (by have := holdN_le l; omega)
  obtain ⟨R, hR⟩ : ∃ R, runL l t = R := ⟨_, rfl⟩
  rw [show runN (7 - holdN l) (holdN l) t = R from hR] at hk7 hx
  have HR := Lib.hid hR
  have HT := Lib.hid ht
  clear hR ht hk
  obtain ⟨m, x⟩ := R
  have HN := Lib.hid (holdN_nat m hk7)
  obtain ⟨q, hq⟩ : ∃ q, qN m = q := ⟨_, rfl⟩
  simp only [] at hx hk7
  rw [hq] at hx
  have HQ := Lib.hid hq
  clear hq
  go_enter Try.func5, Try.ntmps5
  go_wp2_with (first
    | (go_at_call 19; refine (Run_any _ _ HT.out _).mono ?_; rintro e w1 ⟨rfl, hb1⟩; rw [HR.out]; replace g := Lib.hid (g.out.trans (hb1.mono g.out.size)); clear hb1)
    | (go_at_call 20; refine (RRun_any _ _ HT.out _).mono ?_; rintro e w1 ⟨rfl, hb1⟩; rw [HR.out]; replace g := Lib.hid (g.out.trans (hb1.mono g.out.size)); clear hb1)
    | (go_at_call 12; refine (Quantum_any _ _).mono ?_; rintro e w1 ⟨rfl, hb1⟩; rw [HN.out, HQ.out]; replace g := Lib.hid (g.out.trans (hb1.mono g.out.size)); clear hb1)
    | (go_at_call 16; refine (awake_any _).mono ?_; rintro e w9 ⟨rfl, hb9⟩))
  go_ret
  exact ⟨rfl, g.out.trans (hb9.mono g.out.size)⟩

end Go.Proofs.Ytjfgjblpaojjkaa
