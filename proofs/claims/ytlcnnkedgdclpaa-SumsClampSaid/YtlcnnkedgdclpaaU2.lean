/- The contracts of package sums' Clamp and the walks of SumsHeld, SumsExact and SumsClamp: each returns true, and nothing is written. -/
import Derived.Test.YtlcnnkedgdclpaaU1
namespace Go.Proofs.Ytlcnnkedgdclpaa
open Go.RowKit
open Go.Lib (hid)

def clampI (x lo hi : Int) : Int := if x < lo then lo else if hi < x then hi else x

set_option maxHeartbeats 400000 in
theorem Clamp64_any (x lo hi : Int) (w : World) :
    Calls Try.prog 22 #[.int .i64 x, .int .i64 lo, .int .i64 hi] w fun e w' => e = .returned (.int .i64 (clampI x lo hi)) ∧ w = w' := by
  by_cases h : x < lo
  · go_enter Try.func22, Try.ntmps22
    go_wp2
    go_ret
    exact ⟨by simp [clampI, h], rfl⟩
  · by_cases h1 : hi < x
    · go_enter Try.func22, Try.ntmps22
      go_wp2
      go_ret
      exact ⟨by unfold clampI; rw [if_neg (by omega), if_pos h1]; rfl, rfl⟩
    · go_enter Try.func22, Try.ntmps22
      go_wp2
      go_ret
      exact ⟨by unfold clampI; rw [if_neg (by omega), if_neg (by omega)]; rfl, rfl⟩

set_option maxHeartbeats 400000 in
theorem ClampI_any (x lo hi : Int) (w : World) :
    Calls Try.prog 24 #[.int .i64 x, .int .i64 lo, .int .i64 hi] w fun e w' => e = .returned (.int .i64 (clampI x lo hi)) ∧ w = w' := by
  by_cases h : x < lo
  · go_enter Try.func24, Try.ntmps24
    go_wp2
    go_ret
    exact ⟨by simp [clampI, h], rfl⟩
  · by_cases h1 : hi < x
    · go_enter Try.func24, Try.ntmps24
      go_wp2
      go_ret
      exact ⟨by unfold clampI; rw [if_neg (by omega), if_pos h1]; rfl, rfl⟩
    · go_enter Try.func24, Try.ntmps24
      go_wp2
      go_ret
      exact ⟨by unfold clampI; rw [if_neg (by omega), if_neg (by omega)]; rfl, rfl⟩

set_option maxHeartbeats 400000 in
theorem ClampU_any (x lo hi : Int) (w : World) :
    Calls Try.prog 25 #[.int .u64 x, .int .u64 lo, .int .u64 hi] w fun e w' => e = .returned (.int .u64 (clampI x lo hi)) ∧ w = w' := by
  by_cases h : x < lo
  · go_enter Try.func25, Try.ntmps25
    go_wp2
    go_ret
    exact ⟨by simp [clampI, h], rfl⟩
  · by_cases h1 : hi < x
    · go_enter Try.func25, Try.ntmps25
      go_wp2
      go_ret
      exact ⟨by unfold clampI; rw [if_neg (by omega), if_pos h1]; rfl, rfl⟩
    · go_enter Try.func25, Try.ntmps25
      go_wp2
      go_ret
      exact ⟨by unfold clampI; rw [if_neg (by omega), if_neg (by omega)]; rfl, rfl⟩

set_option maxHeartbeats 400000 in
theorem clamped_any (x lo hi : Int) (w : World) :
    Calls Try.prog 23 #[.int .i64 x, .int .i64 lo, .int .i64 hi] w fun e w' => e = .returned (.int .i64 (clampI x lo hi)) ∧ w = w' := by
  by_cases h : x < lo
  · go_enter Try.func23, Try.ntmps23
    go_wp2
    go_ret
    exact ⟨by simp [clampI, h], rfl⟩
  · by_cases h1 : hi < x
    · go_enter Try.func23, Try.ntmps23
      go_wp2
      go_ret
      exact ⟨by unfold clampI; rw [if_neg (by omega), if_pos h1]; rfl, rfl⟩
    · go_enter Try.func23, Try.ntmps23
      go_wp2
      go_ret
      exact ⟨by unfold clampI; rw [if_neg (by omega), if_neg (by omega)]; rfl, rfl⟩

theorem bne_self_bool (a : Bool) : (a != a) = false := by simp
theorem beq_self_int (a : Int) : (a == a) = true := by simp
theorem beq_self_bool (a : Bool) : (a == a) = true := by simp

set_option maxHeartbeats 400000 in
theorem Held_walk (a b : Nat) (ha : a < 18446744073709551616) (hb : b < 18446744073709551616) (w : World) :
    Calls Try.prog 3 #[.int .u64 a, .int .u64 b] w fun e w' => e = .returned (.bool true) ∧ w = w' := by
  go_enter Try.func3, Try.ntmps3
  go_wp2_with fail
  refine (Add_any a b ha hb _).mono ?_
  rintro e w1 ⟨rfl, rfl⟩
  go_wp2_with fail
  refine (RAdd_any a b ha hb _).mono ?_
  rintro e w1 ⟨rfl, rfl⟩
  have hne1 := neq_self (addS a b : Int)
  go_wp2_with fail
  refine (Sub_any a b ha hb _).mono ?_
  rintro e w1 ⟨rfl, rfl⟩
  go_wp2_with fail
  refine (RSub_any a b ha hb _).mono ?_
  rintro e w1 ⟨rfl, rfl⟩
  have hne2 := neq_self ((a - b : Nat) : Int)
  go_wp2_with fail
  refine (Mul_any a b ha hb _).mono ?_
  rintro e w1 ⟨rfl, rfl⟩
  go_wp2_with fail
  refine (RMul_any a b ha hb _).mono ?_
  rintro e w1 ⟨rfl, rfl⟩
  have hne3 := neq_self (mulS a b : Int)
  go_wp2_with fail
  refine (Up_any a b ha hb _).mono ?_
  rintro e w1 ⟨rfl, rfl⟩
  go_wp2_with fail
  refine (RUp_any a b ha hb _).mono ?_
  rintro e w1 ⟨rfl, rfl⟩
  have hne4 := beq_self_int (upS a b : Int)
  go_wp2_with fail
  refine (Multiple_any a b ha hb _).mono ?_
  rintro e w1 ⟨rfl, rfl⟩
  go_wp2_with fail
  refine (RMultiple_any a b ha hb _).mono ?_
  rintro e w1 ⟨rfl, rfl⟩
  have hne5 := beq_self_bool (multN a b)
  go_wp2_with fail
  refine (awake_any _).mono ?_
  rintro e w1 ⟨rfl, rfl⟩
  go_wp2
  go_ret
  exact ⟨rfl, rfl⟩

theorem addS_mono (a b c : Nat) (h : b ≤ c) : addS a b ≤ addS a c := by
  unfold addS; split <;> split <;> omega
theorem mulS_mono (a b c : Nat) (h : b ≤ c) : mulS a b ≤ mulS a c := by
  have := Nat.mul_le_mul_left a h
  unfold mulS
  split
  · split <;> omega
  · split <;> omega
theorem addS_sub (a b : Nat) (h : addS a b < 18446744073709551615) : addS a b - b = a := by
  unfold addS at *
  split at h
  · rename_i h1; rw [if_pos h1]; omega
  · omega
theorem mulS_up (a b : Nat) (hb : 0 < b) (h : mulS a b < 18446744073709551615) : upS (mulS a b) b = a := by
  unfold mulS at *
  split at h
  · rename_i h1
    rw [if_pos h1]
    unfold upS
    rw [if_neg (by omega), Nat.mul_mod_left, if_pos rfl, Nat.mul_div_cancel _ hb]
  · omega
theorem mulS_mult (a b : Nat) (hb : 0 < b) (h : mulS a b < 18446744073709551615) : multN (mulS a b) b = true := by
  unfold mulS at *
  split at h
  · rename_i h1
    rw [if_pos h1]
    unfold multN
    rw [Nat.mul_mod_left, decide_eq_true hb]; rfl
  · omega

/-- What the law sees of its three numbers, without the functions: the sum, the product and what they give back. -/
theorem exact_facts (a b c : Nat) : ∃ s p t q d e : Nat, addS a b = s ∧ mulS a b = p ∧ addS a c = t ∧ mulS a c = q ∧ a - b = d ∧ a - c = e ∧
    s < 18446744073709551616 ∧ p < 18446744073709551616 ∧ ((s : Int) < 18446744073709551615 → s - b = a) ∧ (0 < b → (p : Int) < 18446744073709551615 → upS p b = a ∧ multN p b = true) ∧ (b ≤ c → s ≤ t ∧ p ≤ q ∧ e ≤ d) :=
  ⟨_, _, _, _, _, _, rfl, rfl, rfl, rfl, rfl, rfl, addS_lt a b, mulS_lt a b, fun h => addS_sub a b (by omega), fun h0 h => ⟨mulS_up a b h0 (by omega), mulS_mult a b h0 (by omega)⟩, fun h => ⟨addS_mono a b c h, mulS_mono a b c h, by omega⟩⟩

theorem exact_cases (s p b : Nat) :
    (((s : Int) < 18446744073709551615) ∨ ¬ ((s : Int) < 18446744073709551615)) ∧ ((0 < b ∧ (p : Int) < 18446744073709551615) ∨ ¬ 0 < b ∨ (0 < b ∧ ¬ (p : Int) < 18446744073709551615)) := by omega

set_option maxRecDepth 100000 in
set_option maxHeartbeats 1600000 in
theorem Exact_walk101 (a b c s p t q d f : Nat) (HA : Hid (a < 18446744073709551616)) (HB : Hid (b < 18446744073709551616)) (HC : Hid (c < 18446744073709551616)) (Hs : Hid (addS a b = s)) (Hp : Hid (mulS a b = p)) (Ht : Hid (addS a c = t)) (Hq : Hid (mulS a c = q)) (Hd : Hid (a - b = d)) (Hf : Hid (a - c = f)) (L1 : Hid (s < 18446744073709551616)) (L2 : Hid (p < 18446744073709551616)) (F1 : Hid (((s : Int) < 18446744073709551615) → s - b = a)) (F2 : Hid (0 < b → ((p : Int) < 18446744073709551615) → upS p b = a ∧ multN p b = true)) (F3 : Hid (b ≤ c → s ≤ t ∧ p ≤ q ∧ f ≤ d))
    (k1 : decide ((s : Int) < 18446744073709551615) = true) (k2 : 0 < b) (k3 : decide ((p : Int) < 18446744073709551615) = true) (k4 : b ≤ c) (w : World) :
    Calls Try.prog 5 #[.int .u64 a, .int .u64 b, .int .u64 c] w fun e w' => e = .returned (.bool true) ∧ w = w' := by
  have G1 := Lib.hid (F1.out (of_decide_eq_true k1))
  have G2 := Lib.hid (F2.out k2 (of_decide_eq_true k3))
  obtain ⟨g1, g2, g3⟩ := F3.out k4
  go_enter Try.func5, Try.ntmps5
  go_wp2_with fail
  refine (Add_any a b HA.out HB.out _).mono ?_
  rintro e w1 ⟨rfl, rfl⟩
  rw [Hs.out]
  go_wp2_with fail
  refine (Sub_any s b L1.out HB.out _).mono ?_
  rintro e w1 ⟨rfl, rfl⟩
  rw [G1.out]
  go_wp2_with fail
  refine (Mul_any a b HA.out HB.out _).mono ?_
  rintro e w1 ⟨rfl, rfl⟩
  rw [Hp.out]
  go_wp2_with fail
  refine (Up_any p b L2.out HB.out _).mono ?_
  rintro e w1 ⟨rfl, rfl⟩
  rw [G2.out.1]
  go_wp2_with fail
  refine (Multiple_any p b L2.out HB.out _).mono ?_
  rintro e w1 ⟨rfl, rfl⟩
  rw [G2.out.2]
  go_wp2_with fail
  refine (Add_any a b HA.out HB.out _).mono ?_
  rintro e w1 ⟨rfl, rfl⟩
  rw [Hs.out]
  go_wp2_with fail
  refine (Add_any a c HA.out HC.out _).mono ?_
  rintro e w1 ⟨rfl, rfl⟩
  rw [Ht.out]
  go_wp2_with fail
  refine (Mul_any a b HA.out HB.out _).mono ?_
  rintro e w1 ⟨rfl, rfl⟩
  rw [Hp.out]
  go_wp2_with fail
  refine (Mul_any a c HA.out HC.out _).mono ?_
  rintro e w1 ⟨rfl, rfl⟩
  rw [Hq.out]
  go_wp2_with fail
  refine (Sub_any a b HA.out HB.out _).mono ?_
  rintro e w1 ⟨rfl, rfl⟩
  rw [Hd.out]
  go_wp2_with fail
  refine (Sub_any a c HA.out HC.out _).mono ?_
  rintro e w1 ⟨rfl, rfl⟩
  rw [Hf.out]
  clear k1 k3
  go_wp2_with fail
  refine (awake_any _).mono ?_
  rintro e w1 ⟨rfl, rfl⟩
  go_wp2
  go_ret
  exact ⟨rfl, rfl⟩

set_option maxRecDepth 100000 in
set_option maxHeartbeats 1600000 in
theorem Exact_walk100 (a b c s p t q d f : Nat) (HA : Hid (a < 18446744073709551616)) (HB : Hid (b < 18446744073709551616)) (_HC : Hid (c < 18446744073709551616)) (Hs : Hid (addS a b = s)) (Hp : Hid (mulS a b = p)) (_Ht : Hid (addS a c = t)) (_Hq : Hid (mulS a c = q)) (_Hd : Hid (a - b = d)) (_Hf : Hid (a - c = f)) (L1 : Hid (s < 18446744073709551616)) (L2 : Hid (p < 18446744073709551616)) (F1 : Hid (((s : Int) < 18446744073709551615) → s - b = a)) (F2 : Hid (0 < b → ((p : Int) < 18446744073709551615) → upS p b = a ∧ multN p b = true)) (_F3 : Hid (b ≤ c → s ≤ t ∧ p ≤ q ∧ f ≤ d))
    (k1 : decide ((s : Int) < 18446744073709551615) = true) (k2 : 0 < b) (k3 : decide ((p : Int) < 18446744073709551615) = true) (k4 : ¬ b ≤ c) (w : World) :
    Calls Try.prog 5 #[.int .u64 a, .int .u64 b, .int .u64 c] w fun e w' => e = .returned (.bool true) ∧ w = w' := by
  have G1 := Lib.hid (F1.out (of_decide_eq_true k1))
  have G2 := Lib.hid (F2.out k2 (of_decide_eq_true k3))
  go_enter Try.func5, Try.ntmps5
  go_wp2_with fail
  refine (Add_any a b HA.out HB.out _).mono ?_
  rintro e w1 ⟨rfl, rfl⟩
  rw [Hs.out]
  go_wp2_with fail
  refine (Sub_any s b L1.out HB.out _).mono ?_
  rintro e w1 ⟨rfl, rfl⟩
  rw [G1.out]
  go_wp2_with fail
  refine (Mul_any a b HA.out HB.out _).mono ?_
  rintro e w1 ⟨rfl, rfl⟩
  rw [Hp.out]
  go_wp2_with fail
  refine (Up_any p b L2.out HB.out _).mono ?_
  rintro e w1 ⟨rfl, rfl⟩
  rw [G2.out.1]
  go_wp2_with fail
  refine (Multiple_any p b L2.out HB.out _).mono ?_
  rintro e w1 ⟨rfl, rfl⟩
  rw [G2.out.2]
  go_wp2_with fail
  refine (awake_any _).mono ?_
  rintro e w1 ⟨rfl, rfl⟩
  go_wp2
  go_ret
  exact ⟨rfl, rfl⟩

set_option maxRecDepth 100000 in
set_option maxHeartbeats 1600000 in
theorem Exact_walk111 (a b c s p t q d f : Nat) (HA : Hid (a < 18446744073709551616)) (HB : Hid (b < 18446744073709551616)) (HC : Hid (c < 18446744073709551616)) (Hs : Hid (addS a b = s)) (Hp : Hid (mulS a b = p)) (Ht : Hid (addS a c = t)) (Hq : Hid (mulS a c = q)) (Hd : Hid (a - b = d)) (Hf : Hid (a - c = f)) (L1 : Hid (s < 18446744073709551616)) (_L2 : Hid (p < 18446744073709551616)) (F1 : Hid (((s : Int) < 18446744073709551615) → s - b = a)) (_F2 : Hid (0 < b → ((p : Int) < 18446744073709551615) → upS p b = a ∧ multN p b = true)) (F3 : Hid (b ≤ c → s ≤ t ∧ p ≤ q ∧ f ≤ d))
    (k1 : decide ((s : Int) < 18446744073709551615) = true) (k2 : ¬ 0 < b) (k4 : b ≤ c) (w : World) :
    Calls Try.prog 5 #[.int .u64 a, .int .u64 b, .int .u64 c] w fun e w' => e = .returned (.bool true) ∧ w = w' := by
  have G1 := Lib.hid (F1.out (of_decide_eq_true k1))
  obtain ⟨g1, g2, g3⟩ := F3.out k4
  go_enter Try.func5, Try.ntmps5
  go_wp2_with fail
  refine (Add_any a b HA.out HB.out _).mono ?_
  rintro e w1 ⟨rfl, rfl⟩
  rw [Hs.out]
  go_wp2_with fail
  refine (Sub_any s b L1.out HB.out _).mono ?_
  rintro e w1 ⟨rfl, rfl⟩
  rw [G1.out]
  go_wp2_with fail
  refine (Mul_any a b HA.out HB.out _).mono ?_
  rintro e w1 ⟨rfl, rfl⟩
  rw [Hp.out]
  go_wp2_with fail
  refine (Add_any a b HA.out HB.out _).mono ?_
  rintro e w1 ⟨rfl, rfl⟩
  rw [Hs.out]
  go_wp2_with fail
  refine (Add_any a c HA.out HC.out _).mono ?_
  rintro e w1 ⟨rfl, rfl⟩
  rw [Ht.out]
  go_wp2_with fail
  refine (Mul_any a b HA.out HB.out _).mono ?_
  rintro e w1 ⟨rfl, rfl⟩
  rw [Hp.out]
  go_wp2_with fail
  refine (Mul_any a c HA.out HC.out _).mono ?_
  rintro e w1 ⟨rfl, rfl⟩
  rw [Hq.out]
  go_wp2_with fail
  refine (Sub_any a b HA.out HB.out _).mono ?_
  rintro e w1 ⟨rfl, rfl⟩
  rw [Hd.out]
  go_wp2_with fail
  refine (Sub_any a c HA.out HC.out _).mono ?_
  rintro e w1 ⟨rfl, rfl⟩
  rw [Hf.out]
  clear k1
  go_wp2_with fail
  refine (awake_any _).mono ?_
  rintro e w1 ⟨rfl, rfl⟩
  go_wp2
  go_ret
  exact ⟨rfl, rfl⟩

set_option maxRecDepth 100000 in
set_option maxHeartbeats 1600000 in
theorem Exact_walk110 (a b c s p t q d f : Nat) (HA : Hid (a < 18446744073709551616)) (HB : Hid (b < 18446744073709551616)) (_HC : Hid (c < 18446744073709551616)) (Hs : Hid (addS a b = s)) (Hp : Hid (mulS a b = p)) (_Ht : Hid (addS a c = t)) (_Hq : Hid (mulS a c = q)) (_Hd : Hid (a - b = d)) (_Hf : Hid (a - c = f)) (L1 : Hid (s < 18446744073709551616)) (_L2 : Hid (p < 18446744073709551616)) (F1 : Hid (((s : Int) < 18446744073709551615) → s - b = a)) (_F2 : Hid (0 < b → ((p : Int) < 18446744073709551615) → upS p b = a ∧ multN p b = true)) (_F3 : Hid (b ≤ c → s ≤ t ∧ p ≤ q ∧ f ≤ d))
    (k1 : decide ((s : Int) < 18446744073709551615) = true) (k2 : ¬ 0 < b) (k4 : ¬ b ≤ c) (w : World) :
    Calls Try.prog 5 #[.int .u64 a, .int .u64 b, .int .u64 c] w fun e w' => e = .returned (.bool true) ∧ w = w' := by
  have G1 := Lib.hid (F1.out (of_decide_eq_true k1))
  go_enter Try.func5, Try.ntmps5
  go_wp2_with fail
  refine (Add_any a b HA.out HB.out _).mono ?_
  rintro e w1 ⟨rfl, rfl⟩
  rw [Hs.out]
  go_wp2_with fail
  refine (Sub_any s b L1.out HB.out _).mono ?_
  rintro e w1 ⟨rfl, rfl⟩
  rw [G1.out]
  go_wp2_with fail
  refine (Mul_any a b HA.out HB.out _).mono ?_
  rintro e w1 ⟨rfl, rfl⟩
  rw [Hp.out]
  go_wp2_with fail
  refine (awake_any _).mono ?_
  rintro e w1 ⟨rfl, rfl⟩
  go_wp2
  go_ret
  exact ⟨rfl, rfl⟩

set_option maxRecDepth 100000 in
set_option maxHeartbeats 1600000 in
theorem Exact_walk121 (a b c s p t q d f : Nat) (HA : Hid (a < 18446744073709551616)) (HB : Hid (b < 18446744073709551616)) (HC : Hid (c < 18446744073709551616)) (Hs : Hid (addS a b = s)) (Hp : Hid (mulS a b = p)) (Ht : Hid (addS a c = t)) (Hq : Hid (mulS a c = q)) (Hd : Hid (a - b = d)) (Hf : Hid (a - c = f)) (L1 : Hid (s < 18446744073709551616)) (_L2 : Hid (p < 18446744073709551616)) (F1 : Hid (((s : Int) < 18446744073709551615) → s - b = a)) (_F2 : Hid (0 < b → ((p : Int) < 18446744073709551615) → upS p b = a ∧ multN p b = true)) (F3 : Hid (b ≤ c → s ≤ t ∧ p ≤ q ∧ f ≤ d))
    (k1 : decide ((s : Int) < 18446744073709551615) = true) (k2 : 0 < b) (k3 : decide ((p : Int) < 18446744073709551615) = false) (k4 : b ≤ c) (w : World) :
    Calls Try.prog 5 #[.int .u64 a, .int .u64 b, .int .u64 c] w fun e w' => e = .returned (.bool true) ∧ w = w' := by
  have G1 := Lib.hid (F1.out (of_decide_eq_true k1))
  obtain ⟨g1, g2, g3⟩ := F3.out k4
  go_enter Try.func5, Try.ntmps5
  go_wp2_with fail
  refine (Add_any a b HA.out HB.out _).mono ?_
  rintro e w1 ⟨rfl, rfl⟩
  rw [Hs.out]
  go_wp2_with fail
  refine (Sub_any s b L1.out HB.out _).mono ?_
  rintro e w1 ⟨rfl, rfl⟩
  rw [G1.out]
  go_wp2_with fail
  refine (Mul_any a b HA.out HB.out _).mono ?_
  rintro e w1 ⟨rfl, rfl⟩
  rw [Hp.out]
  go_wp2_with fail
  refine (Add_any a b HA.out HB.out _).mono ?_
  rintro e w1 ⟨rfl, rfl⟩
  rw [Hs.out]
  go_wp2_with fail
  refine (Add_any a c HA.out HC.out _).mono ?_
  rintro e w1 ⟨rfl, rfl⟩
  rw [Ht.out]
  go_wp2_with fail
  refine (Mul_any a b HA.out HB.out _).mono ?_
  rintro e w1 ⟨rfl, rfl⟩
  rw [Hp.out]
  go_wp2_with fail
  refine (Mul_any a c HA.out HC.out _).mono ?_
  rintro e w1 ⟨rfl, rfl⟩
  rw [Hq.out]
  go_wp2_with fail
  refine (Sub_any a b HA.out HB.out _).mono ?_
  rintro e w1 ⟨rfl, rfl⟩
  rw [Hd.out]
  go_wp2_with fail
  refine (Sub_any a c HA.out HC.out _).mono ?_
  rintro e w1 ⟨rfl, rfl⟩
  rw [Hf.out]
  clear k1 k3
  go_wp2_with fail
  refine (awake_any _).mono ?_
  rintro e w1 ⟨rfl, rfl⟩
  go_wp2
  go_ret
  exact ⟨rfl, rfl⟩

set_option maxRecDepth 100000 in
set_option maxHeartbeats 1600000 in
theorem Exact_walk120 (a b c s p t q d f : Nat) (HA : Hid (a < 18446744073709551616)) (HB : Hid (b < 18446744073709551616)) (_HC : Hid (c < 18446744073709551616)) (Hs : Hid (addS a b = s)) (Hp : Hid (mulS a b = p)) (_Ht : Hid (addS a c = t)) (_Hq : Hid (mulS a c = q)) (_Hd : Hid (a - b = d)) (_Hf : Hid (a - c = f)) (L1 : Hid (s < 18446744073709551616)) (_L2 : Hid (p < 18446744073709551616)) (F1 : Hid (((s : Int) < 18446744073709551615) → s - b = a)) (_F2 : Hid (0 < b → ((p : Int) < 18446744073709551615) → upS p b = a ∧ multN p b = true)) (_F3 : Hid (b ≤ c → s ≤ t ∧ p ≤ q ∧ f ≤ d))
    (k1 : decide ((s : Int) < 18446744073709551615) = true) (k2 : 0 < b) (k3 : decide ((p : Int) < 18446744073709551615) = false) (k4 : ¬ b ≤ c) (w : World) :
    Calls Try.prog 5 #[.int .u64 a, .int .u64 b, .int .u64 c] w fun e w' => e = .returned (.bool true) ∧ w = w' := by
  have G1 := Lib.hid (F1.out (of_decide_eq_true k1))
  go_enter Try.func5, Try.ntmps5
  go_wp2_with fail
  refine (Add_any a b HA.out HB.out _).mono ?_
  rintro e w1 ⟨rfl, rfl⟩
  rw [Hs.out]
  go_wp2_with fail
  refine (Sub_any s b L1.out HB.out _).mono ?_
  rintro e w1 ⟨rfl, rfl⟩
  rw [G1.out]
  go_wp2_with fail
  refine (Mul_any a b HA.out HB.out _).mono ?_
  rintro e w1 ⟨rfl, rfl⟩
  rw [Hp.out]
  go_wp2_with fail
  refine (awake_any _).mono ?_
  rintro e w1 ⟨rfl, rfl⟩
  go_wp2
  go_ret
  exact ⟨rfl, rfl⟩

set_option maxRecDepth 100000 in
set_option maxHeartbeats 1600000 in
theorem Exact_walk001 (a b c s p t q d f : Nat) (HA : Hid (a < 18446744073709551616)) (HB : Hid (b < 18446744073709551616)) (HC : Hid (c < 18446744073709551616)) (Hs : Hid (addS a b = s)) (Hp : Hid (mulS a b = p)) (Ht : Hid (addS a c = t)) (Hq : Hid (mulS a c = q)) (Hd : Hid (a - b = d)) (Hf : Hid (a - c = f)) (_L1 : Hid (s < 18446744073709551616)) (L2 : Hid (p < 18446744073709551616)) (_F1 : Hid (((s : Int) < 18446744073709551615) → s - b = a)) (F2 : Hid (0 < b → ((p : Int) < 18446744073709551615) → upS p b = a ∧ multN p b = true)) (F3 : Hid (b ≤ c → s ≤ t ∧ p ≤ q ∧ f ≤ d))
    (k1 : decide ((s : Int) < 18446744073709551615) = false) (k2 : 0 < b) (k3 : decide ((p : Int) < 18446744073709551615) = true) (k4 : b ≤ c) (w : World) :
    Calls Try.prog 5 #[.int .u64 a, .int .u64 b, .int .u64 c] w fun e w' => e = .returned (.bool true) ∧ w = w' := by
  have G2 := Lib.hid (F2.out k2 (of_decide_eq_true k3))
  obtain ⟨g1, g2, g3⟩ := F3.out k4
  go_enter Try.func5, Try.ntmps5
  go_wp2_with fail
  refine (Add_any a b HA.out HB.out _).mono ?_
  rintro e w1 ⟨rfl, rfl⟩
  rw [Hs.out]
  go_wp2_with fail
  refine (Mul_any a b HA.out HB.out _).mono ?_
  rintro e w1 ⟨rfl, rfl⟩
  rw [Hp.out]
  go_wp2_with fail
  refine (Up_any p b L2.out HB.out _).mono ?_
  rintro e w1 ⟨rfl, rfl⟩
  rw [G2.out.1]
  go_wp2_with fail
  refine (Multiple_any p b L2.out HB.out _).mono ?_
  rintro e w1 ⟨rfl, rfl⟩
  rw [G2.out.2]
  go_wp2_with fail
  refine (Add_any a b HA.out HB.out _).mono ?_
  rintro e w1 ⟨rfl, rfl⟩
  rw [Hs.out]
  go_wp2_with fail
  refine (Add_any a c HA.out HC.out _).mono ?_
  rintro e w1 ⟨rfl, rfl⟩
  rw [Ht.out]
  go_wp2_with fail
  refine (Mul_any a b HA.out HB.out _).mono ?_
  rintro e w1 ⟨rfl, rfl⟩
  rw [Hp.out]
  go_wp2_with fail
  refine (Mul_any a c HA.out HC.out _).mono ?_
  rintro e w1 ⟨rfl, rfl⟩
  rw [Hq.out]
  go_wp2_with fail
  refine (Sub_any a b HA.out HB.out _).mono ?_
  rintro e w1 ⟨rfl, rfl⟩
  rw [Hd.out]
  go_wp2_with fail
  refine (Sub_any a c HA.out HC.out _).mono ?_
  rintro e w1 ⟨rfl, rfl⟩
  rw [Hf.out]
  clear k1 k3
  go_wp2_with fail
  refine (awake_any _).mono ?_
  rintro e w1 ⟨rfl, rfl⟩
  go_wp2
  go_ret
  exact ⟨rfl, rfl⟩

set_option maxRecDepth 100000 in
set_option maxHeartbeats 1600000 in
theorem Exact_walk000 (a b c s p t q d f : Nat) (HA : Hid (a < 18446744073709551616)) (HB : Hid (b < 18446744073709551616)) (_HC : Hid (c < 18446744073709551616)) (Hs : Hid (addS a b = s)) (Hp : Hid (mulS a b = p)) (_Ht : Hid (addS a c = t)) (_Hq : Hid (mulS a c = q)) (_Hd : Hid (a - b = d)) (_Hf : Hid (a - c = f)) (_L1 : Hid (s < 18446744073709551616)) (L2 : Hid (p < 18446744073709551616)) (_F1 : Hid (((s : Int) < 18446744073709551615) → s - b = a)) (F2 : Hid (0 < b → ((p : Int) < 18446744073709551615) → upS p b = a ∧ multN p b = true)) (_F3 : Hid (b ≤ c → s ≤ t ∧ p ≤ q ∧ f ≤ d))
    (k1 : decide ((s : Int) < 18446744073709551615) = false) (k2 : 0 < b) (k3 : decide ((p : Int) < 18446744073709551615) = true) (k4 : ¬ b ≤ c) (w : World) :
    Calls Try.prog 5 #[.int .u64 a, .int .u64 b, .int .u64 c] w fun e w' => e = .returned (.bool true) ∧ w = w' := by
  have G2 := Lib.hid (F2.out k2 (of_decide_eq_true k3))
  go_enter Try.func5, Try.ntmps5
  go_wp2_with fail
  refine (Add_any a b HA.out HB.out _).mono ?_
  rintro e w1 ⟨rfl, rfl⟩
  rw [Hs.out]
  go_wp2_with fail
  refine (Mul_any a b HA.out HB.out _).mono ?_
  rintro e w1 ⟨rfl, rfl⟩
  rw [Hp.out]
  go_wp2_with fail
  refine (Up_any p b L2.out HB.out _).mono ?_
  rintro e w1 ⟨rfl, rfl⟩
  rw [G2.out.1]
  go_wp2_with fail
  refine (Multiple_any p b L2.out HB.out _).mono ?_
  rintro e w1 ⟨rfl, rfl⟩
  rw [G2.out.2]
  go_wp2_with fail
  refine (awake_any _).mono ?_
  rintro e w1 ⟨rfl, rfl⟩
  go_wp2
  go_ret
  exact ⟨rfl, rfl⟩

set_option maxRecDepth 100000 in
set_option maxHeartbeats 1600000 in
theorem Exact_walk011 (a b c s p t q d f : Nat) (HA : Hid (a < 18446744073709551616)) (HB : Hid (b < 18446744073709551616)) (HC : Hid (c < 18446744073709551616)) (Hs : Hid (addS a b = s)) (Hp : Hid (mulS a b = p)) (Ht : Hid (addS a c = t)) (Hq : Hid (mulS a c = q)) (Hd : Hid (a - b = d)) (Hf : Hid (a - c = f)) (_L1 : Hid (s < 18446744073709551616)) (_L2 : Hid (p < 18446744073709551616)) (_F1 : Hid (((s : Int) < 18446744073709551615) → s - b = a)) (_F2 : Hid (0 < b → ((p : Int) < 18446744073709551615) → upS p b = a ∧ multN p b = true)) (F3 : Hid (b ≤ c → s ≤ t ∧ p ≤ q ∧ f ≤ d))
    (k1 : decide ((s : Int) < 18446744073709551615) = false) (k2 : ¬ 0 < b) (k4 : b ≤ c) (w : World) :
    Calls Try.prog 5 #[.int .u64 a, .int .u64 b, .int .u64 c] w fun e w' => e = .returned (.bool true) ∧ w = w' := by
  obtain ⟨g1, g2, g3⟩ := F3.out k4
  go_enter Try.func5, Try.ntmps5
  go_wp2_with fail
  refine (Add_any a b HA.out HB.out _).mono ?_
  rintro e w1 ⟨rfl, rfl⟩
  rw [Hs.out]
  go_wp2_with fail
  refine (Mul_any a b HA.out HB.out _).mono ?_
  rintro e w1 ⟨rfl, rfl⟩
  rw [Hp.out]
  go_wp2_with fail
  refine (Add_any a b HA.out HB.out _).mono ?_
  rintro e w1 ⟨rfl, rfl⟩
  rw [Hs.out]
  go_wp2_with fail
  refine (Add_any a c HA.out HC.out _).mono ?_
  rintro e w1 ⟨rfl, rfl⟩
  rw [Ht.out]
  go_wp2_with fail
  refine (Mul_any a b HA.out HB.out _).mono ?_
  rintro e w1 ⟨rfl, rfl⟩
  rw [Hp.out]
  go_wp2_with fail
  refine (Mul_any a c HA.out HC.out _).mono ?_
  rintro e w1 ⟨rfl, rfl⟩
  rw [Hq.out]
  go_wp2_with fail
  refine (Sub_any a b HA.out HB.out _).mono ?_
  rintro e w1 ⟨rfl, rfl⟩
  rw [Hd.out]
  go_wp2_with fail
  refine (Sub_any a c HA.out HC.out _).mono ?_
  rintro e w1 ⟨rfl, rfl⟩
  rw [Hf.out]
  clear k1
  go_wp2_with fail
  refine (awake_any _).mono ?_
  rintro e w1 ⟨rfl, rfl⟩
  go_wp2
  go_ret
  exact ⟨rfl, rfl⟩

set_option maxRecDepth 100000 in
set_option maxHeartbeats 1600000 in
theorem Exact_walk010 (a b c s p t q d f : Nat) (HA : Hid (a < 18446744073709551616)) (HB : Hid (b < 18446744073709551616)) (_HC : Hid (c < 18446744073709551616)) (Hs : Hid (addS a b = s)) (Hp : Hid (mulS a b = p)) (_Ht : Hid (addS a c = t)) (_Hq : Hid (mulS a c = q)) (_Hd : Hid (a - b = d)) (_Hf : Hid (a - c = f)) (_L1 : Hid (s < 18446744073709551616)) (_L2 : Hid (p < 18446744073709551616)) (_F1 : Hid (((s : Int) < 18446744073709551615) → s - b = a)) (_F2 : Hid (0 < b → ((p : Int) < 18446744073709551615) → upS p b = a ∧ multN p b = true)) (_F3 : Hid (b ≤ c → s ≤ t ∧ p ≤ q ∧ f ≤ d))
    (k1 : decide ((s : Int) < 18446744073709551615) = false) (k2 : ¬ 0 < b) (k4 : ¬ b ≤ c) (w : World) :
    Calls Try.prog 5 #[.int .u64 a, .int .u64 b, .int .u64 c] w fun e w' => e = .returned (.bool true) ∧ w = w' := by
  go_enter Try.func5, Try.ntmps5
  go_wp2_with fail
  refine (Add_any a b HA.out HB.out _).mono ?_
  rintro e w1 ⟨rfl, rfl⟩
  rw [Hs.out]
  go_wp2_with fail
  refine (Mul_any a b HA.out HB.out _).mono ?_
  rintro e w1 ⟨rfl, rfl⟩
  rw [Hp.out]
  go_wp2_with fail
  refine (awake_any _).mono ?_
  rintro e w1 ⟨rfl, rfl⟩
  go_wp2
  go_ret
  exact ⟨rfl, rfl⟩

set_option maxRecDepth 100000 in
set_option maxHeartbeats 1600000 in
theorem Exact_walk021 (a b c s p t q d f : Nat) (HA : Hid (a < 18446744073709551616)) (HB : Hid (b < 18446744073709551616)) (HC : Hid (c < 18446744073709551616)) (Hs : Hid (addS a b = s)) (Hp : Hid (mulS a b = p)) (Ht : Hid (addS a c = t)) (Hq : Hid (mulS a c = q)) (Hd : Hid (a - b = d)) (Hf : Hid (a - c = f)) (_L1 : Hid (s < 18446744073709551616)) (_L2 : Hid (p < 18446744073709551616)) (_F1 : Hid (((s : Int) < 18446744073709551615) → s - b = a)) (_F2 : Hid (0 < b → ((p : Int) < 18446744073709551615) → upS p b = a ∧ multN p b = true)) (F3 : Hid (b ≤ c → s ≤ t ∧ p ≤ q ∧ f ≤ d))
    (k1 : decide ((s : Int) < 18446744073709551615) = false) (k2 : 0 < b) (k3 : decide ((p : Int) < 18446744073709551615) = false) (k4 : b ≤ c) (w : World) :
    Calls Try.prog 5 #[.int .u64 a, .int .u64 b, .int .u64 c] w fun e w' => e = .returned (.bool true) ∧ w = w' := by
  obtain ⟨g1, g2, g3⟩ := F3.out k4
  go_enter Try.func5, Try.ntmps5
  go_wp2_with fail
  refine (Add_any a b HA.out HB.out _).mono ?_
  rintro e w1 ⟨rfl, rfl⟩
  rw [Hs.out]
  go_wp2_with fail
  refine (Mul_any a b HA.out HB.out _).mono ?_
  rintro e w1 ⟨rfl, rfl⟩
  rw [Hp.out]
  go_wp2_with fail
  refine (Add_any a b HA.out HB.out _).mono ?_
  rintro e w1 ⟨rfl, rfl⟩
  rw [Hs.out]
  go_wp2_with fail
  refine (Add_any a c HA.out HC.out _).mono ?_
  rintro e w1 ⟨rfl, rfl⟩
  rw [Ht.out]
  go_wp2_with fail
  refine (Mul_any a b HA.out HB.out _).mono ?_
  rintro e w1 ⟨rfl, rfl⟩
  rw [Hp.out]
  go_wp2_with fail
  refine (Mul_any a c HA.out HC.out _).mono ?_
  rintro e w1 ⟨rfl, rfl⟩
  rw [Hq.out]
  go_wp2_with fail
  refine (Sub_any a b HA.out HB.out _).mono ?_
  rintro e w1 ⟨rfl, rfl⟩
  rw [Hd.out]
  go_wp2_with fail
  refine (Sub_any a c HA.out HC.out _).mono ?_
  rintro e w1 ⟨rfl, rfl⟩
  rw [Hf.out]
  clear k1 k3
  go_wp2_with fail
  refine (awake_any _).mono ?_
  rintro e w1 ⟨rfl, rfl⟩
  go_wp2
  go_ret
  exact ⟨rfl, rfl⟩

set_option maxRecDepth 100000 in
set_option maxHeartbeats 1600000 in
theorem Exact_walk020 (a b c s p t q d f : Nat) (HA : Hid (a < 18446744073709551616)) (HB : Hid (b < 18446744073709551616)) (_HC : Hid (c < 18446744073709551616)) (Hs : Hid (addS a b = s)) (Hp : Hid (mulS a b = p)) (_Ht : Hid (addS a c = t)) (_Hq : Hid (mulS a c = q)) (_Hd : Hid (a - b = d)) (_Hf : Hid (a - c = f)) (_L1 : Hid (s < 18446744073709551616)) (_L2 : Hid (p < 18446744073709551616)) (_F1 : Hid (((s : Int) < 18446744073709551615) → s - b = a)) (_F2 : Hid (0 < b → ((p : Int) < 18446744073709551615) → upS p b = a ∧ multN p b = true)) (_F3 : Hid (b ≤ c → s ≤ t ∧ p ≤ q ∧ f ≤ d))
    (k1 : decide ((s : Int) < 18446744073709551615) = false) (k2 : 0 < b) (k3 : decide ((p : Int) < 18446744073709551615) = false) (k4 : ¬ b ≤ c) (w : World) :
    Calls Try.prog 5 #[.int .u64 a, .int .u64 b, .int .u64 c] w fun e w' => e = .returned (.bool true) ∧ w = w' := by
  go_enter Try.func5, Try.ntmps5
  go_wp2_with fail
  refine (Add_any a b HA.out HB.out _).mono ?_
  rintro e w1 ⟨rfl, rfl⟩
  rw [Hs.out]
  go_wp2_with fail
  refine (Mul_any a b HA.out HB.out _).mono ?_
  rintro e w1 ⟨rfl, rfl⟩
  rw [Hp.out]
  go_wp2_with fail
  refine (awake_any _).mono ?_
  rintro e w1 ⟨rfl, rfl⟩
  go_wp2
  go_ret
  exact ⟨rfl, rfl⟩

theorem Exact_walk (a b c : Nat) (ha : a < 18446744073709551616) (hb : b < 18446744073709551616) (hc : c < 18446744073709551616) (w : World) :
    Calls Try.prog 5 #[.int .u64 a, .int .u64 b, .int .u64 c] w fun e w' => e = .returned (.bool true) ∧ w = w' := by
  obtain ⟨s, p, t, q, d, e, hs, hp, ht, hq, hd, he, l1, l2, f1, f2, f3⟩ := exact_facts a b c
  obtain ⟨k1, k2⟩ := exact_cases s p b
  have k4 : b ≤ c ∨ ¬ b ≤ c := Decidable.em _
  rcases k1 with k1 | k1
  · rcases k2 with ⟨k2, k3⟩ | k2 | ⟨k2, k3⟩
    · rcases k4 with k4 | k4
      · exact Exact_walk101 a b c s p t q d e ha hb hc hs hp ht hq hd he l1 l2 f1 f2 f3 (decide_eq_true k1) k2 (decide_eq_true k3) k4 w
      · exact Exact_walk100 a b c s p t q d e ha hb hc hs hp ht hq hd he l1 l2 f1 f2 f3 (decide_eq_true k1) k2 (decide_eq_true k3) k4 w
    · rcases k4 with k4 | k4
      · exact Exact_walk111 a b c s p t q d e ha hb hc hs hp ht hq hd he l1 l2 f1 f2 f3 (decide_eq_true k1) k2 k4 w
      · exact Exact_walk110 a b c s p t q d e ha hb hc hs hp ht hq hd he l1 l2 f1 f2 f3 (decide_eq_true k1) k2 k4 w
    · rcases k4 with k4 | k4
      · exact Exact_walk121 a b c s p t q d e ha hb hc hs hp ht hq hd he l1 l2 f1 f2 f3 (decide_eq_true k1) k2 (decide_eq_false k3) k4 w
      · exact Exact_walk120 a b c s p t q d e ha hb hc hs hp ht hq hd he l1 l2 f1 f2 f3 (decide_eq_true k1) k2 (decide_eq_false k3) k4 w
  · rcases k2 with ⟨k2, k3⟩ | k2 | ⟨k2, k3⟩
    · rcases k4 with k4 | k4
      · exact Exact_walk001 a b c s p t q d e ha hb hc hs hp ht hq hd he l1 l2 f1 f2 f3 (decide_eq_false k1) k2 (decide_eq_true k3) k4 w
      · exact Exact_walk000 a b c s p t q d e ha hb hc hs hp ht hq hd he l1 l2 f1 f2 f3 (decide_eq_false k1) k2 (decide_eq_true k3) k4 w
    · rcases k4 with k4 | k4
      · exact Exact_walk011 a b c s p t q d e ha hb hc hs hp ht hq hd he l1 l2 f1 f2 f3 (decide_eq_false k1) k2 k4 w
      · exact Exact_walk010 a b c s p t q d e ha hb hc hs hp ht hq hd he l1 l2 f1 f2 f3 (decide_eq_false k1) k2 k4 w
    · rcases k4 with k4 | k4
      · exact Exact_walk021 a b c s p t q d e ha hb hc hs hp ht hq hd he l1 l2 f1 f2 f3 (decide_eq_false k1) k2 (decide_eq_false k3) k4 w
      · exact Exact_walk020 a b c s p t q d e ha hb hc hs hp ht hq hd he l1 l2 f1 f2 f3 (decide_eq_false k1) k2 (decide_eq_false k3) k4 w
end Go.Proofs.Ytlcnnkedgdclpaa
