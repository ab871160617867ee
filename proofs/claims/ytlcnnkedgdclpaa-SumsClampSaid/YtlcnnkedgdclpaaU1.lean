/- The contracts of package sums' plain functions and of their reference: Add, Sub, Mul, Up, Multiple. -/
import Derived.Test.YtlcnnkedgdclpaaRows
import Derived.Test.YtlcnnkedgdclpaaShelf
import Derived.WalkKit
import Derived.WalkSpells
import Derived.WalkLawsBesides
import Derived.Laws.Externs
import Derived.Lib.Hide
namespace Go.Proofs.Ytlcnnkedgdclpaa
open Go.RowKit

theorem ret_u64 {a b : Nat} (h : a = b) : Ending.returned (.int .u64 (a : Int)) = .returned (.int .u64 (b : Int)) := by rw [h]
theorem ret_u64i {a : Int} {b : Nat} (h : a = (b : Int)) : Ending.returned (.int .u64 a) = .returned (.int .u64 (b : Int)) := by rw [h]
theorem ret_bool {a b : Bool} (h : a = b) : Ending.returned (.bool a) = .returned (.bool b) := by rw [h]
theorem neq_self (a : Int) : (a != a) = false := by simp

/-- The sum, the product, the quotient rounded up: saturated. -/
def addS (a b : Nat) : Nat := if a + b < 18446744073709551616 then a + b else 18446744073709551615
def mulS (a b : Nat) : Nat := if a * b < 18446744073709551616 then a * b else 18446744073709551615
def upS (a b : Nat) : Nat := if b = 0 then 18446744073709551615 else if a % b = 0 then a / b else a / b + 1
def multN (a b : Nat) : Bool := decide (0 < b) && decide (a % b = 0)
theorem addS_lt (a b : Nat) : addS a b < 18446744073709551616 := by unfold addS; split <;> omega
theorem mulS_lt (a b : Nat) : mulS a b < 18446744073709551616 := by unfold mulS; split <;> omega
theorem upS_lt (a b : Nat) (ha : a < 18446744073709551616) : upS a b < 18446744073709551616 := by
  unfold upS
  have h := Nat.div_le_self a b
  split
  · omega
  · split
    · omega
    · rename_i h0 h1
      have h2 : a / b ≤ a / 2 := by
        rcases Nat.lt_or_ge b 2 with h | h
        · obtain rfl : b = 1 := by omega
          omega
        · exact Nat.div_le_div_left h (by omega)
      omega

theorem add64_run (a b : Nat) (w : World) :
    (callFunc 26 #[.int .u64 a, .int .u64 b, .int .u64 0]).run Try.prog w =
      .ok (.value (.tuple #[.int .u64 (((a + b) % 18446744073709551616 : Nat) : Int), .int .u64 (((a + b) / 18446744073709551616 : Nat) : Int)])) w := by
  rw [run_callFunc_extern Try.func26 (by kernel_rfl) (by kernel_rfl) (by kernel_rfl) (e := add64Entry) (by kernel_rfl), run_add64 a b 0 (by omega) (by omega) (by omega) (by omega)]
  simp only [Result.andThen]
  congr 5 <;> omega

set_option maxHeartbeats 400000 in
theorem Add_any (a b : Nat) (ha : a < 18446744073709551616) (hb : b < 18446744073709551616) (w : World) :
    Calls Try.prog 7 #[.int .u64 a, .int .u64 b] w fun e w' => e = .returned (.int .u64 (addS a b)) ∧ w = w' := by
  by_cases h : a + b < 18446744073709551616
  · have h1 : (a + b) / 18446744073709551616 = 0 := by omega
    have h2 : (a + b) % 18446744073709551616 = a + b := by omega
    go_enter Try.func7, Try.ntmps7
    go_wp2_with (rw [add64_run, h1, h2])
    go_ret
    exact ⟨ret_u64 (by unfold addS; rw [if_pos h]), rfl⟩
  · have h1 : (a + b) / 18446744073709551616 = 1 := by omega
    go_enter Try.func7, Try.ntmps7
    go_wp2_with (rw [add64_run, h1])
    go_ret
    exact ⟨ret_u64 (b := addS a b) (a := 18446744073709551615) (by unfold addS; rw [if_neg h]), rfl⟩

set_option maxHeartbeats 400000 in
theorem RAdd_any (a b : Nat) (ha : a < 18446744073709551616) (hb : b < 18446744073709551616) (w : World) :
    Calls Try.prog 8 #[.int .u64 a, .int .u64 b] w fun e w' => e = .returned (.int .u64 (addS a b)) ∧ w = w' := by
  have hw : IntKind.u64.wrap (18446744073709551615 - (a : Int)) = 18446744073709551615 - (a : Int) := by rw [IntKind.wrap_u64]; omega
  by_cases h : a + b < 18446744073709551616
  · have hc : ¬ (18446744073709551615 - (a : Int)) < (b : Int) := by omega
    go_enter Try.func8, Try.ntmps8
    go_wp2
    go_ret
    exact ⟨ret_u64i (by unfold addS; rw [if_pos h]; omega), rfl⟩
  · have hc : (18446744073709551615 - (a : Int)) < (b : Int) := by omega
    go_enter Try.func8, Try.ntmps8
    go_wp2
    go_ret
    exact ⟨ret_u64i (by unfold addS; rw [if_neg h]; rfl), rfl⟩

set_option maxHeartbeats 400000 in
theorem Sub_any (a b : Nat) (ha : a < 18446744073709551616) (hb : b < 18446744073709551616) (w : World) :
    Calls Try.prog 9 #[.int .u64 a, .int .u64 b] w fun e w' => e = .returned (.int .u64 ((a - b : Nat) : Int)) ∧ w = w' := by
  by_cases h : a < b
  · go_enter Try.func9, Try.ntmps9
    go_wp2
    go_ret
    exact ⟨ret_u64i (by omega), rfl⟩
  · go_enter Try.func9, Try.ntmps9
    go_wp2
    go_ret
    exact ⟨ret_u64i (by omega), rfl⟩

set_option maxHeartbeats 400000 in
theorem RSub_any (a b : Nat) (ha : a < 18446744073709551616) (hb : b < 18446744073709551616) (w : World) :
    Calls Try.prog 10 #[.int .u64 a, .int .u64 b] w fun e w' => e = .returned (.int .u64 ((a - b : Nat) : Int)) ∧ w = w' := by
  by_cases h : a < b
  · go_enter Try.func10, Try.ntmps10
    go_wp2
    go_ret
    exact ⟨ret_u64i (by omega), rfl⟩
  · go_enter Try.func10, Try.ntmps10
    go_wp2
    go_ret
    exact ⟨ret_u64i (by omega), rfl⟩

set_option maxHeartbeats 400000 in
theorem Mul_any (a b : Nat) (ha : a < 18446744073709551616) (hb : b < 18446744073709551616) (w : World) :
    Calls Try.prog 11 #[.int .u64 a, .int .u64 b] w fun e w' => e = .returned (.int .u64 (mulS a b)) ∧ w = w' := by
  obtain ⟨m, hm⟩ : ∃ m, a * b = m := ⟨_, rfl⟩
  have Hm := Lib.hid hm
  by_cases h : m < 18446744073709551616
  · have h1 : m / 18446744073709551616 = 0 := by omega
    have h2 : m % 18446744073709551616 = m := by omega
    have hv : mulS a b = m := by unfold mulS; rw [hm, if_pos h]
    clear hm
    go_enter Try.func11, Try.ntmps11
    go_wp2_with (go_at_call 27; refine (Try.bits_Mul64 a b ha hb _).mono ?_; rintro e w' ⟨rfl, rfl⟩; rw [Hm.out, h1, h2])
    go_ret
    exact ⟨ret_u64 hv.symm, rfl⟩
  · obtain ⟨q, hq⟩ : ∃ q, m / 18446744073709551616 = q := ⟨_, rfl⟩
    have h0 : ¬ ((q : Nat) : Int) = 0 := by omega
    have hv : mulS a b = 18446744073709551615 := by unfold mulS; rw [hm, if_neg h]
    have Hq := Lib.hid hq
    clear hm hq
    go_enter Try.func11, Try.ntmps11
    go_wp2_with (go_at_call 27; refine (Try.bits_Mul64 a b ha hb _).mono ?_; rintro e w' ⟨rfl, rfl⟩; rw [Hm.out, Hq.out])
    go_ret
    exact ⟨ret_u64i (by rw [hv]; rfl), rfl⟩

theorem room (a b : Nat) (hb : 0 < b) : a * b < 18446744073709551616 ↔ ¬ 18446744073709551615 / b < a := by
  rw [Nat.not_lt, Nat.le_div_iff_mul_le hb]; omega
theorem divI (a b : Nat) : (a : Int) / (b : Int) = ((a / b : Nat) : Int) := rfl
theorem modI (a b : Nat) : (a : Int) % (b : Int) = ((a % b : Nat) : Int) := rfl
theorem divT (a b : Nat) : Int.tdiv (a : Int) (b : Int) = ((a / b : Nat) : Int) := rfl
theorem modT (a b : Nat) : Int.tmod (a : Int) (b : Int) = ((a % b : Nat) : Int) := rfl
theorem divB (b : Nat) : (18446744073709551615 : Int) / (b : Int) = ((18446744073709551615 / b : Nat) : Int) := rfl
theorem mulI (a b : Nat) : (a : Int) * (b : Int) = ((a * b : Nat) : Int) := (Int.natCast_mul a b).symm

set_option maxHeartbeats 400000 in
theorem RMul_any (a b : Nat) (_ha : a < 18446744073709551616) (hb : b < 18446744073709551616) (w : World) :
    Calls Try.prog 12 #[.int .u64 a, .int .u64 b] w fun e w' => e = .returned (.int .u64 (mulS a b)) ∧ w = w' := by
  by_cases h0 : 0 < b
  · have hr := room a b h0
    have hd := Nat.div_le_self 18446744073709551615 b
    by_cases h : 18446744073709551615 / b < a
    · have hd1 : (18446744073709551615 : Int) / (b : Int) < (a : Int) := Int.ofNat_lt.2 h
      have hd2 : 0 ≤ (18446744073709551615 : Int) / (b : Int) := Int.natCast_nonneg _
      have hd3 : (18446744073709551615 : Int) / (b : Int) ≤ 18446744073709551615 := Int.ofNat_le.2 hd
      have hv : mulS a b = 18446744073709551615 := by unfold mulS; rw [if_neg (by omega)]
      clear hr
      go_enter Try.func12, Try.ntmps12
      go_wp2
      go_ret
      exact ⟨ret_u64i (by rw [hv]; rfl), rfl⟩
    · have hm := hr.2 h
      have hd1 : ¬ (18446744073709551615 : Int) / (b : Int) < (a : Int) := fun x => h (Int.ofNat_lt.1 x)
      have hd2 : 0 ≤ (18446744073709551615 : Int) / (b : Int) := Int.natCast_nonneg _
      have hd3 : (18446744073709551615 : Int) / (b : Int) ≤ 18446744073709551615 := Int.ofNat_le.2 hd
      have hv : mulS a b = a * b := by unfold mulS; rw [if_pos hm]
      clear hr
      go_enter Try.func12, Try.ntmps12
      go_wp2
      go_ret
      exact ⟨ret_u64i (by rw [mulI]), rfl⟩
  · obtain rfl : b = 0 := by omega
    go_enter Try.func12, Try.ntmps12
    go_wp2
    go_ret
    exact ⟨ret_u64i (by unfold mulS; rfl), rfl⟩

theorem wrap_nat (n : Nat) (h : n < 18446744073709551616) : IntKind.u64.wrap (n : Int) = (n : Int) := by rw [IntKind.wrap_u64]; omega
theorem wrap_div (a b : Nat) (h : a < 18446744073709551616) : IntKind.u64.wrap ((a : Int) / (b : Int)) = ((a / b : Nat) : Int) :=
  wrap_nat (a / b) (Nat.lt_of_le_of_lt (Nat.div_le_self a b) h)
theorem wrap_div1 (a b : Nat) (h : a < 18446744073709551616) (h1 : a / b + 1 < 18446744073709551616) : IntKind.u64.wrap (IntKind.u64.wrap ((a : Int) / (b : Int)) + 1) = ((a / b + 1 : Nat) : Int) := by
  rw [wrap_div a b h]; exact wrap_nat (a / b + 1) h1
theorem mod_ne (a b : Nat) (h : a % b = 0) : ((a : Int) % (b : Int) != 0) = false := by
  have : (a : Int) % (b : Int) = 0 := congrArg Int.ofNat h
  rw [this]; rfl
theorem mod_ne' (a b : Nat) (h : ¬ a % b = 0) : ((a : Int) % (b : Int) != 0) = true := by
  have : ¬ (a : Int) % (b : Int) = 0 := fun x => h (Int.ofNat.inj x)
  simpa using this
theorem mod_eq (a b : Nat) (h : a % b = 0) : ((a : Int) % (b : Int) == 0) = true := by
  have : (a : Int) % (b : Int) = 0 := congrArg Int.ofNat h
  rw [this]; rfl
theorem mod_eq' (a b : Nat) (h : ¬ a % b = 0) : ((a : Int) % (b : Int) == 0) = false := by
  have : ¬ (a : Int) % (b : Int) = 0 := fun x => h (Int.ofNat.inj x)
  simpa using this

set_option maxHeartbeats 400000 in
theorem Up_any (a b : Nat) (ha : a < 18446744073709551616) (hb : b < 18446744073709551616) (w : World) :
    Calls Try.prog 13 #[.int .u64 a, .int .u64 b] w fun e w' => e = .returned (.int .u64 (upS a b)) ∧ w = w' := by
  have hu := upS_lt a b ha
  by_cases h0 : b = 0
  · subst h0
    go_enter Try.func13, Try.ntmps13
    go_wp2
    go_ret
    exact ⟨ret_u64i (by rfl), rfl⟩
  · by_cases h : a % b = 0
    · have hm := mod_ne a b h
      have hv : upS a b = a / b := by unfold upS; rw [if_neg h0, if_pos h]
      clear h hu
      go_enter Try.func13, Try.ntmps13
      go_wp2
      go_ret
      exact ⟨ret_u64i (by rw [hv]; exact wrap_div a b ha), rfl⟩
    · have hm := mod_ne' a b h
      have hv : upS a b = a / b + 1 := by unfold upS; rw [if_neg h0, if_neg h]
      rw [hv] at hu
      clear h
      go_enter Try.func13, Try.ntmps13
      go_wp2
      go_ret
      exact ⟨ret_u64i (by rw [hv]; exact wrap_div1 a b ha hu), rfl⟩

set_option maxHeartbeats 400000 in
theorem RUp_any (a b : Nat) (ha : a < 18446744073709551616) (hb : b < 18446744073709551616) (w : World) :
    Calls Try.prog 14 #[.int .u64 a, .int .u64 b] w fun e w' => e = .returned (.int .u64 (upS a b)) ∧ w = w' := by
  have hu := upS_lt a b ha
  by_cases h0 : b = 0
  · subst h0
    go_enter Try.func14, Try.ntmps14
    go_wp2
    go_ret
    exact ⟨ret_u64i (by rfl), rfl⟩
  · by_cases h : a % b = 0
    · have hm := mod_eq a b h
      have hv : upS a b = a / b := by unfold upS; rw [if_neg h0, if_pos h]
      clear h hu
      go_enter Try.func14, Try.ntmps14
      go_wp2
      go_ret
      exact ⟨ret_u64i (by rw [hv]; exact wrap_div a b ha), rfl⟩
    · have hm := mod_eq' a b h
      have hv : upS a b = a / b + 1 := by unfold upS; rw [if_neg h0, if_neg h]
      rw [hv] at hu
      clear h
      go_enter Try.func14, Try.ntmps14
      go_wp2
      go_ret
      exact ⟨ret_u64i (by rw [hv]; exact wrap_div1 a b ha hu), rfl⟩

theorem mult_pos (a b : Nat) (h : 0 < b) : multN a b = ((a : Int) % (b : Int) == 0) := by
  unfold multN
  rw [decide_eq_true h, Bool.true_and]
  by_cases h1 : a % b = 0
  · rw [mod_eq a b h1, decide_eq_true h1]
  · rw [mod_eq' a b h1, decide_eq_false h1]

set_option maxHeartbeats 400000 in
theorem Multiple_any (a b : Nat) (ha : a < 18446744073709551616) (hb : b < 18446744073709551616) (w : World) :
    Calls Try.prog 15 #[.int .u64 a, .int .u64 b] w fun e w' => e = .returned (.bool (multN a b)) ∧ w = w' := by
  by_cases h0 : 0 < b
  · have hv := mult_pos a b h0
    go_enter Try.func15, Try.ntmps15
    go_wp2
    go_ret
    exact ⟨ret_bool hv.symm, rfl⟩
  · obtain rfl : b = 0 := by omega
    go_enter Try.func15, Try.ntmps15
    go_wp2
    go_ret
    exact ⟨rfl, rfl⟩

set_option maxHeartbeats 400000 in
theorem RMultiple_any (a b : Nat) (ha : a < 18446744073709551616) (hb : b < 18446744073709551616) (w : World) :
    Calls Try.prog 16 #[.int .u64 a, .int .u64 b] w fun e w' => e = .returned (.bool (multN a b)) ∧ w = w' := by
  by_cases h0 : 0 < b
  · have hv := mult_pos a b h0
    go_enter Try.func16, Try.ntmps16
    go_wp2
    go_ret
    exact ⟨ret_bool hv.symm, rfl⟩
  · obtain rfl : b = 0 := by omega
    go_enter Try.func16, Try.ntmps16
    go_wp2
    go_ret
    exact ⟨rfl, rfl⟩

set_option maxHeartbeats 400000 in
theorem awake_any (w : World) :
    Calls Try.prog 17 #[] w fun e w' => e = .returned (.bool true) ∧ w = w' := by
  have e1 : addS 18446744073709551615 5 = 18446744073709551615 := by decide
  have e2 : upS 7 3 = 3 := by decide
  go_enter Try.func17, Try.ntmps17
  go_wp2_with fail
  refine (Add_any 18446744073709551615 5 (by decide) (by decide) _).mono ?_
  rintro e w1 ⟨rfl, rfl⟩
  rw [e1]
  go_wp2_with fail
  refine (Sub_any 3 5 (by decide) (by decide) _).mono ?_
  rintro e w1 ⟨rfl, rfl⟩
  go_wp2_with fail
  refine (Up_any 7 3 (by decide) (by decide) _).mono ?_
  rintro e w1 ⟨rfl, rfl⟩
  rw [e2]
  go_wp2
  go_ret
  exact ⟨rfl, rfl⟩
end Go.Proofs.Ytlcnnkedgdclpaa
