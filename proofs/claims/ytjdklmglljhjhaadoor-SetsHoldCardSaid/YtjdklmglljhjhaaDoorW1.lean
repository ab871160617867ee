/- The contracts of package sets' plain functions: bit, With, Without, Has, All. -/
import Derived.Test.YtjdklmglljhjhaaDoorRows
import Derived.Test.YtjdklmglljhjhaaDoorMath
import Derived.WalkKit
import Derived.WalkSpells
import Derived.WalkLawsBesides
import Derived.Laws.BitsAllLaws
import Derived.Laws.ShiftsVarLaws
namespace Go.Proofs.YtjdklmglljhjhaaDoor
open Go.RowKit

theorem ret_int {k : IntKind} {a b : Int} (h : a = b) : Ending.returned (.int k a) = .returned (.int k b) := by rw [h]

theorem wrap_big : IntKind.u64.wrap 18446744073709551616 = 0 := by rw [IntKind.wrap_u64]; decide
theorem wrap_pow (k : Nat) (h : k < 64) : IntKind.u64.wrap ((2 : Int) ^ k) = ((2 ^ k : Nat) : Int) := by
  have := pow_lt_64 k h
  rw [IntKind.wrap_u64, show ((2 : Int) ^ k) = ((2 ^ k : Nat) : Int) from by simp]
  generalize 2 ^ k = m at *
  omega
theorem bitN_mid (i : Int) (h : ¬ i < 0) (h6 : ¬ 64 ≤ i) : bitN i = 2 ^ i.toNat := by
  unfold bitN; rw [if_neg h, if_neg h6]

set_option maxHeartbeats 400000 in
theorem bit_any (i : Int) (w : World) :
    Calls Tryd.prog 28 #[.int .i64 i] w fun e w' => e = .returned (.int .u64 (bitN i)) ∧ w = w' := by
  by_cases h : i < 0
  · go_enter Tryd.func28, Tryd.ntmps28
    go_wp2
    go_ret
    exact ⟨by simp [bitN, h], rfl⟩
  · by_cases h6 : 64 ≤ i
    · go_enter Tryd.func28, Tryd.ntmps28
      go_wp2
      go_ret
      exact ⟨ret_int (by rw [wrap_big]; simp [bitN, h6]), rfl⟩
    · go_enter Tryd.func28, Tryd.ntmps28
      go_wp2
      go_ret
      exact ⟨ret_int (by rw [wrap_pow _ (by omega), bitN_mid i (by omega) (by omega)]), rfl⟩

set_option maxHeartbeats 400000 in
theorem With_any (n : Nat) (hn : n < 18446744073709551616) (i : Int) (w : World) :
    Calls Tryd.prog 14 #[.int .u64 n, .int .i64 i] w fun e w' => e = .returned (.int .u64 (putN n i true)) ∧ w = w' := by
  have hb := bitN_lt i
  go_enter Tryd.func14, Tryd.ntmps14
  go_wp2_with (go_at_call 28; refine (bit_any _ _).mono ?_; rintro e w' ⟨rfl, rfl⟩)
  go_ret
  exact ⟨ret_int (by rw [u64_or_nat _ _ hn hb, with_put n hn]), rfl⟩

set_option maxHeartbeats 400000 in
theorem Without_any (n : Nat) (hn : n < 18446744073709551616) (i : Int) (w : World) :
    Calls Tryd.prog 16 #[.int .u64 n, .int .i64 i] w fun e w' => e = .returned (.int .u64 (putN n i false)) ∧ w = w' := by
  have hb := bitN_lt i
  go_enter Tryd.func16, Tryd.ntmps16
  go_wp2_with (go_at_call 28; refine (bit_any _ _).mono ?_; rintro e w' ⟨rfl, rfl⟩)
  go_ret
  exact ⟨ret_int (by rw [u64_andNot_nat _ _ hn hb, without_put n hn]), rfl⟩

theorem has_val (n : Nat) (hn : n < 18446744073709551616) (i : Int) : (bits .and .u64 (n : Int) (bitN i : Int) != 0) = hasN n i := by
  rw [u64_and_nat _ _ hn (bitN_lt i), ← and_bit n i]
  rw [Bool.eq_iff_iff, bne_iff_ne, bne_iff_ne]
  omega

set_option maxHeartbeats 400000 in
theorem Has_any (n : Nat) (hn : n < 18446744073709551616) (i : Int) (w : World) :
    Calls Tryd.prog 12 #[.int .u64 n, .int .i64 i] w fun e w' => e = .returned (.bool (hasN n i)) ∧ w = w' := by
  go_enter Tryd.func12, Tryd.ntmps12
  go_wp2_with (go_at_call 28; refine (bit_any _ _).mono ?_; rintro e w' ⟨rfl, rfl⟩)
  go_ret
  exact ⟨by rw [has_val n hn]; rfl, rfl⟩

theorem all_big : IntKind.u64.wrap (IntKind.u64.wrap 18446744073709551616 - 1) = 18446744073709551615 := by rw [wrap_big, IntKind.wrap_u64]; decide
theorem all_mid (k : Nat) (h : k < 64) : IntKind.u64.wrap (IntKind.u64.wrap ((2 : Int) ^ k) - 1) = ((2 ^ k - 1 : Nat) : Int) := by
  have := pow_lt_64 k h
  have h2 := Nat.two_pow_pos k
  rw [wrap_pow k h, IntKind.wrap_u64]
  omega
theorem allN_mid (i : Int) (h : ¬ i < 0) (h6 : ¬ 64 ≤ i) : allN i = 2 ^ i.toNat - 1 := by
  unfold allN; rw [if_neg h, if_neg h6]

set_option maxHeartbeats 400000 in
theorem All_any (i : Int) (w : World) :
    Calls Tryd.prog 10 #[.int .i64 i] w fun e w' => e = .returned (.int .u64 (allN i)) ∧ w = w' := by
  by_cases h : i < 0
  · go_enter Tryd.func10, Tryd.ntmps10
    go_wp2
    go_ret
    exact ⟨by simp [allN, h], rfl⟩
  · by_cases h6 : 64 ≤ i
    · go_enter Tryd.func10, Tryd.ntmps10
      go_wp2
      go_ret
      exact ⟨ret_int (by rw [all_big]; unfold allN; rw [if_neg (by omega), if_pos h6]; rfl), rfl⟩
    · go_enter Tryd.func10, Tryd.ntmps10
      go_wp2
      go_ret
      exact ⟨ret_int (by rw [all_mid _ (by omega), allN_mid i (by omega) (by omega)]), rfl⟩
end Go.Proofs.YtjdklmglljhjhaaDoor
