/- The contracts of package sets' Count, Least and Next, and of the library's two functions on bits that they call. -/
import Derived.Test.YtjdklmglljhjhaaDoorW5
import Derived.Test.YtjdklmglljhjhaaDoorMath2
import Derived.Shelf.Spec.TrailingZeros
namespace Go.Proofs.YtjdklmglljhjhaaDoor
open Go.RowKit

theorem memL_succ (n k : Nat) : memL n (k + 1) = if n.testBit k then memL n k ++ [(k : Int)] else memL n k := rfl
theorem memL_cnt (n : Nat) : ∀ k, (memL n k).length = cnt n k
  | 0 => rfl
  | k + 1 => by
    rw [cnt_snoc, ← memL_cnt n k, memL_succ]
    cases h : n.testBit k <;> simp

theorem ones1 (x : Nat) (h : x < 18446744073709551616) : IntKind.u64.wrap (bits .and .u64 ((x : Int) / 2) 6148914691236517205 + bits .and .u64 (x : Int) 6148914691236517205) = (s1 x 6148914691236517205 : Int) := by
  have e : ((x : Int) / 2) = ((x / 2 : Nat) : Int) := by omega
  have l1 : x / 2 &&& 6148914691236517205 ≤ 6148914691236517205 := Nat.and_le_right
  have l2 : x &&& 6148914691236517205 ≤ 6148914691236517205 := Nat.and_le_right
  rw [e, show (6148914691236517205 : Int) = ((6148914691236517205 : Nat) : Int) from rfl, u64_and_nat _ _ (by omega) (by omega), u64_and_nat _ _ h (by omega), IntKind.wrap_u64]
  unfold s1
  omega
theorem ones1_lt (x : Nat) : s1 x 6148914691236517205 < 18446744073709551616 := by
  have l1 : x / 2 &&& 6148914691236517205 ≤ 6148914691236517205 := Nat.and_le_right
  have l2 : x &&& 6148914691236517205 ≤ 6148914691236517205 := Nat.and_le_right
  unfold s1; omega
theorem ones2 (x : Nat) (h : x < 18446744073709551616) : IntKind.u64.wrap (bits .and .u64 ((x : Int) / 4) 3689348814741910323 + bits .and .u64 (x : Int) 3689348814741910323) = (s2 x 3689348814741910323 : Int) := by
  have e : ((x : Int) / 4) = ((x / 4 : Nat) : Int) := by omega
  have l1 : x / 4 &&& 3689348814741910323 ≤ 3689348814741910323 := Nat.and_le_right
  have l2 : x &&& 3689348814741910323 ≤ 3689348814741910323 := Nat.and_le_right
  rw [e, show (3689348814741910323 : Int) = ((3689348814741910323 : Nat) : Int) from rfl, u64_and_nat _ _ (by omega) (by omega), u64_and_nat _ _ h (by omega), IntKind.wrap_u64]
  unfold s2
  omega
theorem ones2_lt (x : Nat) : s2 x 3689348814741910323 < 7378697629483820647 := by
  have l1 : x / 4 &&& 3689348814741910323 ≤ 3689348814741910323 := Nat.and_le_right
  have l2 : x &&& 3689348814741910323 ≤ 3689348814741910323 := Nat.and_le_right
  unfold s2; omega
theorem ones3 (x : Nat) (h : x < 7378697629483820647) : bits .and .u64 (IntKind.u64.wrap ((x : Int) / 16 + (x : Int))) 1085102592571150095 = (s3 x 1085102592571150095 : Int) := by
  have e : IntKind.u64.wrap ((x : Int) / 16 + (x : Int)) = ((x / 16 + x : Nat) : Int) := by rw [IntKind.wrap_u64]; omega
  rw [e, show (1085102592571150095 : Int) = ((1085102592571150095 : Nat) : Int) from rfl, u64_and_nat _ _ (by omega) (by omega)]
  rfl
theorem ones3_lt (x : Nat) : s3 x 1085102592571150095 ≤ 1085102592571150095 := Nat.and_le_right
theorem ones4 (x d : Nat) (h : x ≤ 4611686018427387904) (k : Nat) (hk : k = 256 ∨ k = 65536 ∨ k = 4294967296) (hd : d = x + x / k) : IntKind.u64.wrap ((x : Int) + (x : Int) / (k : Int)) = (d : Int) := by
  rw [IntKind.wrap_u64]
  rcases hk with rfl | rfl | rfl <;> omega
theorem ones7 (x : Nat) (h : x ≤ 4611686018427387904) : bits .and .i64 (wrap64 (x : Int)) 127 = ((x % 128 : Nat) : Int) := by
  have e : wrap64 (x : Int) = (x : Int) := IntWalk.wrap64_in _ ⟨by omega, by omega⟩
  have h1 : (BitVec.ofInt 64 (x : Int)).toNat = x := by
    rw [BitVec.ofInt_natCast, BitVec.toNat_ofNat]; exact Nat.mod_eq_of_lt (by omega)
  have h2 : (BitVec.ofInt 64 (127 : Int)).toNat = 127 := by decide
  rw [e]
  show IntKind.i64.wrap ((BitVec.ofInt 64 (x : Int) &&& BitVec.ofInt 64 (127 : Int)).toNat : Int) = _
  have hm := Nat.and_two_pow_sub_one_eq_mod x 7
  rw [BitVec.toNat_and, h1, h2, show (127 : Nat) = 2 ^ 7 - 1 from rfl, hm]
  exact IntWalk.i64_in _ (by omega)

set_option maxHeartbeats 400000 in
theorem Ones_any (x : Nat) (hx : x < 18446744073709551616) (w : World) :
    Calls Tryd.prog 31 #[.int .u64 x] w fun e w' => e = .returned (.int .i64 (memL x 64).length) ∧ w = w' := by
  go_enter Tryd.func31, Tryd.ntmps31
  go_wp2
  go_ret
  refine ⟨ret_int ?_, rfl⟩
  rw [memL_cnt]
  rw [ones1 x hx]
  obtain ⟨a, ha⟩ : ∃ a, a = s1 x 6148914691236517205 := ⟨_, rfl⟩
  have la := ones1_lt x
  rw [← ha] at la ⊢
  rw [ones2 a la]
  obtain ⟨b, hb⟩ : ∃ b, b = s2 a 3689348814741910323 := ⟨_, rfl⟩
  have lb := ones2_lt a
  rw [← hb] at lb ⊢
  rw [ones3 b lb]
  obtain ⟨c, hc⟩ : ∃ c, c = s3 b 1085102592571150095 := ⟨_, rfl⟩
  have lc := ones3_lt b
  rw [← hc] at lc ⊢
  obtain ⟨d, hd⟩ : ∃ d, d = c + c / 256 := ⟨_, rfl⟩
  have e1 : IntKind.u64.wrap ((c : Int) + (c : Int) / 256) = (d : Int) := ones4 c d (by omega) 256 (by omega) hd
  obtain ⟨e, he⟩ : ∃ e, e = d + d / 65536 := ⟨_, rfl⟩
  have e2 : IntKind.u64.wrap ((d : Int) + (d : Int) / 65536) = (e : Int) := ones4 d e (by omega) 65536 (by omega) he
  obtain ⟨f, hf⟩ : ∃ f, f = e + e / 4294967296 := ⟨_, rfl⟩
  have e3 : IntKind.u64.wrap ((e : Int) + (e : Int) / 4294967296) = (f : Int) := ones4 e f (by omega) 4294967296 (by omega) hf
  rw [e1, e2, e3, ones7 f (by omega), ones_plain x hx a b c d e f ha hb hc hd he hf]

set_option maxHeartbeats 400000 in
theorem Count_any (x : Nat) (hx : x < 18446744073709551616) (w : World) :
    Calls Tryd.prog 18 #[.int .u64 x] w fun e w' => e = .returned (.int .i64 (memL x 64).length) ∧ w = w' := by
  go_enter Tryd.func18, Tryd.ntmps18
  go_wp2_with (go_at_call 31; refine (Ones_any x hx _).mono ?_; rintro e w1 ⟨rfl, rfl⟩)
  go_ret
  exact ⟨rfl, rfl⟩

theorem memL_none (n : Nat) : ∀ k, (∀ j, j < k → n.testBit j = false) → memL n k = []
  | 0, _ => rfl
  | k + 1, h => by
    rw [memL_no n k (h k (by omega))]
    exact memL_none n k fun j hj => h j (by omega)
theorem memL_head (n c : Nat) (hc : n.testBit c = true) (hl : ∀ j, j < c → n.testBit j = false) : ∀ k, c < k → (memL n k).head? = some (c : Int)
  | 0, h => by omega
  | k + 1, h => by
    by_cases e : c = k
    · subst e
      rw [memL_yes n c hc, memL_none n c hl]; rfl
    · have ih := memL_head n c hc hl k (by omega)
      rw [memL_succ]
      split
      · rw [List.head?_append, ih]; rfl
      · exact ih

theorem low_bits (x : Nat) (h0 : x ≠ 0) (h : x < 18446744073709551616) : x.testBit (Lib.ctz 64 x) = true ∧ Lib.ctz 64 x < 64 ∧ ∀ j, j < Lib.ctz 64 x → x.testBit j = false := by
  obtain ⟨m, hm, hc⟩ := Lib.ctzFrom_spec 64 x (by omega) (by omega)
  have e : Lib.ctz 64 x = Lib.ctzFrom 64 x := by unfold Lib.ctz; rw [if_neg h0]
  rw [e]
  generalize Lib.ctzFrom 64 x = c at hm hc
  refine ⟨?_, hc, fun j hj => ?_⟩
  · rw [hm, Nat.testBit_two_pow_mul]; simp
  · rw [hm, Nat.testBit_two_pow_mul]
    have : ¬ j ≥ c := by omega
    simp [this]
theorem leastN_ctz (x : Nat) (h0 : x ≠ 0) (h : x < 18446744073709551616) : leastN x = (Lib.ctz 64 x : Int) := by
  obtain ⟨h1, h2, h3⟩ := low_bits x h0 h
  unfold leastN
  rw [memL_head x _ h1 h3 64 h2]; rfl
theorem leastN_zero : leastN 0 = -1 := by
  unfold leastN
  rw [memL_none 0 64 (fun j _ => by simp)]; rfl

set_option maxHeartbeats 400000 in
theorem tz_core (x k idx : Nat) (w : World) (hx0 : ((x : Int) == 0) = false)
    (key : IntKind.u64.wrap (bits BinOp.and IntKind.u64 (x : Int) (IntKind.u64.wrap (-(x : Int))) * 285870213051353865) / 288230376151711744 = (idx : Int))
    (hi : idx < 64) (hk : k < 64) (hcell : w.cell? ⟨0, idx, none⟩ = some (.int .u8 k)) :
    Calls Tryd.prog 32 #[.int .u64 x] w fun e w' => e = .returned (.int .i64 k) ∧ w = w' := by
  go_enter Tryd.func32, Tryd.ntmps32
  go_wp2_with (simp only [key])
  go_ret
  exact ⟨rfl, rfl⟩
theorem TZ_any (x : Nat) (hx0 : x ≠ 0) (hx : x < 18446744073709551616) (w : World) (hT : TabAt 0 Lib.deBruijn64tab w) :
    Calls Tryd.prog 32 #[.int .u64 x] w fun e w' => e = .returned (.int .i64 (leastN x)) ∧ w = w' := by
  obtain ⟨hlow, hk⟩ := Lib.lowest_bit 64 x hx0 hx
  obtain ⟨hi, htab⟩ := Lib.deBruijn64_at _ hk
  have hcell := hT _ hi
  rw [htab] at hcell
  rw [leastN_ctz x hx0 hx]
  exact tz_core x _ _ w (by simp; omega) (tz64_key x _ hx hx0 hlow) hi hk hcell

set_option maxHeartbeats 400000 in
theorem Least_any (x : Nat) (hx : x < 18446744073709551616) (w : World) (hT : TabAt 0 Lib.deBruijn64tab w) :
    Calls Tryd.prog 20 #[.int .u64 x] w fun e w' => e = .returned (.int .i64 (leastN x)) ∧ w = w' := by
  by_cases h0 : x = 0
  · subst h0
    rw [leastN_zero]
    go_enter Tryd.func20, Tryd.ntmps20
    go_wp2
    go_ret
    exact ⟨rfl, rfl⟩
  · have hb : ((x : Int) == 0) = false := by simp; omega
    have HT := Lib.hid hT
    clear hT
    go_enter Tryd.func20, Tryd.ntmps20
    go_wp2_with (go_at_call 32; refine (TZ_any x h0 hx _ HT.out).mono ?_; rintro e w1 ⟨rfl, rfl⟩)
    go_ret
    exact ⟨rfl, rfl⟩

/-- The members that are at least i are those of the set without all below i. -/
theorem memL_filter (n : Nat) (i : Int) : ∀ k, k ≤ 64 → memL (n &&& (18446744073709551615 - allN i)) k = (memL n k).filter (fun j => decide (i ≤ j))
  | 0, _ => rfl
  | k + 1, h => by
    have ih := memL_filter n i k (by omega)
    have ht : (n &&& (18446744073709551615 - allN i)).testBit k = (n.testBit k && !decide ((k : Int) < i)) := by
      have hk : k < 64 := by omega
      rw [Nat.testBit_and, testBit_not _ _ (allN_lt i), testBit_allN]
      simp [hk]
    rw [memL_succ, memL_succ, ht, ih]
    by_cases hi : (k : Int) < i
    · have : ¬ i ≤ (k : Int) := by omega
      cases hb : n.testBit k <;> simp [hi]
    · have : i ≤ (k : Int) := by omega
      cases hb : n.testBit k <;> simp [hi, this]

theorem next_no (n : Nat) (i : Int) (h : n &&& (18446744073709551615 - allN i) = 0) : nextN n i = leastN n := by
  unfold nextN
  rw [← List.head?_filter, ← memL_filter n i 64 (Nat.le_refl _), h, memL_none 0 64 (fun j _ => by simp)]
  rfl
theorem next_yes (n : Nat) (i : Int) (h : n &&& (18446744073709551615 - allN i) ≠ 0) (hn : n < 18446744073709551616) : nextN n i = leastN (n &&& (18446744073709551615 - allN i)) := by
  have hr : n &&& (18446744073709551615 - allN i) < 18446744073709551616 := Nat.lt_of_le_of_lt Nat.and_le_left hn
  obtain ⟨h1, h2, h3⟩ := low_bits _ h hr
  unfold nextN
  rw [← List.head?_filter, ← memL_filter n i 64 (Nat.le_refl _), leastN_ctz _ h hr, memL_head _ _ h1 h3 64 h2]
  rfl

set_option maxHeartbeats 400000 in
theorem Next_any (n : Nat) (hn : n < 18446744073709551616) (i : Int) (w : World) (hT : TabAt 0 Lib.deBruijn64tab w) :
    Calls Tryd.prog 22 #[.int .u64 n, .int .i64 i] w fun e w' => e = .returned (.int .i64 (nextN n i)) ∧ w = w' := by
  have HT := Lib.hid hT
  clear hT
  have Ha := Lib.hid (u64_andNot_nat n (allN i) hn (allN_lt i))
  have hno := next_no n i
  have hyes := fun h => next_yes n i h hn
  have hr : n &&& (18446744073709551615 - allN i) < 18446744073709551616 := Nat.lt_of_le_of_lt Nat.and_le_left hn
  generalize n &&& (18446744073709551615 - allN i) = r at Ha hno hyes hr
  have Hno := Lib.hid hno
  have Hyes := Lib.hid hyes
  clear hno hyes
  by_cases h0 : r = 0
  · have hb : ((r : Int) != 0) = false := by simp [h0]
    go_enter Tryd.func22, Tryd.ntmps22
    go_wp2_with (first | (go_at_call 10; refine (All_any _ _).mono ?_; rintro e w1 ⟨rfl, rfl⟩; have Hz := Lib.hid Ha.out) | (go_at_call 20; refine (Least_any n hn _ HT.out).mono ?_; rintro e w1 ⟨rfl, rfl⟩) | simp only [Ha.out])
    go_ret
    exact ⟨ret_int (Hno.out h0).symm, rfl⟩
  · have hb : ((r : Int) != 0) = true := by simp; omega
    go_enter Tryd.func22, Tryd.ntmps22
    go_wp2_with (first | (go_at_call 10; refine (All_any _ _).mono ?_; rintro e w1 ⟨rfl, rfl⟩) | (go_at_call 20; refine (Least_any r hr _ HT.out).mono ?_; rintro e w1 ⟨rfl, rfl⟩) | simp only [Ha.out])
    go_ret
    exact ⟨ret_int (Hyes.out h0).symm, rfl⟩
end Go.Proofs.YtjdklmglljhjhaaDoor
