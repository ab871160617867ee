/- Plain mathematics of bit sets as natural numbers below 2^64, without any program: what the functions of package sets and of its reference compute. No conditions but those that each lemma names. -/
import Derived.KernelRfl
namespace Go.Proofs.YtjdklmglljhjhaaDoor

/-- The number whose bits below k are those of f. -/
def bitsOf : Nat → (Nat → Bool) → Nat
  | 0, _ => 0
  | k + 1, f => (f 0).toNat + 2 * bitsOf k (fun j => f (j + 1))

theorem bitsOf_lt (k : Nat) : ∀ f : Nat → Bool, bitsOf k f < 2 ^ k := by
  induction k with
  | zero => intro f; simp [bitsOf]
  | succ k ih =>
    intro f
    have h := ih (fun j => f (j + 1))
    have hb : (f 0).toNat ≤ 1 := Bool.toNat_le (f 0)
    simp only [bitsOf, Nat.pow_succ]
    omega

theorem testBit_bitsOf (k : Nat) : ∀ (f : Nat → Bool) (i : Nat), (bitsOf k f).testBit i = (decide (i < k) && f i) := by
  induction k with
  | zero => intro f i; simp [bitsOf]
  | succ k ih =>
    intro f i
    have hb : (f 0).toNat ≤ 1 := Bool.toNat_le (f 0)
    cases i with
    | zero =>
      simp only [bitsOf, Nat.testBit_zero]
      cases h : f 0 <;> simp <;> omega
    | succ i =>
      rw [Nat.testBit_succ]
      have e : bitsOf (k + 1) f / 2 = bitsOf k (fun j => f (j + 1)) := by
        simp only [bitsOf]; omega
      rw [e, ih]
      simp

theorem bitsOf_self (n : Nat) (h : n < 2 ^ 64) : bitsOf 64 n.testBit = n := by
  apply Nat.eq_of_testBit_eq
  intro i
  rw [testBit_bitsOf]
  by_cases hi : i < 64
  · simp [hi]
  · have : n.testBit i = false := Nat.testBit_lt_two_pow (Nat.lt_of_lt_of_le h (Nat.pow_le_pow_right (by decide) (by omega)))
    simp [hi, this]

theorem bitsOf_congr (k : Nat) (f g : Nat → Bool) (h : ∀ j, j < k → f j = g j) : bitsOf k f = bitsOf k g := by
  apply Nat.eq_of_testBit_eq
  intro i
  rw [testBit_bitsOf, testBit_bitsOf]
  by_cases hi : i < k
  · simp [hi, h i hi]
  · simp [hi]

/-- What lies above bit k. -/
def hiBits (f : Nat → Bool) (k : Nat) : Nat := bitsOf (64 - k) (fun j => f (j + k))

theorem hiBits_top (f : Nat → Bool) : hiBits f 64 = 0 := by simp [hiBits, bitsOf]
theorem hiBits_zero (f : Nat → Bool) : hiBits f 0 = bitsOf 64 f := by simp [hiBits]
theorem hiBits_step (f : Nat → Bool) (k : Nat) (h : k < 64) : hiBits f k = (f k).toNat + 2 * hiBits f (k + 1) := by
  unfold hiBits
  have e : 64 - k = (64 - (k + 1)) + 1 := by omega
  rw [e]
  simp only [bitsOf, Nat.zero_add]
  congr 2
  apply bitsOf_congr
  intro j _
  congr 1
  omega
theorem hiBits_lt (f : Nat → Bool) (k : Nat) : hiBits f k < 18446744073709551616 := by
  have h := bitsOf_lt (64 - k) (fun j => f (j + k))
  have h2 : (2 : Nat) ^ (64 - k) ≤ 2 ^ 64 := Nat.pow_le_pow_right (by decide) (by omega)
  unfold hiBits
  omega
theorem hiBits_lt1 (f : Nat → Bool) (k : Nat) (h : 0 < k) : hiBits f k < 9223372036854775808 := by
  have h1 := bitsOf_lt (64 - k) (fun j => f (j + k))
  have h2 : (2 : Nat) ^ (64 - k) ≤ 2 ^ 63 := Nat.pow_le_pow_right (by decide) (by omega)
  unfold hiBits
  omega

/-- Bit i as a set, for any integer. -/
def bitN (i : Int) : Nat := if i < 0 then 0 else if 64 ≤ i then 0 else 2 ^ i.toNat
/-- All integers below i. -/
def allN (i : Int) : Nat := if i < 0 then 0 else if 64 ≤ i then 18446744073709551615 else 2 ^ i.toNat - 1

/-- Is i a member? -/
def hasN (n : Nat) (i : Int) : Bool := decide (0 ≤ i) && (decide (i < 64) && n.testBit i.toNat)
/-- The set in which i is, or is not. -/
def putN (n : Nat) (i : Int) (b : Bool) : Nat := bitsOf 64 (fun j => if (j : Int) = i then b else n.testBit j)

theorem putN_lt (n : Nat) (i : Int) (b : Bool) : putN n i b < 18446744073709551616 := by
  have := bitsOf_lt 64 (fun j => if (j : Int) = i then b else n.testBit j)
  unfold putN; omega

theorem pow_lt_64 (i : Nat) (h : i < 64) : 2 ^ i < 18446744073709551616 := by
  have := Nat.pow_lt_pow_right (a := 2) (by decide) h
  omega

theorem bitN_lt (i : Int) : bitN i < 18446744073709551616 := by
  unfold bitN
  split
  · omega
  · split
    · omega
    · exact pow_lt_64 _ (by omega)

theorem allN_lt (i : Int) : allN i < 18446744073709551616 := by
  unfold allN
  split
  · omega
  · split
    · omega
    · have := pow_lt_64 i.toNat (by omega); omega

theorem testBit_bitN (i : Int) (j : Nat) : (bitN i).testBit j = (decide ((j : Int) = i) && decide (j < 64)) := by
  unfold bitN
  by_cases h0 : i < 0
  · rw [if_pos h0]
    have : ¬ ((j : Int) = i) := by omega
    simp [this]
  · rw [if_neg h0]
    by_cases h1 : 64 ≤ i
    · rw [if_pos h1]
      by_cases hj : (j : Int) = i
      · have : ¬ j < 64 := by omega
        simp [this]
      · simp [hj]
    · rw [if_neg h1, Nat.testBit_two_pow]
      by_cases hj : (j : Int) = i
      · have h2 : i.toNat = j := by omega
        have h3 : j < 64 := by omega
        simp [hj, h2, h3]
      · have h2 : ¬ i.toNat = j := by omega
        simp [hj, h2]

theorem testBit_allN (i : Int) (j : Nat) : (allN i).testBit j = (decide ((j : Int) < i) && decide (j < 64)) := by
  unfold allN
  by_cases h0 : i < 0
  · rw [if_pos h0]
    have : ¬ ((j : Int) < i) := by omega
    simp [this]
  · rw [if_neg h0]
    by_cases h1 : 64 ≤ i
    · rw [if_pos h1, show (18446744073709551615 : Nat) = 2 ^ 64 - 1 from by decide, Nat.testBit_two_pow_sub_one]
      by_cases hj : j < 64
      · have : (j : Int) < i := by omega
        simp [hj, this]
      · simp [hj]
    · rw [if_neg h1, Nat.testBit_two_pow_sub_one]
      by_cases hj : (j : Int) < i
      · have h2 : j < i.toNat := by omega
        have h3 : j < 64 := by omega
        simp [hj, h2, h3]
      · have h2 : ¬ j < i.toNat := by omega
        simp [hj, h2]

theorem testBit_big (n j : Nat) (h : n < 18446744073709551616) (hj : 64 ≤ j) : n.testBit j = false :=
  Nat.testBit_lt_two_pow (Nat.lt_of_lt_of_le (show n < 2 ^ 64 by omega) (Nat.pow_le_pow_right (by decide) hj))

theorem with_put (n : Nat) (h : n < 18446744073709551616) (i : Int) : n ||| bitN i = putN n i true := by
  apply Nat.eq_of_testBit_eq
  intro j
  rw [Nat.testBit_or, testBit_bitN, putN, testBit_bitsOf]
  by_cases hj : j < 64
  · by_cases e : (j : Int) = i <;> simp [hj, e]
  · have := testBit_big n j h (by omega)
    simp [hj, this]

theorem testBit_not (m j : Nat) (h : m < 18446744073709551616) : (18446744073709551615 - m).testBit j = (decide (j < 64) && !m.testBit j) := by
  have e := @Nat.testBit_two_pow_sub_succ m 64 (by omega) j
  rw [← e]
  congr 1
  omega

theorem without_put (n : Nat) (h : n < 18446744073709551616) (i : Int) : n &&& (18446744073709551615 - bitN i) = putN n i false := by
  apply Nat.eq_of_testBit_eq
  intro j
  rw [Nat.testBit_and, testBit_not _ _ (bitN_lt i), testBit_bitN, putN, testBit_bitsOf]
  by_cases hj : j < 64
  · by_cases e : (j : Int) = i <;> simp [hj, e]
  · have := testBit_big n j h (by omega)
    simp [hj, this]

theorem and_bit (n : Nat) (i : Int) : ((n &&& bitN i) != 0) = hasN n i := by
  unfold hasN
  by_cases h0 : 0 ≤ i
  · by_cases h1 : i < 64
    · have e : bitN i = 2 ^ i.toNat := by unfold bitN; rw [if_neg (by omega), if_neg (by omega)]
      rw [e]
      have ha : n &&& 2 ^ i.toNat = if n.testBit i.toNat then 2 ^ i.toNat else 0 := by
        apply Nat.eq_of_testBit_eq
        intro j
        rw [Nat.testBit_and, Nat.testBit_two_pow]
        by_cases hj : i.toNat = j
        · subst hj
          cases hb : n.testBit i.toNat <;> simp
        · cases hb : n.testBit i.toNat <;> simp [hj]
      rw [ha]
      cases hb : n.testBit i.toNat <;> simp [h0, h1]
    · have e : bitN i = 0 := by unfold bitN; rw [if_neg (by omega), if_pos (by omega)]
      rw [e]; simp [h1]
  · have e : bitN i = 0 := by unfold bitN; rw [if_pos (by omega)]
    rw [e]; simp [h0]

end Go.Proofs.YtjdklmglljhjhaaDoor
