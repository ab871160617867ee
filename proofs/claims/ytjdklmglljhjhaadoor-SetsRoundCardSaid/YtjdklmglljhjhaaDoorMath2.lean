/- Plain mathematics: the count of the bits of a number below 2^64 by three masked additions and three shifted ones, byte by byte. -/
import Derived.Test.YtjdklmglljhjhaaDoorMath
namespace Go.Proofs.YtjdklmglljhjhaaDoor

/-- How many of the k lowest bits are 1. -/
def cnt : Nat → Nat → Nat
  | _, 0 => 0
  | n, k + 1 => n % 2 + cnt (n / 2) k
theorem cnt_snoc : ∀ (k n : Nat), cnt n (k + 1) = cnt n k + (n.testBit k).toNat
  | 0, n => by
    simp only [cnt, Nat.testBit_zero]
    rcases Nat.mod_two_eq_zero_or_one n with h | h <;> simp [h]
  | k + 1, n => by
    have ih := cnt_snoc k (n / 2)
    rw [show cnt n (k + 1 + 1) = n % 2 + cnt (n / 2) (k + 1) from rfl, ih, show cnt n (k + 1) = n % 2 + cnt (n / 2) k from rfl, Nat.testBit_succ]
    omega

/-- A number out of its lowest byte and the rest. -/
theorem byte_and (b y c d : Nat) (hb : b < 256) (hc : c < 256) : (b + 256 * y) &&& (c + 256 * d) = (b &&& c) + 256 * (y &&& d) := by
  apply Nat.eq_of_testBit_eq
  intro j
  have e1 : b + 256 * y = 2 ^ 8 * y + b := by omega
  have e2 : c + 256 * d = 2 ^ 8 * d + c := by omega
  have hbc : b &&& c < 2 ^ 8 := Nat.lt_of_le_of_lt Nat.and_le_left (by omega)
  have e3 : (b &&& c) + 256 * (y &&& d) = 2 ^ 8 * (y &&& d) + (b &&& c) := by omega
  rw [Nat.testBit_and, e1, e2, e3, Nat.testBit_two_pow_mul_add _ (by omega), Nat.testBit_two_pow_mul_add _ (by omega), Nat.testBit_two_pow_mul_add _ hbc]
  by_cases h : j < 8 <;> simp [h]

def maskOf (m : Nat) : Nat → Nat
  | 0 => 0
  | k + 1 => m + 256 * maskOf m k

def s1 (x M : Nat) : Nat := (x / 2 &&& M) + (x &&& M)
def s2 (x M : Nat) : Nat := (x / 4 &&& M) + (x &&& M)
def s3 (x M : Nat) : Nat := (x / 16 + x) &&& M

/-- The count of a byte's bits, by the first masks. -/
def p1 (b : Nat) : Nat := (b / 2 &&& 85) + (b &&& 85)
def p2 (b : Nat) : Nat := (b / 4 &&& 51) + (b &&& 51)
def p3 (b : Nat) : Nat := (b / 16 + b) &&& 15

theorem p1_t : ∀ b, b < 256 → ∀ t, t < 2 → (b / 2 + 128 * t) &&& 85 = b / 2 &&& 85 := by decide +kernel
theorem p2_t : ∀ b, b < 256 → ∀ t, t < 4 → (b / 4 + 64 * t) &&& 51 = b / 4 &&& 51 := by decide +kernel
theorem p3_t : ∀ b, b < 69 → ∀ t, t < 16 → t < 5 → b % 16 < 5 → (b / 16 + b + 16 * t) &&& 15 = (b / 16 + b) &&& 15 := by decide +kernel
theorem p1_lt : ∀ b, b < 256 → p1 b < 171 := by decide +kernel
theorem p12 : ∀ b, b < 256 → p2 (p1 b) < 69 ∧ p2 (p1 b) % 16 < 5 := by decide +kernel
theorem p123 : ∀ b, b < 256 → p3 (p2 (p1 b)) = cnt b 8 := by decide +kernel

theorem s1_byte (b y m : Nat) (hb : b < 256) : s1 (b + 256 * y) (85 + 256 * m) = p1 b + 256 * s1 y m := by
  unfold s1 p1
  have e : (b + 256 * y) / 2 = (b / 2 + 128 * (y % 2)) + 256 * (y / 2) := by omega
  rw [e, byte_and _ _ _ _ (by omega) (by omega), byte_and _ _ _ _ hb (by omega), p1_t b hb _ (by omega)]
  omega
theorem s2_byte (b y m : Nat) (hb : b < 256) : s2 (b + 256 * y) (51 + 256 * m) = p2 b + 256 * s2 y m := by
  unfold s2 p2
  have e : (b + 256 * y) / 4 = (b / 4 + 64 * (y % 4)) + 256 * (y / 4) := by omega
  rw [e, byte_and _ _ _ _ (by omega) (by omega), byte_and _ _ _ _ hb (by omega), p2_t b hb _ (by omega)]
  omega
theorem s3_byte (b y m : Nat) (hb : b < 69) (hb5 : b % 16 < 5) (hy : y % 16 < 5) : s3 (b + 256 * y) (15 + 256 * m) = p3 b + 256 * s3 y m := by
  unfold s3 p3
  have e : (b + 256 * y) / 16 + (b + 256 * y) = (b / 16 + b + 16 * (y % 16)) + 256 * (y / 16 + y) := by omega
  rw [e, byte_and _ _ _ _ (by omega) (by omega), p3_t b hb _ (by omega) hy hb5]

/-- The byte counts of a number's k lowest bytes, side by side. -/
def side : Nat → Nat → Nat
  | _, 0 => 0
  | x, k + 1 => cnt (x % 256) 8 + 256 * side (x / 256) k

theorem three : ∀ (k x : Nat), x < 256 ^ k → s3 (s2 (s1 x (maskOf 85 k)) (maskOf 51 k)) (maskOf 15 k) = side x k ∧ s2 (s1 x (maskOf 85 k)) (maskOf 51 k) % 16 < 5
  | 0, x, h => by
    have : x = 0 := by simpa using h
    subst this
    simp [s1, s2, s3, side, maskOf]
  | k + 1, x, h => by
    have hx : x = x % 256 + 256 * (x / 256) := by omega
    have hb : x % 256 < 256 := by omega
    have hy : x / 256 < 256 ^ k := by
      rw [Nat.pow_succ] at h
      exact Nat.div_lt_of_lt_mul (by omega)
    obtain ⟨h1, h2⟩ := three k (x / 256) hy
    have g := p12 _ hb
    have hs : side x (k + 1) = cnt (x % 256) 8 + 256 * side (x / 256) k := rfl
    rw [hs]
    generalize hbb : x % 256 = b at *
    generalize hyy : x / 256 = y at *
    subst hx
    have hp := p1_lt b hb
    unfold maskOf
    rw [s1_byte b y _ hb, s2_byte _ _ _ (by omega), s3_byte _ _ _ g.1 g.2 h2, h1, p123 b hb]
    exact ⟨rfl, by omega⟩

theorem bit_of_byte (x : Nat) : x % 256 % 2 = x % 2 ∧ x % 256 / 2 % 2 = x / 2 % 2 ∧ x % 256 / 4 % 2 = x / 4 % 2 ∧ x % 256 / 8 % 2 = x / 8 % 2 ∧ x % 256 / 16 % 2 = x / 16 % 2 ∧ x % 256 / 32 % 2 = x / 32 % 2 ∧
    x % 256 / 64 % 2 = x / 64 % 2 ∧ x % 256 / 128 % 2 = x / 128 % 2 :=
  ⟨by omega, by omega, by omega, by omega, by omega, by omega, by omega, by omega⟩
theorem cnt_byte (x k : Nat) : cnt x (k + 8) = cnt (x % 256) 8 + cnt (x / 256) k := by
  obtain ⟨h0, h1, h2, h3, h4, h5, h6, h7⟩ := bit_of_byte x
  simp only [cnt, Nat.div_div_eq_div_mul, Nat.reduceMul]
  rw [h0, h1, h2, h3, h4, h5, h6, h7]
  generalize cnt (x / 256) k = r
  clear h0 h1 h2 h3 h4 h5 h6 h7
  simp only [Nat.add_assoc, Nat.add_zero]
theorem cnt8_le (x : Nat) : cnt (x % 256) 8 ≤ 8 := by
  have h : ∀ b, b < 256 → cnt b 8 ≤ 8 := by decide +kernel
  exact h _ (by omega)

/-- What the three last shifted additions leave of eight counts side by side. -/
theorem fold1 (c0 a x : Nat) (h0 : c0 ≤ 8) (hx : x = c0 + 256 * a) : x / 256 = a := by omega
theorem fold2 (l m a y : Nat) (hl : l ≤ 16) (hm : m ≤ 16) (hy : y = l + 256 * (m + 256 * a)) : y / 65536 = a := by omega
theorem fold3 (l m o p a z : Nat) (hl : l ≤ 32) (hm : m ≤ 32) (ho : o ≤ 32) (hp : p ≤ 32) (hz : z = l + 256 * (m + 256 * (o + 256 * (p + 256 * a)))) : z / 4294967296 = a := by omega
theorem fold4 (l a m b v : Nat) (hl : l ≤ 32) (hm : m ≤ 32) (hv : v = (l + 256 * a) + (m + 256 * b)) : v % 128 = l + m := by omega
theorem fold_sum (c0 c1 c2 c3 c4 c5 c6 c7 : Nat) (h0 : c0 ≤ 8) (h1 : c1 ≤ 8) (h2 : c2 ≤ 8) (h3 : c3 ≤ 8) (h4 : c4 ≤ 8) (h5 : c5 ≤ 8) (h6 : c6 ≤ 8) (h7 : c7 ≤ 8) (x y z v : Nat)
    (hx : x = c0 + 256 * (c1 + 256 * (c2 + 256 * (c3 + 256 * (c4 + 256 * (c5 + 256 * (c6 + 256 * c7)))))))
    (hy : y = x + x / 256) (hz : z = y + y / 65536) (hv : v = z + z / 4294967296) : v % 128 = (c0 + c1 + c2 + c3) + (c4 + c5 + c6 + c7) := by
  rw [fold1 c0 _ x h0 hx, hx] at hy
  have hy2 : y = (c0 + c1) + 256 * ((c1 + c2) + 256 * ((c2 + c3) + 256 * ((c3 + c4) + 256 * ((c4 + c5) + 256 * ((c5 + c6) + 256 * ((c6 + c7) + 256 * c7)))))) := by
    rw [hy]; simp only [Nat.mul_add, Nat.add_assoc]; ac_rfl
  rw [fold2 (c0 + c1) (c1 + c2) _ y (by clear hx hy hz hy2 hv; omega) (by clear hx hy hz hy2 hv; omega) hy2, hy2] at hz
  have hz2 : z = (c0 + c1 + c2 + c3) + 256 * ((c1 + c2 + c3 + c4) + 256 * ((c2 + c3 + c4 + c5) + 256 * ((c3 + c4 + c5 + c6) + 256 * ((c4 + c5 + c6 + c7) + 256 * ((c5 + c6 + c7) + 256 * ((c6 + c7) + 256 * c7)))))) := by
    rw [hz]; simp only [Nat.mul_add, Nat.add_assoc]; ac_rfl
  rw [fold3 (c0 + c1 + c2 + c3) (c1 + c2 + c3 + c4) (c2 + c3 + c4 + c5) (c3 + c4 + c5 + c6) _ z (by clear hx hy hz hy2 hz2 hv; omega) (by clear hx hy hz hy2 hz2 hv; omega) (by clear hx hy hz hy2 hz2 hv; omega) (by clear hx hy hz hy2 hz2 hv; omega) hz2, hz2] at hv
  exact fold4 _ _ _ _ v (by clear hx hy hz hy2 hz2 hv; omega) (by clear hx hy hz hy2 hz2 hv; omega) hv

theorem mask85 : maskOf 85 8 = 6148914691236517205 := by decide
theorem mask51 : maskOf 51 8 = 3689348814741910323 := by decide
theorem mask15 : maskOf 15 8 = 1085102592571150095 := by decide

theorem ones_plain (x : Nat) (h : x < 18446744073709551616) (a b c d e f : Nat) (ha : a = s1 x 6148914691236517205) (hb : b = s2 a 3689348814741910323) (hc : c = s3 b 1085102592571150095)
    (hd : d = c + c / 256) (he : e = d + d / 65536) (hf : f = e + e / 4294967296) : f % 128 = cnt x 64 := by
  have ht := (three 8 x (by omega)).1
  rw [mask85, mask51, mask15, ← ha, ← hb, ← hc] at ht
  rw [show (64 : Nat) = 56 + 8 from rfl, cnt_byte x 56, show (56 : Nat) = 48 + 8 from rfl, cnt_byte _ 48, show (48 : Nat) = 40 + 8 from rfl, cnt_byte _ 40, show (40 : Nat) = 32 + 8 from rfl, cnt_byte _ 32,
    show (32 : Nat) = 24 + 8 from rfl, cnt_byte _ 24, show (24 : Nat) = 16 + 8 from rfl, cnt_byte _ 16, show (16 : Nat) = 8 + 8 from rfl, cnt_byte _ 8, show cnt _ 8 = cnt _ (0 + 8) from rfl]
  have hq : c = cnt (x % 256) 8 + 256 * (cnt (x / 256 % 256) 8 + 256 * (cnt (x / 256 / 256 % 256) 8 + 256 * (cnt (x / 256 / 256 / 256 % 256) 8 + 256 * (cnt (x / 256 / 256 / 256 / 256 % 256) 8 +
      256 * (cnt (x / 256 / 256 / 256 / 256 / 256 % 256) 8 + 256 * (cnt (x / 256 / 256 / 256 / 256 / 256 / 256 % 256) 8 + 256 * cnt (x / 256 / 256 / 256 / 256 / 256 / 256 / 256 % 256) 8)))))) := by
    rw [ht]; rfl
  have := fold_sum _ _ _ _ _ _ _ _ (cnt8_le x) (cnt8_le (x / 256)) (cnt8_le (x / 256 / 256)) (cnt8_le (x / 256 / 256 / 256)) (cnt8_le (x / 256 / 256 / 256 / 256)) (cnt8_le (x / 256 / 256 / 256 / 256 / 256))
    (cnt8_le (x / 256 / 256 / 256 / 256 / 256 / 256)) (cnt8_le (x / 256 / 256 / 256 / 256 / 256 / 256 / 256)) c d e f hq hd he hf
  rw [this, show cnt (x / 256 / 256 / 256 / 256 / 256 / 256 / 256) (0 + 8) = cnt (x / 256 / 256 / 256 / 256 / 256 / 256 / 256 % 256) 8 from by rw [cnt_byte]; rfl]
  simp only [Nat.add_assoc]
end Go.Proofs.YtjdklmglljhjhaaDoor
