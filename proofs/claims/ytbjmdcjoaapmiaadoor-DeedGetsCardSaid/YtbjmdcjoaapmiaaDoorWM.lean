/- Plain mathematics of layer 4: numbers as bytes, the value of bytes, and what a reader answers. -/
import Derived.Lib.BitFns
namespace Go.Proofs.YtbjmdcjoaapmiaaDoor.Wire

theorem bitAux_lt : ∀ (f x : Nat), x < 2 ^ f → x < 2 ^ Lib.bitLenAux f x ∧ Lib.bitLenAux f x ≤ f ∧ (x = 0 → Lib.bitLenAux f x = 0) ∧ (0 < x → 0 < Lib.bitLenAux f x ∧ 2 ^ (Lib.bitLenAux f x - 1) ≤ x)
  | 0, x, h => by simp [Lib.bitLenAux] at h ⊢; omega
  | f + 1, x, h => by
    unfold Lib.bitLenAux
    by_cases h0 : x = 0
    · simp [h0]
    · rw [if_neg h0]
      obtain ⟨h1, h2, h3, h4⟩ := bitAux_lt f (x / 2) (by rw [Nat.pow_succ] at h; omega)
      refine ⟨?_, by omega, fun e => absurd e h0, fun _ => ⟨by omega, ?_⟩⟩
      · rw [Nat.add_comm, Nat.pow_succ]; omega
      · rw [Nat.add_sub_cancel_left]
        by_cases h5 : x / 2 = 0
        · rw [h3 h5]; omega
        · obtain ⟨h6, h7⟩ := h4 (by omega)
          obtain ⟨k, hk⟩ : ∃ k, Lib.bitLenAux f (x / 2) = k + 1 := ⟨_, (Nat.succ_pred_eq_of_pos h6).symm⟩
          rw [hk] at h7 ⊢
          rw [Nat.pow_succ]
          simp at h7
          omega

/-- How many bytes a number wants. -/
def nb (x : Nat) : Nat := (Lib.bitLen x + 7) / 8
theorem pow256 (n : Nat) : 256 ^ n = 2 ^ (8 * n) := by rw [Nat.pow_mul]
theorem nb_facts (x : Nat) (h : x < 18446744073709551616) : nb x ≤ 8 ∧ x < 256 ^ nb x ∧ (0 < nb x → 256 ^ (nb x - 1) ≤ x) := by
  obtain ⟨h1, h2, h3, h4⟩ := bitAux_lt 64 x h
  unfold nb Lib.bitLen
  generalize Lib.bitLenAux 64 x = b at *
  refine ⟨by omega, ?_, fun hp => ?_⟩
  · rw [pow256]
    exact Nat.lt_of_lt_of_le h1 (Nat.pow_le_pow_right (by decide) (by omega))
  · rw [pow256]
    have hx : 0 < x := by
      rcases Nat.eq_zero_or_pos x with e | e
      · have := h3 e; omega
      · exact e
    exact Nat.le_trans (Nat.pow_le_pow_right (by decide) (by omega)) (h4 hx).2
theorem nb_uniq (x k : Nat) (h : x < 18446744073709551616) (h1 : x < 256 ^ k) (h2 : 0 < k → 256 ^ (k - 1) ≤ x) : nb x = k := by
  obtain ⟨_, f1, f2⟩ := nb_facts x h
  rcases Nat.lt_trichotomy (nb x) k with hlt | heq | hgt
  · have h3 := h2 (by omega)
    have h4 : 256 ^ nb x ≤ 256 ^ (k - 1) := Nat.pow_le_pow_right (by decide) (by omega)
    omega
  · exact heq
  · have h3 := f2 (by omega)
    have h4 : 256 ^ k ≤ 256 ^ (nb x - 1) := Nat.pow_le_pow_right (by decide) (by omega)
    omega

/-- The last n bytes of a number, the greatest first. -/
def be : Nat → Nat → List UInt8
  | 0, _ => []
  | n + 1, x => be n (x / 256) ++ [UInt8.ofNat (x % 256)]
theorem be_len : ∀ n x, (be n x).length = n
  | 0, _ => rfl
  | n + 1, x => by rw [be, List.length_append, be_len n]; rfl
theorem be_cons : ∀ n x, be (n + 1) x = UInt8.ofNat (x / 256 ^ n % 256) :: be n x
  | 0, x => by simp [be]
  | n + 1, x => by
    rw [be, be_cons n (x / 256), List.cons_append, Nat.div_div_eq_div_mul, Nat.pow_succ, Nat.mul_comm (256 ^ n)]; rfl
theorem be_step (m x i : Nat) : be m (x / 256 ^ (i + 1)) ++ [UInt8.ofNat (x / 256 ^ i % 256)] = be (m + 1) (x / 256 ^ i) := by
  rw [be, Nat.div_div_eq_div_mul, Nat.pow_succ]

/-- The value of bytes. -/
def val (l : List UInt8) : Nat := l.foldl (fun x c => x * 256 + c.toNat) 0
theorem val_snoc (l : List UInt8) (c : UInt8) : val (l ++ [c]) = val l * 256 + c.toNat := by simp [val]
theorem val_lt (l : List UInt8) : val l < 256 ^ l.length := by
  rcases List.eq_nil_or_concat l with rfl | ⟨l', c, rfl⟩
  · decide
  · rw [List.concat_eq_append, val_snoc, List.length_append, List.length_singleton, Nat.pow_succ]
    have := val_lt l'
    have := c.toNat_lt
    omega
  termination_by l.length
theorem val_be : ∀ n x, val (be n x) = x % 256 ^ n
  | 0, x => by simp [be, val, Nat.mod_one]
  | n + 1, x => by
    rw [be, val_snoc, val_be n, Nat.pow_succ, Nat.mul_comm (256 ^ n) 256, Nat.mod_mul, UInt8.toNat_ofNat_of_lt' (by show x % 256 < 256; omega)]
    omega
theorem be_val (l : List UInt8) : be l.length (val l) = l := by
  rcases List.eq_nil_or_concat l with rfl | ⟨l', c, rfl⟩
  · rfl
  · rw [List.concat_eq_append, val_snoc, List.length_append, List.length_singleton, be]
    have hc := c.toNat_lt
    rw [show (val l' * 256 + c.toNat) / 256 = val l' by omega, show (val l' * 256 + c.toNat) % 256 = c.toNat by omega, be_val l']
    simp
  termination_by l.length
theorem val_cons (c : UInt8) (l : List UInt8) : val (c :: l) = c.toNat * 256 ^ l.length + val l := by
  rcases List.eq_nil_or_concat l with rfl | ⟨l', d, rfl⟩
  · simp [val]
  · rw [List.concat_eq_append, ← List.cons_append, val_snoc, val_snoc, val_cons c l', List.length_append, List.length_singleton, Nat.pow_succ, Nat.add_mul, Nat.mul_assoc, Nat.add_assoc]
  termination_by l.length

/-- A number as bytes. -/
def numB (x : Nat) : List UInt8 := UInt8.ofNat (nb x) :: be (nb x) x
theorem numB_len (x : Nat) (h : x < 18446744073709551616) : (numB x).length ≤ 9 := by
  have := (nb_facts x h).1
  rw [numB, List.length_cons, be_len]; omega
/-- A truth as bytes. -/
def truB (b : Bool) : List UInt8 := [if b then 1 else 0]
/-- Bytes in a row, as bytes. -/
def bytB (l : List UInt8) : List UInt8 := numB l.length ++ l

/-- What a reader stands at: bytes that are left, or an error. -/
inductive RS where
  | ok (l : List UInt8)
  | err (e : Nat)
def RS.code : RS → Nat
  | .ok _ => 0
  | .err e => e
def RS.left : RS → List UInt8
  | .ok l => l
  | .err _ => []
def rdByte : RS → RS × Nat
  | .ok [] => (.err 2, 0)
  | .ok (c :: l) => (.ok l, c.toNat)
  | .err e => (.err e, 0)
def rdNum : RS → RS × Nat
  | .ok [] => (.err 2, 0)
  | .ok (c :: l) => if 8 < c.toNat then (.err 3, 0) else if l.length < c.toNat then (.err 2, 0) else if 0 < c.toNat ∧ l.getD 0 0 = 0 then (.err 3, 0) else (.ok (l.drop c.toNat), val (l.take c.toNat))
  | .err e => (.err e, 0)
def upto (most : Nat) : RS × Nat → RS × Nat
  | (.ok l, x) => if most < x then (.err 5, 0) else (.ok l, x)
  | (.err e, _) => (.err e, 0)
def truth : RS × Nat → RS × Bool
  | (.ok l, x) => if 1 < x then (.err 3, false) else (.ok l, x == 1)
  | (.err e, _) => (.err e, false)
def bytesOf (most : Int) : RS × Nat → RS × List UInt8
  | (.ok l, n) => if most < 0 ∨ most < n then (.err 5, []) else if l.length < n then (.err 2, []) else (.ok (l.drop n), l.take n)
  | (.err e, _) => (.err e, [])
/-- An error is none of the zero kind. -/
def RS.good : RS → Prop
  | .ok l => l.length ≤ 4000
  | .err e => 0 < e ∧ e < 16
end Go.Proofs.YtbjmdcjoaapmiaaDoor.Wire
