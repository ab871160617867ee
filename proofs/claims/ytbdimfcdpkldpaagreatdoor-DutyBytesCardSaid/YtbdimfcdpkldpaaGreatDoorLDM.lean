/- Plain mathematics of layer 4: numbers as bytes, the value of bytes, and what a reader answers. Instructions as plain data: their operands, what fits, what is valid, their lines, what a text or bytes tell; no run of the program. -/
import Derived.Lib.BitFns
import Derived.Test.YtbdimfcdpkldpaaGreatDoorLN1
namespace Go.Proofs.YtbdimfcdpkldpaaGreatDoor.Wire

theorem bitAux_lt : ∀ (f x : Nat), x < 2 ^ f → x < 2 ^ Lib.bitLenAux f x ∧ Lib.bitLenAux f x ≤ f ∧ (x = 0 → Lib.bitLenAux f x = 0) ∧ (0 < x → 0 < Lib.bitLenAux f x ∧ 2 ^ (Lib.bitLenAux f x - 1) ≤ x)
  | 0, x, h => by simp [Lib.bitLenAux] at h ⊢; omega
  | f + 1, x, h => by
    unfold Lib.bitLenAux
    by_cases h0 : x = 0
    · simp [h0]
    · rw [if_neg h0]
      obtain ⟨h1, h2, h3, h4⟩ := bitAux_lt f (x / 2) (by rw [Nat.pow_succ] at h; omega)
      refine ⟨?_, by omega, fun e => absurd e h0, fun _ => ⟨by omega, ?_⟩⟩
      · rw [Nat.add_comm, Nat.pow_succ]; omega
      · rw [Nat.add_sub_cancel_left]
        by_cases h5 : x / 2 = 0
        · rw [h3 h5]; omega
        · obtain ⟨h6, h7⟩ := h4 (by omega)
          obtain ⟨k, hk⟩ : ∃ k, Lib.bitLenAux f (x / 2) = k + 1 := ⟨_, (Nat.succ_pred_eq_of_pos h6).symm⟩
          rw [hk] at h7 ⊢
          rw [Nat.pow_succ]
          simp at h7
          omega

/-- How many bytes a number wants. -/
def nb (x : Nat) : Nat := (Lib.bitLen x + 7) / 8
theorem pow256 (n : Nat) : 256 ^ n = 2 ^ (8 * n) := by rw [Nat.pow_mul]
theorem nb_facts (x : Nat) (h : x < 18446744073709551616) : nb x ≤ 8 ∧ x < 256 ^ nb x ∧ (0 < nb x → 256 ^ (nb x - 1) ≤ x) := by
  obtain ⟨h1, h2, h3, h4⟩ := bitAux_lt 64 x h
  unfold nb Lib.bitLen
  generalize Lib.bitLenAux 64 x = b at *
  refine ⟨by omega, ?_, fun hp => ?_⟩
  · rw [pow256]
    exact Nat.lt_of_lt_of_le h1 (Nat.pow_le_pow_right (by decide) (by omega))
  · rw [pow256]
    have hx : 0 < x := by
      rcases Nat.eq_zero_or_pos x with e | e
      · have := h3 e; omega
      · exact e
    exact Nat.le_trans (Nat.pow_le_pow_right (by decide) (by omega)) (h4 hx).2
theorem nb_uniq (x k : Nat) (h : x < 18446744073709551616) (h1 : x < 256 ^ k) (h2 : 0 < k → 256 ^ (k - 1) ≤ x) : nb x = k := by
  obtain ⟨_, f1, f2⟩ := nb_facts x h
  rcases Nat.lt_trichotomy (nb x) k with hlt | heq | hgt
  · have h3 := h2 (by omega)
    have h4 : 256 ^ nb x ≤ 256 ^ (k - 1) := Nat.pow_le_pow_right (by decide) (by omega)
    omega
  · exact heq
  · have h3 := f2 (by omega)
    have h4 : 256 ^ k ≤ 256 ^ (nb x - 1) := Nat.pow_le_pow_right (by decide) (by omega)
    omega

/-- The last n bytes of a number, the greatest first. -/
def be : Nat → Nat → List UInt8
  | 0, _ => []
  | n + 1, x => be n (x / 256) ++ [UInt8.ofNat (x % 256)]
theorem be_len : ∀ n x, (be n x).length = n
  | 0, _ => rfl
  | n + 1, x => by rw [be, List.length_append, be_len n]; rfl
theorem be_cons : ∀ n x, be (n + 1) x = UInt8.ofNat (x / 256 ^ n % 256) :: be n x
  | 0, x => by simp [be]
  | n + 1, x => by
    rw [be, be_cons n (x / 256), List.cons_append, Nat.div_div_eq_div_mul, Nat.pow_succ, Nat.mul_comm (256 ^ n)]; rfl
theorem be_step (m x i : Nat) : be m (x / 256 ^ (i + 1)) ++ [UInt8.ofNat (x / 256 ^ i % 256)] = be (m + 1) (x / 256 ^ i) := by
  rw [be, Nat.div_div_eq_div_mul, Nat.pow_succ]

/-- The value of bytes. -/
def val (l : List UInt8) : Nat := l.foldl (fun x c => x * 256 + c.toNat) 0
theorem val_snoc (l : List UInt8) (c : UInt8) : val (l ++ [c]) = val l * 256 + c.toNat := by simp [val]
theorem val_lt (l : List UInt8) : val l < 256 ^ l.length := by
  rcases List.eq_nil_or_concat l with rfl | ⟨l', c, rfl⟩
  · decide
  · rw [List.concat_eq_append, val_snoc, List.length_append, List.length_singleton, Nat.pow_succ]
    have := val_lt l'
    have := c.toNat_lt
    omega
  termination_by l.length
theorem val_be : ∀ n x, val (be n x) = x % 256 ^ n
  | 0, x => by simp [be, val, Nat.mod_one]
  | n + 1, x => by
    rw [be, val_snoc, val_be n, Nat.pow_succ, Nat.mul_comm (256 ^ n) 256, Nat.mod_mul, UInt8.toNat_ofNat_of_lt' (by show x % 256 < 256; omega)]
    omega
theorem be_val (l : List UInt8) : be l.length (val l) = l := by
  rcases List.eq_nil_or_concat l with rfl | ⟨l', c, rfl⟩
  · rfl
  · rw [List.concat_eq_append, val_snoc, List.length_append, List.length_singleton, be]
    have hc := c.toNat_lt
    rw [show (val l' * 256 + c.toNat) / 256 = val l' by omega, show (val l' * 256 + c.toNat) % 256 = c.toNat by omega, be_val l']
    simp
  termination_by l.length
theorem val_cons (c : UInt8) (l : List UInt8) : val (c :: l) = c.toNat * 256 ^ l.length + val l := by
  rcases List.eq_nil_or_concat l with rfl | ⟨l', d, rfl⟩
  · simp [val]
  · rw [List.concat_eq_append, ← List.cons_append, val_snoc, val_snoc, val_cons c l', List.length_append, List.length_singleton, Nat.pow_succ, Nat.add_mul, Nat.mul_assoc, Nat.add_assoc]
  termination_by l.length

/-- A number as bytes. -/
def numB (x : Nat) : List UInt8 := UInt8.ofNat (nb x) :: be (nb x) x
theorem numB_len (x : Nat) (h : x < 18446744073709551616) : (numB x).length ≤ 9 := by
  have := (nb_facts x h).1
  rw [numB, List.length_cons, be_len]; omega
/-- A truth as bytes. -/
def truB (b : Bool) : List UInt8 := [if b then 1 else 0]
/-- Bytes in a row, as bytes. -/
def bytB (l : List UInt8) : List UInt8 := numB l.length ++ l

/-- What a reader stands at: bytes that are left, or an error. -/
inductive RS where
  | ok (l : List UInt8)
  | err (e : Nat)
def RS.code : RS → Nat
  | .ok _ => 0
  | .err e => e
def RS.left : RS → List UInt8
  | .ok l => l
  | .err _ => []
def rdByte : RS → RS × Nat
  | .ok [] => (.err 2, 0)
  | .ok (c :: l) => (.ok l, c.toNat)
  | .err e => (.err e, 0)
def rdNum : RS → RS × Nat
  | .ok [] => (.err 2, 0)
  | .ok (c :: l) => if 8 < c.toNat then (.err 3, 0) else if l.length < c.toNat then (.err 2, 0) else if 0 < c.toNat ∧ l.getD 0 0 = 0 then (.err 3, 0) else (.ok (l.drop c.toNat), val (l.take c.toNat))
  | .err e => (.err e, 0)
def upto (most : Nat) : RS × Nat → RS × Nat
  | (.ok l, x) => if most < x then (.err 5, 0) else (.ok l, x)
  | (.err e, _) => (.err e, 0)
def truth : RS × Nat → RS × Bool
  | (.ok l, x) => if 1 < x then (.err 3, false) else (.ok l, x == 1)
  | (.err e, _) => (.err e, false)
def bytesOf (most : Int) : RS × Nat → RS × List UInt8
  | (.ok l, n) => if most < 0 ∨ most < n then (.err 5, []) else if l.length < n then (.err 2, []) else (.ok (l.drop n), l.take n)
  | (.err e, _) => (.err e, [])
/-- An error is none of the zero kind. -/
def RS.good : RS → Prop
  | .ok l => l.length ≤ 250000
  | .err e => 0 < e ∧ e < 16
end Go.Proofs.YtbdimfcdpkldpaaGreatDoor.Wire

namespace Go.Proofs.YtbdimfcdpkldpaaGreatDoor
open Wire (RS rdByte rdNum truth numB truB)

structure Deed where
  op : Int
  a : Int
  b : Int
  r : Int
  n : Nat
  mask : Nat
  loose : Bool
/-- What a field can hold. -/
structure Deed.ok (d : Deed) : Prop where
  op : -9223372036854775808 ≤ d.op ∧ d.op ≤ 9223372036854775807
  a : -9223372036854775808 ≤ d.a ∧ d.a ≤ 9223372036854775807
  b : -9223372036854775808 ≤ d.b ∧ d.b ≤ 9223372036854775807
  r : -9223372036854775808 ≤ d.r ∧ d.r ≤ 9223372036854775807
  n : d.n < 18446744073709551616
  mask : d.mask < 18446744073709551616
def Deed.cells (d : Deed) : Array Value := #[.int .i64 d.op, .int .i64 d.a, .int .i64 d.b, .int .i64 d.r, .int .u64 (d.n : Int), .int .u64 (d.mask : Int), .bool d.loose]
def Deed.val (d : Deed) : Value := .agg d.cells
def zeroD : Deed := ⟨0, 0, 0, 0, 0, 0, false⟩
def opD (op : Int) : Deed := ⟨op, 0, 0, 0, 0, 0, false⟩
def eqD (d e : Deed) : Bool := d.op == e.op && (d.a == e.a && (d.b == e.b && (d.r == e.r && (d.n == e.n && (d.mask == e.mask && d.loose == e.loose)))))
theorem eqD_iff (d e : Deed) : eqD d e = true ↔ d = e := by
  obtain ⟨o, a, b, r, n, m, l⟩ := d
  obtain ⟨o', a', b', r', n', m', l'⟩ := e
  simp [eqD]

def isOp (op : Int) : Bool := decide (1 ≤ op) && decide (op ≤ 11)
theorem isOp_cases {op : Int} (h : isOp op = true) : op = 1 ∨ op = 2 ∨ op = 3 ∨ op = 4 ∨ op = 5 ∨ op = 6 ∨ op = 7 ∨ op = 8 ∨ op = 9 ∨ op = 10 ∨ op = 11 := by
  simp [isOp] at h; omega
theorem isOp_not {op : Int} (h : ¬ isOp op = true) : op < 1 ∨ 11 < op := by
  simp [isOp] at h; omega
/-- The operands: 0 A, 1 B, 2 R, 3 N of a work, 4 N of another, 5 Mask, 6 Loose. -/
def oprN : Nat → List Nat
  | 1 => [3]
  | 2 => [0, 1, 2, 5, 6]
  | 3 => [4]
  | 4 => [2]
  | 6 => [4]
  | 7 => [2, 5]
  | 8 => [2, 1]
  | 9 => [0]
  | 10 => [0, 4]
  | 11 => [0]
  | _ => []
def opr (op : Int) : List Nat := oprN op.toNat
def letterN : Nat → UInt8
  | 0 => 65
  | 1 => 66
  | 2 => 82
  | 3 => 78
  | 4 => 78
  | 5 => 77
  | _ => 76
def nameN : Nat → List UInt8
  | 1 => [119, 111, 114, 107]
  | 2 => [115, 112, 97, 119, 110]
  | 3 => [101, 120, 105, 116]
  | 4 => [106, 111, 105, 110]
  | 5 => [121, 105, 101, 108, 100]
  | 6 => [115, 108, 101, 101, 112]
  | 7 => [109, 97, 115, 107]
  | 8 => [103, 114, 97, 100, 101]
  | 9 => [108, 111, 99, 107]
  | 10 => [116, 105, 109, 101, 100]
  | 11 => [117, 110, 108, 111, 99, 107]
  | _ => [63]
def nameD (op : Int) : List UInt8 := if isOp op = true then nameN op.toNat else [63]
def looseL : List UInt8 := [108, 111, 111, 115, 101]

def fitsN (o x : Nat) : Bool :=
  match o with
  | 0 => decide (x < 64)
  | 1 => decide (x < 8)
  | 2 => decide (x < 8)
  | 3 => decide (1 ≤ x) && decide (x ≤ 65536)
  | _ => true
/-- An int as a uint64. -/
def wrapN (z : Int) : Nat := if 0 ≤ z then z.toNat else (z + 18446744073709551616).toNat
theorem wrapN_eq (z : Int) (h : -9223372036854775808 ≤ z ∧ z ≤ 9223372036854775807) : IntKind.u64.wrap z = (wrapN z : Int) := by
  unfold wrapN
  have e : IntKind.u64.wrap z = z % 18446744073709551616 := by simp [IntKind.wrap, IntKind.signed, IntKind.bits]
  rw [e]
  split <;> omega
theorem wrapN_lt (z : Int) (h : -9223372036854775808 ≤ z ∧ z ≤ 9223372036854775807) : wrapN z < 18446744073709551616 := by
  unfold wrapN; split <;> omega
def ofD (o : Nat) (d : Deed) : Nat :=
  match o with
  | 0 => wrapN d.a
  | 1 => wrapN d.b
  | 2 => wrapN d.r
  | 5 => d.mask
  | 6 => if d.loose = true then 1 else 0
  | _ => d.n
theorem ofD_lt (o : Nat) (d : Deed) (h : d.ok) : ofD o d < 18446744073709551616 := by
  unfold ofD
  split
  · exact wrapN_lt _ h.a
  · exact wrapN_lt _ h.b
  · exact wrapN_lt _ h.r
  · exact h.mask
  · split <;> decide
  · exact h.n
def setD (o x : Nat) (d : Deed) : Deed :=
  match o with
  | 0 => { d with a := (x : Int) }
  | 1 => { d with b := (x : Int) }
  | 2 => { d with r := (x : Int) }
  | 5 => { d with mask := x }
  | 6 => { d with loose := x == 1 }
  | _ => { d with n := x }
def setAll : List Nat → List Nat → Deed → Deed
  | o :: os, x :: xs, d => setAll os xs (setD o x d)
  | _, _, d => d
def fitAll : List Nat → List Nat → Bool
  | o :: os, x :: xs => fitsN o x && fitAll os xs
  | _, _ => true
/-- What build answers. -/
def bldD (op : Int) (xs : List Nat) : Deed × Nat := if fitAll (opr op) xs = true then (setAll (opr op) xs (opD op), 0) else (zeroD, 5)
def valsD (d : Deed) : List Nat := (opr d.op).map fun o => ofD o d
/-- What Good answers, as the program reckons it. -/
def goodC (d : Deed) : Bool := isOp d.op && ((bldD d.op (valsD d)).2 == 0 && eqD (bldD d.op (valsD d)).1 d)

/-! ### the reference's -/
def cpD (o : Nat) (d e : Deed) : Deed :=
  match o with
  | 0 => { e with a := d.a }
  | 1 => { e with b := d.b }
  | 2 => { e with r := d.r }
  | 5 => { e with mask := d.mask }
  | 6 => { e with loose := d.loose }
  | _ => { e with n := d.n }
def cpAll : List Nat → Deed → Deed → Deed
  | o :: os, d, e => cpAll os d (cpD o d e)
  | [], _, e => e
def onlyD (d : Deed) : Deed := cpAll (opr d.op) d (opD d.op)
def rangeD (d : Deed) : Bool := decide (0 ≤ d.a) && decide (d.a < 64) && decide (0 ≤ d.b) && decide (d.b < 8) && decide (0 ≤ d.r) && decide (d.r < 8)
def goodD (d : Deed) : Bool := isOp d.op && eqD d (onlyD d) && !(d.op == 1 && (decide (d.n < 1) || decide (65536 < d.n))) && rangeD d

theorem opr_cases (P : List Nat → Prop) (op : Int) (h1 : op = 1 → P [3]) (h2 : op = 2 → P [0, 1, 2, 5, 6]) (h3 : op = 3 → P [4]) (h4 : op = 4 → P [2]) (h5 : op = 5 → P []) (h6 : op = 6 → P [4]) (h7 : op = 7 → P [2, 5])
    (h8 : op = 8 → P [2, 1]) (h9 : op = 9 → P [0]) (h10 : op = 10 → P [0, 4]) (h11 : op = 11 → P [0]) (h : isOp op = true) : P (opr op) := by
  rcases isOp_cases h with rfl | rfl | rfl | rfl | rfl | rfl | rfl | rfl | rfl | rfl | rfl
  · exact h1 rfl
  · exact h2 rfl
  · exact h3 rfl
  · exact h4 rfl
  · exact h5 rfl
  · exact h6 rfl
  · exact h7 rfl
  · exact h8 rfl
  · exact h9 rfl
  · exact h10 rfl
  · exact h11 rfl

theorem wrapN_64 (z : Int) (h : -9223372036854775808 ≤ z ∧ z ≤ 9223372036854775807) (k : Nat) (hk : k ≤ 64) : wrapN z < k ↔ 0 ≤ z ∧ z < (k : Int) := by
  unfold wrapN; split <;> omega
theorem wrapN_back (z : Int) (h : 0 ≤ z) : ((wrapN z : Nat) : Int) = z := by
  unfold wrapN; rw [if_pos h]; omega

theorem good_same (d : Deed) (h : d.ok) : goodC d = goodD d := by
  obtain ⟨op, a, b, r, n, mask, loose⟩ := d
  obtain ⟨_, ha, hb, hr, _, _⟩ := h
  simp only at ha hb hr
  by_cases ho : isOp op = true
  · have a64 := wrapN_64 a ha 64 (by omega)
    have b8 := wrapN_64 b hb 8 (by omega)
    have r8 := wrapN_64 r hr 8 (by omega)
    have ab := wrapN_back a
    have bb := wrapN_back b
    have rb := wrapN_back r
    rw [Bool.eq_iff_iff]
    rcases isOp_cases ho with rfl | rfl | rfl | rfl | rfl | rfl | rfl | rfl | rfl | rfl | rfl
    all_goals
      clear ho
      cases loose
      all_goals
        simp only [goodC, goodD, bldD, valsD, opr, oprN, Int.reduceToNat, List.map_cons, List.map_nil, fitAll, fitsN, setAll, setD, onlyD, cpAll, cpD, opD, zeroD, ofD, isOp, rangeD, eqD]
        generalize wrapN a = A at *
        generalize wrapN b = B at *
        generalize wrapN r = R at *
        split
        all_goals rename_i hf
        all_goals simp at hf ⊢
        all_goals try omega
  · have : goodC ⟨op, a, b, r, n, mask, loose⟩ = false := by unfold goodC; simp [Bool.eq_false_iff.2 ho]
    rw [this]
    unfold goodD; simp [Bool.eq_false_iff.2 ho]
end Go.Proofs.YtbdimfcdpkldpaaGreatDoor
