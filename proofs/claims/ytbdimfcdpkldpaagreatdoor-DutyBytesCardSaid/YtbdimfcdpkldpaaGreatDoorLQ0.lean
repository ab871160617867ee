/- Plain mathematics of bit sets as natural numbers below 2^64, without any program: what the functions of package sets and of its reference compute. No conditions but those that each lemma names. Plain mathematics of layer 8: which programs are valid, their steps, their holds and their locks; no run of the program. -/
import Derived.KernelRfl
import Derived.Test.YtbdimfcdpkldpaaGreatDoorLDM
namespace Go.Proofs.YtbdimfcdpkldpaaGreatDoor.Sets

/-- The number whose bits below k are those of f. -/
def bitsOf : Nat → (Nat → Bool) → Nat
  | 0, _ => 0
  | k + 1, f => (f 0).toNat + 2 * bitsOf k (fun j => f (j + 1))

theorem bitsOf_lt (k : Nat) : ∀ f : Nat → Bool, bitsOf k f < 2 ^ k := by
  induction k with
  | zero => intro f; simp [bitsOf]
  | succ k ih =>
    intro f
    have h := ih (fun j => f (j + 1))
    have hb : (f 0).toNat ≤ 1 := Bool.toNat_le (f 0)
    simp only [bitsOf, Nat.pow_succ]
    omega

theorem testBit_bitsOf (k : Nat) : ∀ (f : Nat → Bool) (i : Nat), (bitsOf k f).testBit i = (decide (i < k) && f i) := by
  induction k with
  | zero => intro f i; simp [bitsOf]
  | succ k ih =>
    intro f i
    have hb : (f 0).toNat ≤ 1 := Bool.toNat_le (f 0)
    cases i with
    | zero =>
      simp only [bitsOf, Nat.testBit_zero]
      cases h : f 0 <;> simp <;> omega
    | succ i =>
      rw [Nat.testBit_succ]
      have e : bitsOf (k + 1) f / 2 = bitsOf k (fun j => f (j + 1)) := by
        simp only [bitsOf]; omega
      rw [e, ih]
      simp

theorem bitsOf_self (n : Nat) (h : n < 2 ^ 64) : bitsOf 64 n.testBit = n := by
  apply Nat.eq_of_testBit_eq
  intro i
  rw [testBit_bitsOf]
  by_cases hi : i < 64
  · simp [hi]
  · have : n.testBit i = false := Nat.testBit_lt_two_pow (Nat.lt_of_lt_of_le h (Nat.pow_le_pow_right (by decide) (by omega)))
    simp [hi, this]

theorem bitsOf_congr (k : Nat) (f g : Nat → Bool) (h : ∀ j, j < k → f j = g j) : bitsOf k f = bitsOf k g := by
  apply Nat.eq_of_testBit_eq
  intro i
  rw [testBit_bitsOf, testBit_bitsOf]
  by_cases hi : i < k
  · simp [hi, h i hi]
  · simp [hi]

/-- What lies above bit k. -/
def hiBits (f : Nat → Bool) (k : Nat) : Nat := bitsOf (64 - k) (fun j => f (j + k))

theorem hiBits_top (f : Nat → Bool) : hiBits f 64 = 0 := by simp [hiBits, bitsOf]
theorem hiBits_zero (f : Nat → Bool) : hiBits f 0 = bitsOf 64 f := by simp [hiBits]
theorem hiBits_step (f : Nat → Bool) (k : Nat) (h : k < 64) : hiBits f k = (f k).toNat + 2 * hiBits f (k + 1) := by
  unfold hiBits
  have e : 64 - k = (64 - (k + 1)) + 1 := by omega
  rw [e]
  simp only [bitsOf, Nat.zero_add]
  congr 2
  apply bitsOf_congr
  intro j _
  congr 1
  omega
theorem hiBits_lt (f : Nat → Bool) (k : Nat) : hiBits f k < 18446744073709551616 := by
  have h := bitsOf_lt (64 - k) (fun j => f (j + k))
  have h2 : (2 : Nat) ^ (64 - k) ≤ 2 ^ 64 := Nat.pow_le_pow_right (by decide) (by omega)
  unfold hiBits
  omega
theorem hiBits_lt1 (f : Nat → Bool) (k : Nat) (h : 0 < k) : hiBits f k < 9223372036854775808 := by
  have h1 := bitsOf_lt (64 - k) (fun j => f (j + k))
  have h2 : (2 : Nat) ^ (64 - k) ≤ 2 ^ 63 := Nat.pow_le_pow_right (by decide) (by omega)
  unfold hiBits
  omega

/-- Bit i as a set, for any integer. -/
def bitN (i : Int) : Nat := if i < 0 then 0 else if 64 ≤ i then 0 else 2 ^ i.toNat
/-- All integers below i. -/
def allN (i : Int) : Nat := if i < 0 then 0 else if 64 ≤ i then 18446744073709551615 else 2 ^ i.toNat - 1

/-- Is i a member? -/
def hasN (n : Nat) (i : Int) : Bool := decide (0 ≤ i) && (decide (i < 64) && n.testBit i.toNat)
/-- The set in which i is, or is not. -/
def putN (n : Nat) (i : Int) (b : Bool) : Nat := bitsOf 64 (fun j => if (j : Int) = i then b else n.testBit j)

theorem putN_lt (n : Nat) (i : Int) (b : Bool) : putN n i b < 18446744073709551616 := by
  have := bitsOf_lt 64 (fun j => if (j : Int) = i then b else n.testBit j)
  unfold putN; omega

theorem pow_lt_64 (i : Nat) (h : i < 64) : 2 ^ i < 18446744073709551616 := by
  have := Nat.pow_lt_pow_right (a := 2) (by decide) h
  omega

theorem bitN_lt (i : Int) : bitN i < 18446744073709551616 := by
  unfold bitN
  split
  · omega
  · split
    · omega
    · exact pow_lt_64 _ (by omega)

theorem allN_lt (i : Int) : allN i < 18446744073709551616 := by
  unfold allN
  split
  · omega
  · split
    · omega
    · have := pow_lt_64 i.toNat (by omega); omega

theorem testBit_bitN (i : Int) (j : Nat) : (bitN i).testBit j = (decide ((j : Int) = i) && decide (j < 64)) := by
  unfold bitN
  by_cases h0 : i < 0
  · rw [if_pos h0]
    have : ¬ ((j : Int) = i) := by omega
    simp [this]
  · rw [if_neg h0]
    by_cases h1 : 64 ≤ i
    · rw [if_pos h1]
      by_cases hj : (j : Int) = i
      · have : ¬ j < 64 := by omega
        simp [this]
      · simp [hj]
    · rw [if_neg h1, Nat.testBit_two_pow]
      by_cases hj : (j : Int) = i
      · have h2 : i.toNat = j := by omega
        have h3 : j < 64 := by omega
        simp [hj, h2, h3]
      · have h2 : ¬ i.toNat = j := by omega
        simp [hj, h2]

theorem testBit_allN (i : Int) (j : Nat) : (allN i).testBit j = (decide ((j : Int) < i) && decide (j < 64)) := by
  unfold allN
  by_cases h0 : i < 0
  · rw [if_pos h0]
    have : ¬ ((j : Int) < i) := by omega
    simp [this]
  · rw [if_neg h0]
    by_cases h1 : 64 ≤ i
    · rw [if_pos h1, show (18446744073709551615 : Nat) = 2 ^ 64 - 1 from by decide, Nat.testBit_two_pow_sub_one]
      by_cases hj : j < 64
      · have : (j : Int) < i := by omega
        simp [hj, this]
      · simp [hj]
    · rw [if_neg h1, Nat.testBit_two_pow_sub_one]
      by_cases hj : (j : Int) < i
      · have h2 : j < i.toNat := by omega
        have h3 : j < 64 := by omega
        simp [hj, h2, h3]
      · have h2 : ¬ j < i.toNat := by omega
        simp [hj, h2]

theorem testBit_big (n j : Nat) (h : n < 18446744073709551616) (hj : 64 ≤ j) : n.testBit j = false :=
  Nat.testBit_lt_two_pow (Nat.lt_of_lt_of_le (show n < 2 ^ 64 by omega) (Nat.pow_le_pow_right (by decide) hj))

theorem with_put (n : Nat) (h : n < 18446744073709551616) (i : Int) : n ||| bitN i = putN n i true := by
  apply Nat.eq_of_testBit_eq
  intro j
  rw [Nat.testBit_or, testBit_bitN, putN, testBit_bitsOf]
  by_cases hj : j < 64
  · by_cases e : (j : Int) = i <;> simp [hj, e]
  · have := testBit_big n j h (by omega)
    simp [hj, this]

theorem testBit_not (m j : Nat) (h : m < 18446744073709551616) : (18446744073709551615 - m).testBit j = (decide (j < 64) && !m.testBit j) := by
  have e := @Nat.testBit_two_pow_sub_succ m 64 (by omega) j
  rw [← e]
  congr 1
  omega

theorem without_put (n : Nat) (h : n < 18446744073709551616) (i : Int) : n &&& (18446744073709551615 - bitN i) = putN n i false := by
  apply Nat.eq_of_testBit_eq
  intro j
  rw [Nat.testBit_and, testBit_not _ _ (bitN_lt i), testBit_bitN, putN, testBit_bitsOf]
  by_cases hj : j < 64
  · by_cases e : (j : Int) = i <;> simp [hj, e]
  · have := testBit_big n j h (by omega)
    simp [hj, this]

theorem and_bit (n : Nat) (i : Int) : ((n &&& bitN i) != 0) = hasN n i := by
  unfold hasN
  by_cases h0 : 0 ≤ i
  · by_cases h1 : i < 64
    · have e : bitN i = 2 ^ i.toNat := by unfold bitN; rw [if_neg (by omega), if_neg (by omega)]
      rw [e]
      have ha : n &&& 2 ^ i.toNat = if n.testBit i.toNat then 2 ^ i.toNat else 0 := by
        apply Nat.eq_of_testBit_eq
        intro j
        rw [Nat.testBit_and, Nat.testBit_two_pow]
        by_cases hj : i.toNat = j
        · subst hj
          cases hb : n.testBit i.toNat <;> simp
        · cases hb : n.testBit i.toNat <;> simp [hj]
      rw [ha]
      cases hb : n.testBit i.toNat <;> simp [h0, h1]
    · have e : bitN i = 0 := by unfold bitN; rw [if_neg (by omega), if_pos (by omega)]
      rw [e]; simp [h1]
  · have e : bitN i = 0 := by unfold bitN; rw [if_pos (by omega)]
    rw [e]; simp [h0]

end Go.Proofs.YtbdimfcdpkldpaaGreatDoor.Sets

namespace Go.Proofs.YtbdimfcdpkldpaaGreatDoor

def goodP (ps : List Deed) : Bool := ps.all goodD
/-- What Check answers. -/
def checkN (ps : List Deed) : Nat := if 256 < ps.length then 4 else if goodP ps = true then 0 else 1
theorem checkN_zero {ps : List Deed} : checkN ps = 0 ↔ ps.length ≤ 256 ∧ goodP ps = true := by
  unfold checkN
  constructor
  · intro h
    split at h
    · omega
    · split at h
      · exact ⟨by omega, by assumption⟩
      · omega
  · rintro ⟨h, g⟩
    rw [if_neg (by omega), if_pos g]
theorem checkN_cases (ps : List Deed) : checkN ps = 0 ∨ checkN ps = 1 ∨ checkN ps = 4 := by
  unfold checkN
  split
  · exact .inr (.inr rfl)
  · split
    · exact .inl rfl
    · exact .inr (.inl rfl)
theorem goodP_take {ps : List Deed} {k : Nat} (h : ∀ d ∈ ps.take k, goodD d = true) (d : Deed) (hd : ps[k]? = some d) (hg : goodD d = true) : ∀ e ∈ ps.take (k + 1), goodD e = true := by
  intro e he
  rw [List.take_add_one, hd] at he
  rcases List.mem_append.1 he with he | he
  · exact h e he
  · simp at he; subst he; exact hg
theorem goodP_all {ps : List Deed} (h : ∀ d ∈ ps, goodD d = true) : goodP ps = true := List.all_eq_true.2 h
theorem goodP_mem {ps : List Deed} (h : goodP ps = true) {d : Deed} (hd : d ∈ ps) : goodD d = true := List.all_eq_true.1 h d hd
theorem goodP_not {ps : List Deed} {k : Nat} {d : Deed} (hd : ps[k]? = some d) (hg : goodD d = false) : goodP ps = false := by
  rw [Bool.eq_false_iff]
  intro h
  rw [goodP_mem h (List.mem_of_getElem? hd)] at hg
  cases hg

theorem good_range {d : Deed} (h : goodD d = true) : 0 ≤ d.a ∧ d.a < 64 ∧ (d.op = 1 → d.n ≤ 65536) := by
  unfold goodD rangeD at h
  simp only [Bool.and_eq_true, Bool.not_eq_true', Bool.and_eq_false_iff, Bool.or_eq_false_iff, decide_eq_true_eq, decide_eq_false_iff_not, beq_eq_false_iff_ne, ne_eq, Nat.not_lt] at h
  obtain ⟨⟨_, h1⟩, h2⟩ := h
  exact ⟨by omega, by omega, fun e => by omega⟩

/-- An instruction's steps. -/
def costD (d : Deed) : Nat := if d.op = 1 then d.n else 1
def sumC (ps : List Deed) : Nat := (ps.map costD).sum
theorem sumC_nil : sumC [] = 0 := rfl
theorem sumC_cons (d : Deed) (ps : List Deed) : sumC (d :: ps) = costD d + sumC ps := by simp [sumC]
theorem cost_le {d : Deed} (h : goodD d = true) : costD d ≤ 65536 := by
  unfold costD
  split
  · rename_i e; exact (good_range h).2.2 e
  · omega
theorem sumC_le : ∀ ps : List Deed, (∀ d ∈ ps, goodD d = true) → sumC ps ≤ 65536 * ps.length
  | [], _ => Nat.le_refl _
  | d :: ps, h => by
    have h1 := cost_le (h d (by simp))
    have h2 := sumC_le ps (fun e he => h e (by simp [he]))
    rw [sumC_cons, List.length_cons]
    omega
theorem sumC_snoc {ps : List Deed} {k : Nat} {d : Deed} (hd : ps[k]? = some d) : sumC (ps.take (k + 1)) = sumC (ps.take k) + costD d := by
  rw [List.take_add_one, hd]
  simp [sumC]
theorem sumC_take {ps : List Deed} (h : goodP ps = true) (k : Nat) (hk : k ≤ 256) : sumC (ps.take k) ≤ 16777216 := by
  have := sumC_le (ps.take k) (fun d hd => goodP_mem h (List.mem_of_mem_take hd))
  have h2 : (ps.take k).length ≤ k := by rw [List.length_take]; omega
  omega
/-- Is the last instruction an exit? -/
def endsExit (ps : List Deed) : Bool := match ps.getLast? with
  | some d => d.op == 3
  | none => false
def stepsN (ps : List Deed) : Nat := if checkN ps = 0 then sumC ps + (if endsExit ps = true then 0 else 1) else 0

/-! ### holds -/
def isTake (d : Deed) : Bool := d.op == 9 || d.op == 10
/-- The state of the reference behind an instruction: which lock is held, how many steps, the most of them at an unlock. -/
def tstep (st : Option (Int × Nat × Nat)) (d : Deed) : Option (Int × Nat × Nat) :=
  match st with
  | none => none
  | some (l, n, m) =>
    if isTake d = true then (if 0 ≤ l then none else some (d.a, 0, m))
    else if d.op = 11 then (if l = d.a then some (-1, n, max m (n + 1)) else none)
    else if 0 ≤ l ∧ ¬ d.op = 1 then none else some (l, n + costD d, m)
theorem tstep_none : ∀ ds : List Deed, ds.foldl tstep none = none
  | [] => rfl
  | _ :: ds => by rw [List.foldl_cons]; exact tstep_none ds
def simT (ps : List Deed) : Option (Int × Nat × Nat) := ps.foldl tstep (some (-1, 0, 0))
theorem simT_snoc {ps : List Deed} {k : Nat} {d : Deed} (hd : ps[k]? = some d) : simT (ps.take (k + 1)) = tstep (simT (ps.take k)) d := by
  unfold simT
  rw [List.take_add_one, hd]
  simp
theorem simT_stop {ps : List Deed} {k : Nat} (h : simT (ps.take k) = none) (n : Nat) (hn : k ≤ n) : simT (ps.take n) = none := by
  have e : ps.take n = ps.take k ++ (ps.take n).drop k := by
    rw [show ps.take k = (ps.take n).take k by rw [List.take_take, Nat.min_eq_left hn], List.take_append_drop]
  unfold simT at *
  rw [e, List.foldl_append, h]
  exact tstep_none _
def finT : Option (Int × Nat × Nat) → Option Nat
  | some (l, _, m) => if 0 ≤ l then none else some m
  | none => none
/-- What Simple answers. -/
def simN (ps : List Deed) : Nat × Bool := if checkN ps = 0 then (match finT (simT ps) with
  | some m => (m, true)
  | none => (0, false)) else (0, false)

/-- A hold ahead of ds: its steps and its length. -/
def holdR (a : Int) (s : Nat) : List Deed → Option (Nat × Nat)
  | [] => none
  | d :: ds => if d.op = 1 then (holdR a (s + d.n) ds).map fun x => (x.1, x.2 + 1) else if d.op = 11 ∧ d.a = a then some (s + 1, 1) else none
theorem holdR_len (a : Int) : ∀ (ds : List Deed) (s : Nat) (x : Nat × Nat), holdR a s ds = some x → 1 ≤ x.2 ∧ x.2 ≤ ds.length
  | [], _, _, h => by cases h
  | d :: ds, s, x, h => by
    unfold holdR at h
    split at h
    · obtain ⟨y, hy, rfl⟩ := Option.map_eq_some_iff.1 h
      have := holdR_len a ds _ y hy
      simp; omega
    · split at h
      · cases h; simp
      · cases h
theorem hold_fold (a : Int) (ha : 0 ≤ a) (m : Nat) : ∀ (ds : List Deed) (s : Nat), (∀ d ∈ ds, goodD d = true) →
    finT (ds.foldl tstep (some (a, s, m))) = match holdR a s ds with
      | some x => finT ((ds.drop x.2).foldl tstep (some (-1, x.1 - 1, max m x.1)))
      | none => none
  | [], s, _ => by simp [holdR, finT, ha]
  | d :: ds, s, hg => by
    have hg2 : ∀ e ∈ ds, goodD e = true := fun e he => hg e (by simp [he])
    rw [List.foldl_cons]
    unfold holdR
    by_cases h1 : d.op = 1
    · have ht : isTake d = false := by unfold isTake; rw [h1]; rfl
      have hs : tstep (some (a, s, m)) d = some (a, s + d.n, m) := by
        simp [tstep, ht, h1, costD]
      rw [hs, if_pos h1, hold_fold a ha m ds (s + d.n) hg2]
      cases holdR a (s + d.n) ds with
      | none => rfl
      | some x => simp
    · rw [if_neg h1]
      by_cases ht : isTake d = true
      · have hs : tstep (some (a, s, m)) d = none := by simp [tstep, ht, ha]
        have h11 : ¬ (d.op = 11 ∧ d.a = a) := by
          rintro ⟨e, _⟩
          unfold isTake at ht
          rw [e] at ht
          exact absurd ht (by decide)
        rw [hs, tstep_none, if_neg h11]; rfl
      · by_cases h11 : d.op = 11
        · by_cases he : d.a = a
          · have hs : tstep (some (a, s, m)) d = some (-1, s, max m (s + 1)) := by simp [tstep, ht, h11, he]
            rw [hs, if_pos ⟨h11, he⟩]
            simp
          · have hs : tstep (some (a, s, m)) d = none := by
              have : ¬ a = d.a := fun e => he e.symm
              simp [tstep, ht, h11, this]
            rw [hs, tstep_none, if_neg (fun h => he h.2)]; rfl
        · have hs : tstep (some (a, s, m)) d = none := by simp [tstep, ht, h11, ha, h1]
          rw [hs, tstep_none, if_neg (fun h => h11 h.1)]; rfl

/-- The program's way. -/
def sGo : Nat → List Deed → Nat → Option Nat
  | 0, _, m => some m
  | _ + 1, [], m => some m
  | f + 1, d :: ds, m =>
    if d.op = 11 then none
    else if isTake d = true then (match holdR d.a 0 ds with
      | some x => sGo f (ds.drop x.2) (max m x.1)
      | none => none)
    else sGo f ds m
theorem sGo_nil (f m : Nat) : sGo f [] m = some m := by cases f <;> rfl
theorem sGo_eq : ∀ (f : Nat) (ds : List Deed) (n m : Nat), ds.length ≤ f → (∀ d ∈ ds, goodD d = true) → sGo f ds m = finT (ds.foldl tstep (some (-1, n, m)))
  | f, [], n, m, _, _ => by rw [sGo_nil]; rfl
  | 0, _ :: _, _, _, h, _ => by simp at h
  | f + 1, d :: ds, n, m, h, hg => by
    have hg2 : ∀ e ∈ ds, goodD e = true := fun e he => hg e (by simp [he])
    have hr := good_range (hg d (by simp))
    have hl : ds.length ≤ f := by simpa using h
    rw [List.foldl_cons]
    unfold sGo
    by_cases h11 : d.op = 11
    · have ht : isTake d = false := by unfold isTake; rw [h11]; rfl
      have hs : tstep (some (-1, n, m)) d = none := by
        have : ¬ (-1 = d.a) := by omega
        simp [tstep, ht, h11, this]
      rw [if_pos h11, hs, tstep_none]; rfl
    · rw [if_neg h11]
      by_cases ht : isTake d = true
      · have hs : tstep (some (-1, n, m)) d = some (d.a, 0, m) := by simp [tstep, ht]
        rw [if_pos ht, hs, hold_fold d.a hr.1 m ds 0 hg2]
        cases hx : holdR d.a 0 ds with
        | none => rfl
        | some x =>
          exact sGo_eq f (ds.drop x.2) _ _ (by rw [List.length_drop]; omega) (fun e he => hg2 e (List.mem_of_mem_drop he))
      · have hs : tstep (some (-1, n, m)) d = some (-1, n + costD d, m) := by simp [tstep, ht, h11]
        rw [if_neg ht, hs]
        exact sGo_eq f ds _ _ hl hg2
theorem sim_prog {ps : List Deed} (h : goodP ps = true) : sGo ps.length ps 0 = finT (simT ps) := sGo_eq _ _ 0 0 (Nat.le_refl _) (fun _ hd => goodP_mem h hd)

/-- No hold has more steps than the program. -/
theorem tstep_le : ∀ (ds : List Deed) (l : Int) (n m : Nat) (l' : Int) (n' m' : Nat), ds.foldl tstep (some (l, n, m)) = some (l', n', m') → m' ≤ max m (n + sumC ds) ∧ n' ≤ n + sumC ds
  | [], l, n, m, l', n', m', h => by
    simp at h
    obtain ⟨_, rfl, rfl⟩ := h
    rw [sumC_nil]; omega
  | d :: ds, l, n, m, l', n', m', h => by
    rw [List.foldl_cons] at h
    rw [sumC_cons]
    rw [show tstep (some (l, n, m)) d = if isTake d = true then (if 0 ≤ l then none else some (d.a, 0, m)) else if d.op = 11 then (if l = d.a then some (-1, n, max m (n + 1)) else none) else if 0 ≤ l ∧ ¬ d.op = 1 then none else some (l, n + costD d, m) from rfl] at h
    split at h
    · by_cases hl : 0 ≤ l
      · rw [if_pos hl, tstep_none] at h; cases h
      · rw [if_neg hl] at h
        have := tstep_le ds _ _ _ _ _ _ h
        omega
    · split at h
      · rename_i h11
        by_cases hl : l = d.a
        · rw [if_pos hl] at h
          have := tstep_le ds _ _ _ _ _ _ h
          have hc : costD d = 1 := by unfold costD; rw [if_neg (by omega)]
          omega
        · rw [if_neg hl, tstep_none] at h; cases h
      · split at h
        · rw [tstep_none] at h; cases h
        · have := tstep_le ds _ _ _ _ _ _ h
          omega
theorem simN_le (ps : List Deed) : (simN ps).1 ≤ stepsN ps := by
  unfold simN stepsN
  by_cases h : checkN ps = 0
  · rw [if_pos h, if_pos h]
    cases hs : simT ps with
    | none => exact Nat.zero_le _
    | some x =>
      obtain ⟨l, n, m⟩ := x
      have := tstep_le ps _ _ _ _ _ _ hs
      unfold finT
      by_cases hl : 0 ≤ l
      · simp [hl]
      · simp [hl]; omega
  · rw [if_neg h]; exact Nat.zero_le _

/-! ### locks -/
def locksGo (ps : List Deed) : Nat := ps.foldl (fun s d => if isTake d = true then Sets.putN s d.a true else s) 0
theorem locksGo_snoc {ps : List Deed} {k : Nat} {d : Deed} (hd : ps[k]? = some d) : locksGo (ps.take (k + 1)) = if isTake d = true then Sets.putN (locksGo (ps.take k)) d.a true else locksGo (ps.take k) := by
  unfold locksGo
  rw [List.take_add_one, hd]
  simp
theorem locksGo_lt (ps : List Deed) : locksGo ps < 18446744073709551616 := by
  unfold locksGo
  suffices h : ∀ (l : List Deed) (s : Nat), s < 18446744073709551616 → l.foldl (fun s d => if isTake d = true then Sets.putN s d.a true else s) s < 18446744073709551616 from h ps 0 (by decide)
  intro l
  induction l with
  | nil => intro s h; exact h
  | cons d l ih =>
    intro s h
    rw [List.foldl_cons]
    refine ih _ ?_
    split
    · exact Sets.putN_lt _ _ _
    · exact h
def locksN (ps : List Deed) : Nat := if checkN ps = 0 then locksGo ps else 0
end Go.Proofs.YtbdimfcdpkldpaaGreatDoor
