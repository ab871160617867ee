/- Numerals and words of texts: plain mathematics, no run of the program. The words of a text: plain mathematics, no run of the program. The contracts of package nums' digit, digits, isDecimal and of the reference's value and Decimal. The contracts of package nums' Read and Int, and of the reference's Decimal, Read and Int. The contracts of the reference's Decimal and Read. The contracts of the reference's Read, of both Ints and of the statements' own cut. -/
import Derived.Lib.ItoaNum
import GoSem.Op.String
import Derived.Test.YtbdimfcdpkldpaaGreatDoorRows
import Derived.WalkKit
import Derived.WalkSpells
import Derived.WalkLawsBesides
import Derived.Laws.RangeAny
import Derived.Lib.OthersKept
import Derived.Lib.Hide
import Derived.Lib.Strings
import Derived.Laws.Cover1
namespace Go.Proofs.YtbdimfcdpkldpaaGreatDoor

/-- A digit's value; 16: it is none. -/
def val (c : Nat) : Nat := if 48 ≤ c ∧ c ≤ 57 then c - 48 else if 97 ≤ c ∧ c ≤ 102 then c - 97 + 10 else 16
def valB (c : UInt8) : Nat := val c.toNat
def num (b : Nat) (l : List UInt8) : Nat := l.foldl (fun a c => a * b + valB c) 0
def allD (b : Nat) (l : List UInt8) : Bool := l.all fun c => decide (valB c < b)
def isDec (l : List UInt8) : Bool := !l.isEmpty && (l.length == 1 || l.headD 0 != 48) && allD 10 l
def readL (l : List UInt8) : Nat × Nat :=
  if isDec l = true then (if num 10 l < 18446744073709551616 then (num 10 l, 0) else (0, 5)) else (0, 3)
def hexR (l : List UInt8) : Nat × Nat := if l.length = 16 ∧ allD 16 l = true then (num 16 l, 0) else (0, 3)

theorem num_nil (b : Nat) : num b [] = 0 := rfl
theorem num_snoc (b : Nat) (l : List UInt8) (c : UInt8) : num b (l ++ [c]) = num b l * b + valB c := by simp [num]
theorem num_from (b : Nat) : ∀ (m : List UInt8) (a : Nat), m.foldl (fun a c => a * b + valB c) a = a * b ^ m.length + num b m
  | [], a => by simp [num]
  | c :: m, a => by
    unfold num
    rw [List.foldl_cons, List.foldl_cons, num_from b m, num_from b m (0 * b + valB c), List.length_cons, Nat.pow_succ, Nat.zero_mul, Nat.zero_add, Nat.add_mul, Nat.mul_assoc, Nat.mul_comm b, Nat.add_assoc]
theorem num_append (b : Nat) (l m : List UInt8) : num b (l ++ m) = num b l * b ^ m.length + num b m := by
  rw [show num b (l ++ m) = (l ++ m).foldl (fun a c => a * b + valB c) 0 from rfl, List.foldl_append, num_from]
  rfl
theorem num_one (b : Nat) (c : UInt8) : num b [c] = valB c := by simp [num]
theorem num_cons (b : Nat) (c : UInt8) (m : List UInt8) : num b (c :: m) = valB c * b ^ m.length + num b m := by
  have := num_append b [c] m
  rwa [List.singleton_append, num_one] at this
theorem allD_append (b : Nat) (l m : List UInt8) : allD b (l ++ m) = (allD b l && allD b m) := by simp [allD]
theorem allD_one (b : Nat) (c : UInt8) : allD b [c] = decide (valB c < b) := by simp [allD]
theorem allD_cons (b : Nat) (c : UInt8) (m : List UInt8) : allD b (c :: m) = (decide (valB c < b) && allD b m) := by simp [allD]
theorem num_lt (b : Nat) : ∀ l : List UInt8, allD b l = true → num b l < b ^ l.length
  | [], _ => by simp [num]
  | c :: m, h => by
    rw [allD_cons, Bool.and_eq_true, decide_eq_true_eq] at h
    have ih := num_lt b m h.2
    rw [num_cons, List.length_cons, Nat.pow_succ]
    have h1 : valB c + 1 ≤ b := h.1
    have := Nat.mul_le_mul_right (b ^ m.length) h1
    rw [Nat.add_mul, Nat.one_mul] at this
    rw [Nat.mul_comm (b ^ m.length) b]
    omega
theorem num_grows (b : Nat) (hb : 1 ≤ b) (l m : List UInt8) : num b l ≤ num b (l ++ m) := by
  rw [num_append]
  have := Nat.one_le_pow m.length b hb
  have := Nat.mul_le_mul_left (num b l) this
  omega

theorem val_lt (c : Nat) : val c ≤ 16 := by unfold val; split; · omega
                                            split <;> omega
theorem val_ten (c : Nat) (h : val c < 10) : 48 ≤ c ∧ c ≤ 57 ∧ val c = c - 48 := by
  unfold val at h ⊢
  split at h
  · rename_i h1; rw [if_pos h1]; omega
  · split at h <;> omega
theorem ten_val (c : Nat) (h : 48 ≤ c ∧ c ≤ 57) : val c = c - 48 := by unfold val; rw [if_pos h]
theorem valB_ten (c : UInt8) (h : valB c < 10) : c = UInt8.ofNat (48 + valB c) := by
  obtain ⟨h1, h2, h3⟩ := val_ten c.toNat h
  have : 48 + valB c = c.toNat := by unfold valB; omega
  rw [this]
  simp
theorem valB_dec (n : Nat) (h : n < 10) : valB (UInt8.ofNat (48 + n)) = n := by
  unfold valB
  have : (UInt8.ofNat (48 + n)).toNat = 48 + n := by simp; omega
  rw [this, ten_val _ (by omega)]; omega

theorem decDigits_big {u : Nat} (h : ¬ u < 10) : Lib.decDigits u = Lib.decDigits (u / 10) ++ [UInt8.ofNat (48 + u % 10)] := by rw [Lib.decDigits, dif_neg h]
theorem dec_facts : ∀ (f u : Nat), u < f → num 10 (Lib.decDigits u) = u ∧ allD 10 (Lib.decDigits u) = true ∧ Lib.decDigits u ≠ [] ∧ (1 ≤ u → (Lib.decDigits u).headD 0 ≠ 48)
  | 0, _, h => by omega
  | f + 1, u, h => by
    by_cases h1 : u < 10
    · rw [Lib.decDigits_one h1, num_one, allD_one, valB_dec u h1]
      refine ⟨rfl, by simpa using h1, by simp, fun h2 h3 => ?_⟩
      have h4 : (UInt8.ofNat (48 + u)).toNat = 48 := by rw [show UInt8.ofNat (48 + u) = 48 from h3]; rfl
      have : (UInt8.ofNat (48 + u)).toNat = 48 + u := by simp; omega
      omega
    · obtain ⟨a1, a2, a3, a4⟩ := dec_facts f (u / 10) (by omega)
      have hv := valB_dec (u % 10) (by omega)
      rw [decDigits_big h1, num_snoc, allD_append, allD_one, hv, a1, a2]
      refine ⟨by omega, by simp; omega, by simp, fun _ => ?_⟩
      have := a4 (by omega)
      cases hd : Lib.decDigits (u / 10) with
      | nil => exact absurd hd a3
      | cons c r => rw [hd] at this; simpa using this
theorem num_dec (u : Nat) : num 10 (Lib.decDigits u) = u := (dec_facts (u + 1) u (by omega)).1
theorem isDec_dec (u : Nat) : isDec (Lib.decDigits u) = true := by
  obtain ⟨_, a2, a3, a4⟩ := dec_facts (u + 1) u (by omega)
  unfold isDec
  rw [a2]
  by_cases h : u < 10
  · rw [Lib.decDigits_one h]; rfl
  · have := a4 (by omega)
    cases hd : Lib.decDigits u with
    | nil => exact absurd hd a3
    | cons c r => rw [hd] at this; simp at this; simp [this]
theorem read_dec (u : Nat) (h : u < 18446744073709551616) : readL (Lib.decDigits u) = (u, 0) := by
  unfold readL
  rw [isDec_dec, num_dec, if_pos rfl, if_pos h]

theorem isDec_iff (l : List UInt8) : isDec l = true ↔ l ≠ [] ∧ (l.length = 1 ∨ l.headD 0 ≠ 48) ∧ allD 10 l = true := by
  unfold isDec
  cases l <;> simp 
theorem num_low (c : UInt8) (m : List UInt8) (h : allD 10 (c :: m) = true) (hc : c ≠ 48) : 10 ^ m.length ≤ num 10 (c :: m) := by
  rw [allD_cons, Bool.and_eq_true, decide_eq_true_eq] at h
  have h1 : 1 ≤ valB c := by
    obtain ⟨b1, b2, b3⟩ := val_ten c.toNat h.1
    have : c.toNat ≠ 48 := fun e => hc (by apply UInt8.toNat_inj.1; rw [e]; rfl)
    unfold valB; omega
  rw [num_cons]
  have := Nat.mul_le_mul_right (10 ^ m.length) h1
  omega
theorem dec_num : ∀ (f : Nat) (l : List UInt8), l.length < f → isDec l = true → Lib.decDigits (num 10 l) = l
  | 0, _, h, _ => by omega
  | f + 1, l, hf, h => by
    obtain ⟨h0, h1, h2⟩ := (isDec_iff l).1 h
    obtain ⟨m, c, rfl⟩ : ∃ m c, l = m ++ [c] := ⟨l.dropLast, l.getLast h0, (List.dropLast_concat_getLast h0).symm⟩
    rw [allD_append, allD_one, Bool.and_eq_true, decide_eq_true_eq] at h2
    have hc := valB_ten c h2.2
    rw [num_snoc]
    cases m with
    | nil => rw [num_nil, Nat.zero_mul, Nat.zero_add, Lib.decDigits_one h2.2, ← hc]; rfl
    | cons d r =>
      have hd : d ≠ 48 := by
        rcases h1 with h1 | h1
        · simp at h1
        · simpa using h1
      have hm : isDec (d :: r) = true := (isDec_iff _).2 ⟨by simp, .inr (by simpa using hd), h2.1⟩
      have hl := num_low d r h2.1 hd
      have : 1 ≤ 10 ^ r.length := Nat.one_le_pow _ _ (by omega)
      rw [decDigits_big (by omega), show (num 10 (d :: r) * 10 + valB c) / 10 = num 10 (d :: r) by omega, show (num 10 (d :: r) * 10 + valB c) % 10 = valB c by omega, ← hc, dec_num f (d :: r) (by simp at hf ⊢; omega) hm]
theorem read_back (l : List UInt8) (h : (readL l).2 = 0) : Lib.decDigits (readL l).1 = l ∧ (readL l).1 < 18446744073709551616 := by
  unfold readL at h ⊢
  split at h
  · rename_i h1
    rw [if_pos h1]
    split at h
    · rename_i h2
      rw [if_pos h2]
      exact ⟨dec_num _ l (Nat.lt_succ_self _) h1, h2⟩
    · simp at h
  · simp at h
theorem read_err (l : List UInt8) (h : (readL l).2 ≠ 0) : (readL l).1 = 0 := by
  unfold readL at h ⊢
  split at h
  · rename_i h1
    rw [if_pos h1]
    split at h
    · simp at h
    · rename_i h2; rw [if_neg h2]
  · rename_i h1; rw [if_neg h1]
theorem read_two (l : List UInt8) : (readL l).2 = 0 ∨ (readL l).2 = 3 ∨ (readL l).2 = 5 := by
  unfold readL; split
  · split <;> simp
  · simp
theorem read_lt (l : List UInt8) : (readL l).1 < 18446744073709551616 := by
  unfold readL; split
  · split
    · assumption
    · decide
  · decide

/-- The order of texts of the same length is that of their numbers. -/
theorem less_num : ∀ l m : List UInt8, l.length = m.length → allD 10 l = true → allD 10 m = true → Op.bytesLess l m = decide (num 10 l < num 10 m)
  | [], [], _, _, _ => by simp [Op.bytesLess]
  | c :: l, d :: m, h, hl, hm => by
    rw [allD_cons, Bool.and_eq_true, decide_eq_true_eq] at hl hm
    have h' : l.length = m.length := by simpa using h
    have ih := less_num l m h' hl.2 hm.2
    have b1 := num_lt 10 l hl.2
    have b2 := num_lt 10 m hm.2
    rw [← h'] at b2
    obtain ⟨c1, c2, c3⟩ := val_ten c.toNat hl.1
    obtain ⟨d1, d2, d3⟩ := val_ten d.toNat hm.1
    rw [num_cons, num_cons, ← h', Op.bytesLess, ih]
    have e1 : valB c = c.toNat - 48 := c3
    have e2 : valB d = d.toNat - 48 := d3
    rcases Nat.lt_trichotomy c.toNat d.toNat with hlt | heq | hgt
    · have hcd : decide (c < d) = true := by simpa [UInt8.lt_iff_toNat_lt] using hlt
      have := Nat.mul_le_mul_right (10 ^ l.length) (show valB c + 1 ≤ valB d by omega)
      rw [Nat.add_mul] at this
      rw [hcd]
      simp only [Bool.true_or]
      symm
      rw [decide_eq_true_eq]
      omega
    · have hcd : c = d := UInt8.toNat_inj.1 heq
      subst hcd
      simp
    · have hcd : decide (c < d) = false := by simp [UInt8.lt_iff_toNat_lt]; omega
      have hne : (c == d) = false := by
        rw [beq_eq_false_iff_ne]
        intro e; subst e; omega
      have := Nat.mul_le_mul_right (10 ^ l.length) (show valB d + 1 ≤ valB c by omega)
      rw [Nat.add_mul] at this
      rw [hcd, hne]
      simp only [Bool.false_or, Bool.false_and]
      symm
      rw [decide_eq_false_iff_not]
      omega

def mostL : List UInt8 := [49, 56, 52, 52, 54, 55, 52, 52, 48, 55, 51, 55, 48, 57, 53, 53, 49, 54, 49, 53]
theorem most_num : num 10 mostL = 18446744073709551615 := by decide +kernel
theorem most_all : allD 10 mostL = true := by decide +kernel
/-- The reference's test of a decimal text's greatness. -/
theorem great_iff (l : List UInt8) (h : isDec l = true) :
    (20 < l.length ∨ (l.length = 20 ∧ (Op.bytesLess l mostL || l == mostL) = false)) ↔ ¬ num 10 l < 18446744073709551616 := by
  obtain ⟨h0, h1, h2⟩ := (isDec_iff l).1 h
  constructor
  · rintro (h3 | ⟨h3, h4⟩)
    · match l, h0 with
      | c :: r, _ =>
        have hc : c ≠ 48 := by
          rcases h1 with h1 | h1
          · omega
          · simpa using h1
        have := num_low c r h2 hc
        have h5 : 10 ^ 20 ≤ 10 ^ r.length := Nat.pow_le_pow_right (by omega) (by simp at h3; omega)
        omega
    · rw [Bool.or_eq_false_iff] at h4
      rw [less_num l mostL h3 h2 most_all, most_num, decide_eq_false_iff_not, beq_eq_false_iff_ne] at h4
      have : num 10 l ≠ 18446744073709551615 := by
        intro e
        apply h4.2
        rw [← dec_num _ l (Nat.lt_succ_self _) h, e, ← most_num, dec_num _ mostL (Nat.lt_succ_self _) (by decide +kernel)]
      omega
  · intro h3
    rcases Nat.lt_trichotomy l.length 20 with h4 | h4 | h4
    · have := num_lt 10 l h2
      have h5 : 10 ^ l.length ≤ 10 ^ 19 := Nat.pow_le_pow_right (by omega) (by omega)
      omega
    · refine .inr ⟨h4, ?_⟩
      rw [Bool.or_eq_false_iff, less_num l mostL h4 h2 most_all, most_num, decide_eq_false_iff_not, beq_eq_false_iff_ne]
      refine ⟨by omega, fun e => ?_⟩
      rw [e, most_num] at h3
      omega
    · exact .inl h4

/-! ### hex digits -/
def dgB (x : Nat) : UInt8 := if x < 10 then UInt8.ofNat (48 + x) else UInt8.ofNat (87 + x)
def hexN : Nat → Nat → List UInt8
  | 0, _ => []
  | k + 1, x => hexN k (x / 16) ++ [dgB (x % 16)]
def hexM (x : Nat) : List UInt8 := if _h : x < 16 then [dgB x] else hexM (x / 16) ++ [dgB (x % 16)]
termination_by x
decreasing_by omega
theorem hexN_len : ∀ k x, (hexN k x).length = k
  | 0, _ => rfl
  | k + 1, x => by rw [hexN, List.length_append, hexN_len k]; rfl
theorem hexM_small {x : Nat} (h : x < 16) : hexM x = [dgB x] := by rw [hexM, dif_pos h]
theorem hexM_big {x : Nat} (h : ¬ x < 16) : hexM x = hexM (x / 16) ++ [dgB (x % 16)] := by rw [hexM, dif_neg h]
theorem hexN_zero : ∀ k, hexN k 0 = List.replicate k 48
  | 0 => rfl
  | k + 1 => by rw [hexN, Nat.zero_div, hexN_zero k, List.replicate_succ']; rfl
theorem hexM_len : ∀ k x, x < 16 ^ (k + 1) → (hexM x).length ≤ k + 1
  | k, x, h => by
    by_cases h1 : x < 16
    · rw [hexM_small h1]; simp
    · cases k with
      | zero => omega
      | succ k =>
        rw [hexM_big h1, List.length_append]
        have := hexM_len k (x / 16) (by rw [Nat.pow_succ] at h; omega)
        simp; omega
theorem hex_pad : ∀ k x, x < 16 ^ (k + 1) → List.replicate (k + 1 - (hexM x).length) 48 ++ hexM x = hexN (k + 1) x
  | k, x, h => by
    by_cases h1 : x < 16
    · rw [hexM_small h1, hexN, Nat.div_eq_of_lt h1, Nat.mod_eq_of_lt h1, hexN_zero]; rfl
    · cases k with
      | zero => omega
      | succ k =>
        have hx : x / 16 < 16 ^ (k + 1) := by rw [Nat.pow_succ] at h; omega
        have ih := hex_pad k (x / 16) hx
        have hl := hexM_len k (x / 16) hx
        rw [hexM_big h1, hexN, ← ih, List.length_append, ← List.append_assoc]
        rw [show k + 1 + 1 - ((hexM (x / 16)).length + [dgB (x % 16)].length) = k + 1 - (hexM (x / 16)).length by simp]
theorem dgB_val : ∀ x, x < 16 → valB (dgB x) = x := by decide +kernel
theorem hex_of_val : ∀ n : Nat, n < 256 → val n < 16 → dgB (val n) = UInt8.ofNat n := by decide +kernel
theorem valB_hex (c : UInt8) (h : valB c < 16) : dgB (valB c) = c := by
  have := hex_of_val c.toNat (UInt8.toNat_lt c) h
  rw [show valB c = val c.toNat from rfl, this]; simp
theorem hexN_facts : ∀ k x, x < 16 ^ k → num 16 (hexN k x) = x ∧ allD 16 (hexN k x) = true
  | 0, x, h => by
    have : x = 0 := by omega
    subst this; exact ⟨rfl, rfl⟩
  | k + 1, x, h => by
    obtain ⟨a1, a2⟩ := hexN_facts k (x / 16) (by rw [Nat.pow_succ] at h; omega)
    rw [hexN, num_snoc, allD_append, allD_one, a1, a2, dgB_val _ (by omega)]
    exact ⟨by omega, by simp; omega⟩
theorem hexN_num : ∀ (k : Nat) (l : List UInt8), l.length = k → allD 16 l = true → hexN k (num 16 l) = l
  | 0, l, h, _ => by rw [List.length_eq_zero_iff.1 h]; rfl
  | k + 1, l, h, h2 => by
    have h0 : l ≠ [] := by intro e; subst e; simp at h
    obtain ⟨m, c, rfl⟩ : ∃ m c, l = m ++ [c] := ⟨l.dropLast, l.getLast h0, (List.dropLast_concat_getLast h0).symm⟩
    rw [allD_append, allD_one, Bool.and_eq_true, decide_eq_true_eq] at h2
    have ih := hexN_num k m (by simpa using h) h2.1
    rw [hexN, num_snoc, show (num 16 m * 16 + valB c) / 16 = num 16 m by omega, show (num 16 m * 16 + valB c) % 16 = valB c by omega, ih, valB_hex c h2.2]
theorem hexR_hex (x : Nat) (h : x < 18446744073709551616) : hexR (hexN 16 x) = (x, 0) := by
  obtain ⟨a1, a2⟩ := hexN_facts 16 x (by omega)
  unfold hexR
  rw [if_pos ⟨hexN_len 16 x, a2⟩, a1]
theorem hexR_back (l : List UInt8) (h : (hexR l).2 = 0) : hexN 16 (hexR l).1 = l := by
  unfold hexR at h ⊢
  split at h
  · rename_i h1
    rw [if_pos h1]
    exact hexN_num 16 l h1.1 h1.2
  · simp at h
theorem hexR_lt (l : List UInt8) : (hexR l).1 < 18446744073709551616 := by
  unfold hexR
  split
  · rename_i h1
    have := num_lt 16 l h1.2
    rw [h1.1] at this
    show num 16 l < _
    omega
  · decide
end Go.Proofs.YtbdimfcdpkldpaaGreatDoor

namespace Go.Proofs.YtbdimfcdpkldpaaGreatDoor

/-- The words of what is left of a text, with the word that has begun. -/
def wordsGo : List UInt8 → List UInt8 → List (List UInt8)
  | cur, [] => if cur = [] then [] else [cur]
  | cur, c :: r => if c = 32 then (if cur = [] then wordsGo [] r else cur :: wordsGo [] r) else wordsGo (cur ++ [c]) r
def addW (ws : List (List UInt8)) (w : List UInt8) : List (List UInt8) := if w = [] then ws else ws ++ [w]
theorem addW_nil (ws : List (List UInt8)) : addW ws [] = ws := by unfold addW; rw [if_pos rfl]
theorem addW_some (ws : List (List UInt8)) {w : List UInt8} (h : w ≠ []) : addW ws w = ws ++ [w] := by unfold addW; rw [if_neg h]

theorem go_chunk : ∀ (ch cur rest : List UInt8), (∀ c ∈ ch, c ≠ 32) → wordsGo cur (ch ++ rest) = wordsGo (cur ++ ch) rest
  | [], cur, rest, _ => by simp
  | c :: ch, cur, rest, h => by
    rw [List.cons_append, wordsGo, if_neg (h c (by simp)), go_chunk ch _ rest (fun d hd => h d (by simp [hd])), List.append_assoc]
    rfl
theorem go_blank (ws : List (List UInt8)) (cur rest : List UInt8) : ws ++ wordsGo cur (32 :: rest) = addW ws cur ++ wordsGo [] rest := by
  rw [wordsGo, if_pos rfl]
  by_cases h : cur = []
  · rw [if_pos h, h, addW_nil]
  · rw [if_neg h, addW_some ws h]; simp
theorem go_end (ws : List (List UInt8)) (cur : List UInt8) : ws ++ wordsGo cur [] = addW ws cur := by
  rw [wordsGo]
  by_cases h : cur = []
  · rw [if_pos h, h, addW_nil]; simp
  · rw [if_neg h, addW_some ws h]

/-- A word: some bytes, and no blank among them. -/
def isWord (w : List UInt8) : Prop := w ≠ [] ∧ ∀ c ∈ w, c ≠ 32
theorem go_words : ∀ (l cur : List UInt8), (∀ c ∈ cur, c ≠ 32) → ∀ w ∈ wordsGo cur l, isWord w
  | [], cur, h, w, hw => by
    rw [wordsGo] at hw
    split at hw
    · simp at hw
    · rename_i h0
      rw [List.mem_singleton.1 hw]
      exact ⟨h0, h⟩
  | c :: r, cur, h, w, hw => by
    rw [wordsGo] at hw
    split at hw
    · split at hw
      · exact go_words r [] (fun _ h => by simp at h) w hw
      · rename_i h0
        rcases List.mem_cons.1 hw with e | hw
        · rw [e]; exact ⟨h0, h⟩
        · exact go_words r [] (fun _ h => by simp at h) w hw
    · rename_i hc
      refine go_words r (cur ++ [c]) (fun d hd => ?_) w hw
      rcases List.mem_append.1 hd with hd | hd
      · exact h d hd
      · rw [List.mem_singleton.1 hd]; exact hc
/-- How long all words together are. -/
def total (ws : List (List UInt8)) : Nat := (ws.map List.length).sum
theorem total_cons (w : List UInt8) (ws : List (List UInt8)) : total (w :: ws) = w.length + total ws := by simp [total]
theorem total_append (a b : List (List UInt8)) : total (a ++ b) = total a + total b := by simp [total]
theorem go_total : ∀ (l cur : List UInt8), total (wordsGo cur l) ≤ cur.length + l.length
  | [], cur => by
    rw [wordsGo]
    split
    · simp [total]
    · simp [total]
  | c :: r, cur => by
    rw [wordsGo]
    have h0 := go_total r []
    split
    · split
      · simp at h0 ⊢; omega
      · rw [total_cons]; simp at h0 ⊢; omega
    · have := go_total r (cur ++ [c])
      simp at this ⊢; omega
theorem len_total : ∀ (ws : List (List UInt8)), (∀ w ∈ ws, isWord w) → ws.length ≤ total ws
  | [], _ => by simp [total]
  | w :: ws, h => by
    have ih := len_total ws (fun v hv => h v (by simp [hv]))
    have := (h w (by simp)).1
    have : 1 ≤ w.length := List.length_pos_iff.2 this
    rw [total_cons, List.length_cons]; omega

/-! ### words put together -/
def joinT (bl : List UInt8) : List (List UInt8) → List UInt8
  | [] => []
  | w :: r => bl ++ (w ++ joinT bl r)
def joinL (bl : List UInt8) : List (List UInt8) → List UInt8
  | [] => []
  | w :: r => w ++ joinT bl r
theorem joinT_snoc (bl : List UInt8) : ∀ (ws : List (List UInt8)) (w : List UInt8), joinT bl (ws ++ [w]) = joinT bl ws ++ (bl ++ w)
  | [], w => by simp [joinT]
  | v :: ws, w => by rw [List.cons_append, joinT, joinT_snoc bl ws w, joinT]; simp
theorem joinL_snoc (bl : List UInt8) (ws : List (List UInt8)) (w : List UInt8) (h : ws ≠ []) : joinL bl (ws ++ [w]) = joinL bl ws ++ (bl ++ w) := by
  cases ws with
  | nil => exact absurd rfl h
  | cons v ws => rw [List.cons_append, joinL, joinT_snoc, joinL]; simp
theorem joinL_one (bl w : List UInt8) : joinL bl [w] = w := by simp [joinL, joinT]
theorem joinT_len (bl : List UInt8) : ∀ ws, (joinT bl ws).length = total ws + ws.length * bl.length
  | [] => by simp [joinT, total]
  | w :: r => by rw [joinT, List.length_append, List.length_append, joinT_len bl r, total_cons, List.length_cons, Nat.succ_mul]; omega
theorem joinL_len (bl : List UInt8) (ws : List (List UInt8)) : (joinL bl ws).length ≤ total ws + ws.length * bl.length := by
  cases ws with
  | nil => simp [joinL]
  | cons w r => rw [joinL, List.length_append, joinT_len bl r, total_cons, List.length_cons, Nat.succ_mul]; omega

theorem go_blanks : ∀ (bl rest : List UInt8), (∀ c ∈ bl, c = 32) → wordsGo [] (bl ++ rest) = wordsGo [] rest
  | [], _, _ => rfl
  | c :: bl, rest, h => by
    rw [List.cons_append, h c (by simp), wordsGo, if_pos rfl, if_pos rfl]
    exact go_blanks bl rest (fun d hd => h d (by simp [hd]))
theorem go_tail (bl t : List UInt8) (hb : bl ≠ []) (hbl : ∀ c ∈ bl, c = 32) (ht : ∀ c ∈ t, c = 32) : ∀ (ws : List (List UInt8)) (cur : List UInt8), cur ≠ [] → (∀ w ∈ ws, isWord w) → wordsGo cur (joinT bl ws ++ t) = cur :: ws
  | [], cur, hc, _ => by
    rw [joinT, List.nil_append]
    cases t with
    | nil => rw [wordsGo, if_neg hc]
    | cons d t =>
      have := go_blanks t [] (fun e he => ht e (by simp [he]))
      rw [List.append_nil] at this
      rw [ht d (by simp), wordsGo, if_pos rfl, if_neg hc, this]
      rfl
  | w :: ws, cur, hc, h => by
    obtain ⟨d, bl', rfl⟩ : ∃ d b', bl = d :: b' := by cases bl with
      | nil => exact absurd rfl hb
      | cons d b' => exact ⟨d, b', rfl⟩
    have hw := h w (by simp)
    have h1 := go_chunk w [] (joinT (d :: bl') ws ++ t) hw.2
    rw [List.nil_append, go_tail (d :: bl') t hb hbl ht ws w hw.1 (fun v hv => h v (by simp [hv]))] at h1
    have h2 := go_blanks bl' (w ++ (joinT (d :: bl') ws ++ t)) (fun e he => hbl e (by simp [he]))
    rw [joinT, List.append_assoc, List.append_assoc, List.cons_append, hbl d (by simp), wordsGo, if_pos rfl, if_neg hc]
    rw [hbl d (by simp)] at h1 h2
    rw [h2, h1]
/-- The words of words put together. -/
theorem words_join (bl t : List UInt8) (hb : bl ≠ []) (hbl : ∀ c ∈ bl, c = 32) (ht : ∀ c ∈ t, c = 32) (ws : List (List UInt8)) (h : ∀ w ∈ ws, isWord w) : wordsGo [] (joinL bl ws ++ t) = ws := by
  cases ws with
  | nil =>
    have := go_blanks t [] ht
    rw [List.append_nil] at this
    rw [joinL, List.nil_append, this]; rfl
  | cons w ws =>
    have hw := h w (by simp)
    rw [joinL, List.append_assoc, go_chunk w [] _ hw.2]
    exact go_tail bl t hb hbl ht ws w hw.1 (fun v hv => h v (by simp [hv]))
end Go.Proofs.YtbdimfcdpkldpaaGreatDoor

namespace Go.Proofs.YtbdimfcdpkldpaaGreatDoor
open Go.RowKit

theorem ret_int {k : IntKind} {a b : Int} (h : a = b) : Ending.returned (.int k a) = .returned (.int k b) := by rw [h]
theorem ret_bool {a b : Bool} (h : a = b) : Ending.returned (.bool a) = .returned (.bool b) := by rw [h]

/-- A digit's value as the program has it: -1 if it is none. -/
def dgI (r : Nat) : Int := if val r < 16 then (val r : Int) else -1
theorem dgI_none (r : Nat) (h : ¬ (48 ≤ r ∧ r ≤ 57)) (h' : ¬ (97 ≤ r ∧ r ≤ 102)) : dgI r = -1 := by
  unfold dgI val; rw [if_neg h, if_neg h']; rfl
theorem dgI_dec (r : Nat) (h : 48 ≤ r ∧ r ≤ 57) : dgI r = (r : Int) - 48 := by
  unfold dgI val; rw [if_pos h, if_pos (by omega)]; omega
theorem dgI_hex (r : Nat) (h : 97 ≤ r ∧ r ≤ 102) : dgI r = (r : Int) - 97 + 10 := by
  have h1 : ¬ (48 ≤ r ∧ r ≤ 57) := by omega
  simp only [dgI, val, if_neg h1, if_pos h]
  rw [if_pos (by omega)]; omega
theorem dgI_high (r : Nat) (h : 128 ≤ r) : dgI r = -1 := dgI_none r (by omega) (by omega)

set_option maxHeartbeats 400000 in
theorem digit_any (r : Nat) (hr : r ≤ 1114111) (w : World) :
    Calls Tryz.prog 173 #[.int .i32 r] w fun e w' => e = .returned (.int .i64 (dgI r)) ∧ w = w' := by
  by_cases h1 : 48 ≤ r
  · by_cases h2 : r ≤ 57
    · rw [dgI_dec r ⟨h1, h2⟩]
      go_enter Tryz.func173, Tryz.ntmps173
      go_wp2
      go_ret
      exact ⟨ret_int (by go_num), rfl⟩
    · by_cases h3 : 97 ≤ r
      · by_cases h4 : r ≤ 102
        · rw [dgI_hex r ⟨h3, h4⟩]
          go_enter Tryz.func173, Tryz.ntmps173
          go_wp2
          go_ret
          exact ⟨ret_int (by go_num), rfl⟩
        · rw [dgI_none r (by omega) (by omega)]
          go_enter Tryz.func173, Tryz.ntmps173
          go_wp2
          go_ret
          exact ⟨rfl, rfl⟩
      · rw [dgI_none r (by omega) (by omega)]
        go_enter Tryz.func173, Tryz.ntmps173
        go_wp2
        go_ret
        exact ⟨rfl, rfl⟩
  · rw [dgI_none r (by omega) (by omega)]
    go_enter Tryz.func173, Tryz.ntmps173
    go_wp2
    go_ret
    exact ⟨rfl, rfl⟩

theorem width_pos (s : ByteArray) (pos : Nat) (h : pos < s.size) : 1 ≤ (Utf8.decode s pos).2 := by
  by_cases ha : (s[pos]'h).toNat < 128
  · rw [decode_ascii s pos h ha]
    exact Nat.le_refl _
  · exact (decode_high s pos h (by omega)).2
theorem rune_le (s : ByteArray) (pos : Nat) (h : pos < s.size) : (Utf8.decode s pos).1 ≤ 1114111 := by
  by_cases ha : (s[pos]'h).toNat < 128
  · rw [decode_ascii s pos h ha]
    show (s[pos]'h).toNat ≤ 1114111
    omega
  · have hb : ∀ k, (s.get! (pos + k)).toNat < 256 := fun k => (s.get! (pos + k)).toNat_lt
    have h0 := hb 0; have h1 := hb 1; have h2 := hb 2; have h3 := hb 3
    simp only [Utf8.decode]
    repeat' split
    all_goals simp_all [Utf8.runeError, Utf8.valid]
    all_goals omega

/-- The byte at a place, as the list has it. -/
theorem byte_at (s : ByteArray) (pos : Nat) (h : pos < s.size) : s.data.toList[pos]? = some (s[pos]'h) := by
  have : pos < s.data.size := h
  rw [Array.getElem?_toList, Array.getElem?_eq_getElem this]
  rfl
theorem drop_at (s : ByteArray) (pos : Nat) (h : pos < s.size) : s.data.toList.drop pos = (s[pos]'h) :: s.data.toList.drop (pos + 1) := by
  have h' : pos < s.data.toList.length := h
  rw [List.drop_eq_getElem_cons h']
  congr 1
theorem drop_end (s : ByteArray) (pos : Nat) (h : ¬ pos < s.size) : s.data.toList.drop pos = [] := List.drop_eq_nil_of_le (by have : s.data.toList.length = s.size := rfl; omega)

theorem small_of_val (n : Nat) (h : val n < 16) : n < 128 := by
  unfold val at h
  split at h
  · omega
  · split at h <;> omega

set_option maxHeartbeats 800000 in
theorem digits_any (s : ByteArray) (b : Nat) (hb : b = 10 ∨ b = 16) (w : World) :
    Calls Tryz.prog 174 #[.string s, .int .i64 b] w fun e w' => e = .returned (.bool (allD b s.data.toList)) ∧ Below w.heap.size w w' := by
  go_enter Tryz.func174, Tryz.ntmps174
  go_wp2
  go_loopw [] (fun w' => ∃ pos : Nat, w' = w.iter s pos ∧ allD b (s.data.toList.drop pos) = allD b s.data.toList) (fun w' => s.size - w'.iterPos w.heap.size)
  case atStart => exact ⟨0, rfl, by simp⟩
  case round =>
    obtain ⟨pos, rfl, hc⟩ := hrel
    by_cases hp : pos < s.size
    · have hnx : ∀ ty, (Instr.next (.pointer (some ⟨w.heap.size, 0, none⟩)) true ty).run Tryz.prog (w.iter s pos) = _ := fun ty => run_next_any w s pos ty hp
      have hwd := width_pos s pos hp
      have hrl := rune_le s pos hp
      rw [drop_at s pos hp, allD_cons] at hc
      have hdg := digit_any (Utf8.decode s pos).1 hrl
      by_cases hd : valB (s[pos]'hp) < b
      · have ha : (s[pos]'hp).toNat < 128 := small_of_val _ (by unfold valB at hd; omega)
        have hdec := decode_ascii s pos hp ha
        rw [hdec] at hnx hdg
        have hv : dgI (s[pos]'hp).toNat = ((valB (s[pos]'hp) : Nat) : Int) := by
          unfold dgI; rw [if_pos (by unfold valB at hd; omega)]; rfl
        simp only [hv] at hdg
        rw [decide_eq_true hd, Bool.true_and] at hc
        generalize valB (s[pos]'hp) = v at hdg hd
        clear hdec hv hwd hrl
        go_wp2_with (go_at_call 173; refine (hdg _).mono ?_; rintro e w' ⟨rfl, rfl⟩)
        go_roundw
        case rel => exact ⟨pos + 1, rfl, hc⟩
        case measure => simp; omega
      · have hv : dgI (Utf8.decode s pos).1 = -1 ∨ (b : Int) ≤ dgI (Utf8.decode s pos).1 := by
          by_cases ha : (s[pos]'hp).toNat < 128
          · rw [decode_ascii s pos hp ha]
            show dgI (s[pos]'hp).toNat = -1 ∨ (b : Int) ≤ dgI (s[pos]'hp).toNat
            unfold dgI
            unfold valB at hd
            split <;> omega
          · exact .inl (dgI_high _ (decode_high s pos hp (by omega)).1)
        generalize (Utf8.decode s pos).1 = r at hdg hv hnx hrl
        generalize dgI r = D at hdg hv
        rw [decide_eq_false hd, Bool.false_and] at hc
        have Hc := Lib.hid hc
        clear hc
        by_cases hD : D < 0
        · go_wp2_with (go_at_call 173; refine (hdg _).mono ?_; rintro e w' ⟨rfl, rfl⟩)
          go_ret
          exact ⟨ret_bool Hc.out, (Below.refl _ _).alloc (Nat.le_refl _) _⟩
        · have hD2 : (b : Int) ≤ D := by omega
          go_wp2_with (go_at_call 173; refine (hdg _).mono ?_; rintro e w' ⟨rfl, rfl⟩)
          go_ret
          exact ⟨ret_bool Hc.out, (Below.refl _ _).alloc (Nat.le_refl _) _⟩
    · have hnx : ∀ ty, (Instr.next (.pointer (some ⟨w.heap.size, 0, none⟩)) true ty).run Tryz.prog (w.iter s pos) = _ := fun ty => run_next_end w s pos ty hp
      rw [drop_end s pos hp] at hc
      go_wp2
      go_ret
      exact ⟨ret_bool hc, (Below.refl _ _).alloc (Nat.le_refl _) _⟩

theorem hex_val (r : Nat) (h : 97 ≤ r ∧ r ≤ 102) : val r = r - 97 + 10 := by
  unfold val; rw [if_neg (by omega), if_pos h]
theorem none_val (r : Nat) (h : ¬ (48 ≤ r ∧ r ≤ 57)) (h' : ¬ (97 ≤ r ∧ r ≤ 102)) : val r = 16 := by
  unfold val; rw [if_neg h, if_neg h']

set_option maxHeartbeats 800000 in
theorem value_any (c : UInt8) (w : World) :
    Calls Tryz.prog 154 #[.int .u8 c.toNat] w fun e w' => e = .returned (.int .u64 (valB c : Nat)) ∧ w = w' := by
  unfold valB
  have hc : c.toNat < 256 := UInt8.toNat_lt c
  generalize c.toNat = r at hc ⊢
  by_cases h1 : 48 ≤ r
  · by_cases h2 : r ≤ 57
    · go_enter Tryz.func154, Tryz.ntmps154
      go_wp2
      go_ret
      exact ⟨ret_int (by rw [ten_val r ⟨h1, h2⟩]; omega), rfl⟩
    · by_cases h3 : 97 ≤ r
      · by_cases h4 : r ≤ 102
        · go_enter Tryz.func154, Tryz.ntmps154
          go_wp2
          go_ret
          exact ⟨ret_int (by rw [hex_val r ⟨h3, h4⟩]; omega), rfl⟩
        · go_enter Tryz.func154, Tryz.ntmps154
          go_wp2
          go_ret
          exact ⟨ret_int (by rw [none_val r (by omega) (by omega)]; rfl), rfl⟩
      · go_enter Tryz.func154, Tryz.ntmps154
        go_wp2
        go_ret
        exact ⟨ret_int (by rw [none_val r (by omega) (by omega)]; rfl), rfl⟩
  · go_enter Tryz.func154, Tryz.ntmps154
    go_wp2
    go_ret
    exact ⟨ret_int (by rw [none_val r (by omega) (by omega)]; rfl), rfl⟩

set_option maxHeartbeats 800000 in
theorem isDecimal_any (s : ByteArray) (w : World) :
    Calls Tryz.prog 172 #[.string s] w fun e w' => e = .returned (.bool (isDec s.data.toList)) ∧ Below w.heap.size w w' := by
  have hdg := digits_any s 10 (.inl rfl)
  have hsz : s.data.toList.length = s.size := rfl
  have htl : s.toList = s.data.toList := Lib.toList_data s
  by_cases h0 : s.size = 0
  · have he : s = ⟨#[]⟩ := by
      apply ByteArray.ext
      exact Array.eq_empty_of_size_eq_zero h0
    subst he
    go_enter Tryz.func172, Tryz.ntmps172
    go_wp2
    go_ret
    exact ⟨rfl, Below.refl _ _⟩
  · have hne : ¬ s.toList = [] := by
      rw [htl]
      intro e
      apply h0
      rw [← hsz, e]; rfl
    have hem : s.toList.isEmpty = false := by
      cases hl : s.toList with
      | nil => exact absurd hl hne
      | cons c r => rfl
    have hp : 0 < s.size := by omega
    have hhd : s.data.toList.headD 0 = s[0]'hp := by
      have := byte_at s 0 hp
      cases hl : s.data.toList with
      | nil => rw [hl] at this; simp at this
      | cons c r => rw [hl] at this; simpa using this
    have hres : isDec s.data.toList = ((s.size == 1 || s[0]'hp != 48) && allD 10 s.data.toList) := by
      unfold isDec
      rw [hhd, hsz]
      have : s.data.toList.isEmpty = false := by
        cases hl : s.data.toList with
        | nil => rw [hl] at hsz; simp at hsz; omega
        | cons c r => rfl
      rw [this]; simp
    rw [hres]
    clear hres hhd
    clear htl hsz
    by_cases h1 : s.size = 1
    · have e1 : (s.size == 1) = true := by simp [h1]
      rw [e1, Bool.true_or, Bool.true_and]
      clear e1
      have hle : ¬ 1 < s.size := by omega
      go_enter Tryz.func172, Tryz.ntmps172
      go_wp2_with (go_at_call 174; refine (hdg _).mono ?_; rintro e w' ⟨rfl, hb⟩)
      go_ret
      exact ⟨rfl, hb⟩
    · have e1 : (s.size == 1) = false := by simp [h1]
      have hlt : 1 < s.size := by omega
      rw [e1, Bool.false_or]
      clear e1
      by_cases h2 : s[0]'hp = 48
      · have e2 : ((((s[0]'hp).toNat : Nat) : Int) == 48) = true := by rw [h2]; rfl
        have e3 : (s[0]'hp != 48) = false := by rw [h2]; rfl
        rw [e3, Bool.false_and]
        clear h2 e3
        go_enter Tryz.func172, Tryz.ntmps172
        go_wp2
        go_ret
        exact ⟨rfl, Below.refl _ _⟩
      · have e2 : ((((s[0]'hp).toNat : Nat) : Int) == 48) = false := by
          rw [beq_eq_false_iff_ne]
          intro e
          exact h2 (UInt8.toNat_inj.1 (by show (s[0]'hp).toNat = 48; omega))
        have e3 : (s[0]'hp != 48) = true := by simpa using h2
        rw [e3, Bool.true_and]
        clear h2 e3
        go_enter Tryz.func172, Tryz.ntmps172
        go_wp2_with (go_at_call 174; refine (hdg _).mono ?_; rintro e w' ⟨rfl, hb⟩)
        go_ret
        exact ⟨rfl, hb⟩

end Go.Proofs.YtbdimfcdpkldpaaGreatDoor

namespace Go.Proofs.YtbdimfcdpkldpaaGreatDoor
open Go.RowKit

theorem ret_two {k l : IntKind} {a b c d : Int} (h : a = b) (h' : c = d) : Ending.returned (.tuple #[.int k a, .int l c]) = .returned (.tuple #[.int k b, .int l d]) := by rw [h, h']

theorem take_next (s : ByteArray) (pos : Nat) (h : pos < s.size) : s.data.toList.take (pos + 1) = s.data.toList.take pos ++ [s[pos]'h] := by
  have h' : pos < s.data.toList.length := h
  rw [List.take_succ_eq_append_getElem h']
  congr 1
theorem all_at (b : Nat) (s : ByteArray) (pos : Nat) (h : pos < s.size) (hd : allD b s.data.toList = true) : valB (s[pos]'h) < b := by
  have h' : pos < s.data.toList.length := h
  have := List.all_eq_true.1 hd (s[pos]'h) (List.mem_iff_getElem.2 ⟨pos, h', rfl⟩)
  simpa using this

set_option maxHeartbeats 800000 in
theorem Read_any (s : ByteArray) (w : World) :
    Calls Tryz.prog 149 #[.string s] w fun e w' => e = .returned (.tuple #[.int .u64 ((readL s.data.toList).1 : Nat), .int .i64 ((readL s.data.toList).2 : Nat)]) ∧ Below w.heap.size w w' := by
  have hdc := isDecimal_any s
  by_cases hd : isDec s.data.toList = true
  · rw [hd] at hdc
    have hr1 : num 10 s.data.toList < 18446744073709551616 → readL s.data.toList = (num 10 s.data.toList, 0) := fun h => by unfold readL; rw [if_pos hd, if_pos h]
    have hr2 : ¬ num 10 s.data.toList < 18446744073709551616 → readL s.data.toList = (0, 5) := fun h => by unfold readL; rw [if_pos hd, if_neg h]
    generalize readL s.data.toList = R at hr1 hr2 ⊢
    have Hr1 := Lib.hid hr1
    have Hr2 := Lib.hid hr2
    clear hr1 hr2
    have hall := ((isDec_iff _).1 hd).2.2
    clear hd
    go_enter Tryz.func149, Tryz.ntmps149
    go_wp2_with (go_at_call 172; refine (hdc _).mono ?_; rintro e w1 ⟨rfl, hb⟩; clear hdc)
    go_loopw [4] (fun x w' => ∃ pos n : Nat, w' = w1.iter s pos ∧ x = .int .u64 n ∧ pos ≤ s.size ∧ n = num 10 (s.data.toList.take pos) ∧ Hid (n < 18446744073709551616)) (fun _ w' => s.size - w'.iterPos w1.heap.size)
    case atStart => exact ⟨0, 0, rfl, rfl, by omega, rfl, Lib.hid (by decide)⟩
    case round =>
      obtain ⟨pos, n, rfl, rfl, hle, hn, hlt⟩ := hrel
      by_cases hp : pos < s.size
      · have hnx : ∀ ty, (Instr.next (.pointer (some ⟨w1.heap.size, 0, none⟩)) true ty).run Tryz.prog (w1.iter s pos) = _ := fun ty => run_next_any w1 s pos ty hp
        have hd := all_at 10 s pos hp hall
        have ha : (s[pos]'hp).toNat < 128 := small_of_val _ (by unfold valB at hd; omega)
        rw [decode_ascii s pos hp ha] at hnx
        have hdg := digit_any (s[pos]'hp).toNat (by omega)
        have hv : dgI (s[pos]'hp).toNat = ((valB (s[pos]'hp) : Nat) : Int) := by
          unfold dgI; rw [if_pos (by unfold valB at hd; omega)]; rfl
        simp only [hv] at hdg
        have hnum := num_snoc 10 (s.data.toList.take pos) (s[pos]'hp)
        rw [← take_next s pos hp, ← hn] at hnum
        clear hv
        generalize valB (s[pos]'hp) = v at hdg hd hnum
        have Hnum := Lib.hid hnum
        have Hn := Lib.hid hn
        clear hnum hn
        go_wp2_with (go_at_call 173; refine (hdg _).mono ?_; rintro e w' ⟨rfl, rfl⟩)
        · have hgt : ¬ num 10 s.data.toList < 18446744073709551616 := by
            have h1 := num_grows 10 (by omega) (s.data.toList.take (pos + 1)) (s.data.toList.drop (pos + 1))
            rw [List.take_append_drop, Hnum.out] at h1
            omega
          go_ret2
          rw [Hr2.out hgt]
          exact ⟨rfl, hb.trans ((Below.refl _ _).alloc hb.size _)⟩
        · go_roundw
          case rel =>
            have hlt2 : n * 10 + v < 18446744073709551616 := by omega
            exact ⟨pos + 1, n * 10 + v, rfl, by go_num, by omega, Hnum.out.symm, Lib.hid hlt2⟩
          case measure => simp; omega
      · have hnx : ∀ ty, (Instr.next (.pointer (some ⟨w1.heap.size, 0, none⟩)) true ty).run Tryz.prog (w1.iter s pos) = _ := fun ty => run_next_end w1 s pos ty hp
        obtain rfl : pos = s.size := by omega
        have hfull : s.data.toList.take s.size = s.data.toList := List.take_of_length_le (Nat.le_refl _)
        rw [hfull] at hn
        subst hn
        go_wp2
        go_ret2
        rw [Hr1.out hlt.out]
        exact ⟨rfl, hb.trans ((Below.refl _ _).alloc hb.size _)⟩
  · have hd' : isDec s.data.toList = false := by simpa using hd
    rw [hd'] at hdc
    have hr : readL s.data.toList = (0, 3) := by unfold readL; rw [if_neg hd]
    rw [hr]
    clear hr
    go_enter Tryz.func149, Tryz.ntmps149
    go_wp2_with (go_at_call 172; refine (hdc _).mono ?_; rintro e w1 ⟨rfl, hb⟩)
    go_ret2
    exact ⟨rfl, hb⟩
end Go.Proofs.YtbdimfcdpkldpaaGreatDoor

namespace Go.Proofs.YtbdimfcdpkldpaaGreatDoor
open Go.RowKit

theorem und_str : Tryz.prog.underlying 9 = some .string := by kernel_rfl

/-- An index into a text, for the walk to take. -/
theorem run_ix (s : ByteArray) (k : Nat) (h : k < s.size) (W : World) :
    (Instr.index 9 (.string s) (.int .i64 k)).run Tryz.prog W = .ok (.int .u8 (s[k]'h).toNat) W := by
  rw [run_index_string W 9 s .i64 k und_str, dif_pos ⟨by omega, by omega⟩]
  rfl

theorem head_at (s : ByteArray) (hp : 0 < s.size) : s.data.toList.headD 0 = s[0]'hp := by
  have := byte_at s 0 hp
  cases hl : s.data.toList with
  | nil => rw [hl] at this; simp at this
  | cons c r => rw [hl] at this; simpa using this

theorem int_one (n : Nat) : (((n : Nat) : Int) == 1) = (n == 1) := by
  rw [Bool.eq_iff_iff, beq_iff_eq, beq_iff_eq]
  omega
theorem byte_ne (s : ByteArray) (k : Nat) (h : k < s.size) : ((((s[k]'h).toNat : Nat) : Int) != 48) = (s[k]'h != 48) := by
  generalize s[k]'h = c
  rw [Bool.eq_iff_iff, bne_iff_ne, bne_iff_ne]
  refine not_congr ⟨fun e => UInt8.toNat_inj.1 (by show c.toNat = 48; omega), ?_⟩
  rintro rfl; rfl

set_option maxHeartbeats 800000 in
theorem Decimal_any (s : ByteArray) (hs : s.size ≤ 4000) (w : World) :
    Calls Tryz.prog 153 #[.string s] w fun e w' => e = .returned (.bool (isDec s.data.toList)) ∧ w = w' := by
  have hsz : s.data.toList.length = s.size := rfl
  go_enter Tryz.func153, Tryz.ntmps153
  go_wp2
  go_loopw [3] (fun x w' => ∃ k : Nat, w' = w ∧ x = .int .i64 k ∧ k ≤ s.size ∧ Hid (allD 10 (s.data.toList.drop k) = allD 10 s.data.toList)) (fun x _ => s.size - (intOf x).toNat)
  case atStart => exact ⟨0, rfl, rfl, by omega, Lib.hid (by simp)⟩
  case round =>
    obtain ⟨k, rfl, rfl, hk, hc⟩ := hrel
    by_cases hlt : k < s.size
    · have hc' := hc.out
      clear hc
      have hix := run_ix s k hlt
      rw [drop_at s k hlt, allD_cons] at hc'
      have hval := value_any (s[k]'hlt)
      by_cases hd : valB (s[k]'hlt) < 10
      · rw [decide_eq_true hd, Bool.true_and] at hc'
        have Hc := Lib.hid hc'
        clear hc'
        generalize s[k]'hlt = c at hix hval hd
        generalize valB c = v at hval hd
        go_wp2_with (go_at_call 154; refine (hval _).mono ?_; rintro e w' ⟨rfl, rfl⟩)
        go_roundw
        case rel => exact ⟨k + 1, trivial, by go_num, by omega, Hc⟩
        case measure => simp [intOf]; go_num
      · have hres : isDec s.data.toList = false := by
          unfold isDec
          rw [← hc', decide_eq_false hd, Bool.false_and, Bool.and_false]
        have Hr := Lib.hid hres
        clear hc' hres
        generalize s[k]'hlt = c at hix hval hd
        generalize valB c = v at hval hd
        go_wp2_with (go_at_call 154; refine (hval _).mono ?_; rintro e w' ⟨rfl, rfl⟩)
        go_ret
        exact ⟨ret_bool Hr.out.symm, rfl⟩
    · obtain rfl : k = s.size := by omega
      have hall : allD 10 s.data.toList = true := by rw [← hc.out, drop_end s s.size hlt]; rfl
      clear hc
      by_cases h0 : s.size = 0
      · have he : s = ⟨#[]⟩ := by
          apply ByteArray.ext
          exact Array.eq_empty_of_size_eq_zero h0
        subst he
        go_wp2
        go_ret
        exact ⟨rfl, rfl⟩
      · have hp : 0 < s.size := by omega
        have hix := run_ix s 0 hp
        have hres : isDec s.data.toList = (s.size == 1 || s[0]'hp != 48) := by
          unfold isDec
          rw [head_at s hp, hsz, hall]
          have : s.data.toList.isEmpty = false := by
            cases hl : s.data.toList with
            | nil => rw [hl] at hsz; simp at hsz; omega
            | cons c r => rfl
          rw [this]; simp
        clear hall
        by_cases h1 : s.size = 1
        · have e1 : (s.size == 1) = true := by simp [h1]
          rw [e1, Bool.true_or] at hres
          have Hr := Lib.hid hres
          clear hres e1 hsz
          go_wp2
          go_ret
          exact ⟨ret_bool Hr.out.symm, rfl⟩
        · have Hr := Lib.hid hres
          clear hres hsz
          have h2 : 1 < s.size := by omega
          clear hix
          go_wp2
          go_ret
          refine ⟨ret_bool ?_, rfl⟩
          rw [Hr.out, int_one, byte_ne s 0 hp]
end Go.Proofs.YtbdimfcdpkldpaaGreatDoor

namespace Go.Proofs.YtbdimfcdpkldpaaGreatDoor
open Go.RowKit


theorem wrap_step (n v : Nat) (h : n * 10 + v < 18446744073709551616) : IntKind.u64.wrap (IntKind.u64.wrap ((n : Int) * 10) + (v : Int)) = ((n * 10 + v : Nat) : Int) := by
  rw [IntKind.wrap_u64, IntKind.wrap_u64]
  omega

set_option maxHeartbeats 800000 in
theorem RRead_any (s : ByteArray) (hs : s.size ≤ 4000) (w : World) :
    Calls Tryz.prog 122 #[.string s] w fun e w' => e = .returned (.tuple #[.int .u64 ((readL s.data.toList).1 : Nat), .int .i64 ((readL s.data.toList).2 : Nat)]) ∧ w = w' := by
  have hdc := Decimal_any s hs
  have hsz : s.data.toList.length = s.size := rfl
  by_cases hd : isDec s.data.toList = true
  · rw [hd] at hdc
    have hall := ((isDec_iff _).1 hd).2.2
    have hgr := great_iff _ hd
    rw [hsz] at hgr
    by_cases hg : num 10 s.data.toList < 18446744073709551616
    · have hr : readL s.data.toList = (num 10 s.data.toList, 0) := by unfold readL; rw [if_pos hd, if_pos hg]
      rw [hr]
      have hng : ¬ (20 < s.size ∨ (s.size = 20 ∧ (Op.bytesLess s.data.toList mostL || s.data.toList == mostL) = false)) := fun h => (hgr.1 h) hg
      clear hr hgr hd
      have h1 : ¬ 20 < s.size := fun h => hng (.inl h)
      have h2 : s.size = 20 → (Op.bytesLess s.toList mostL || s.toList == mostL) = true := by
        intro h
        rw [Lib.toList_data]
        cases hb : (Op.bytesLess s.data.toList mostL || s.data.toList == mostL) with
        | true => rfl
        | false => exact absurd (.inr ⟨h, hb⟩) hng
      have Hg := Lib.hid hg
      clear hng hg
      generalize hm : num 10 s.data.toList = m at Hg ⊢
      have Hm := Lib.hid hm
      clear hm hsz
      by_cases h3 : s.size = 20
      · have h4 := h2 h3
        clear h2
        cases hb1 : Op.bytesLess s.toList [49, 56, 52, 52, 54, 55, 52, 52, 48, 55, 51, 55, 48, 57, 53, 53, 49, 54, 49, 53] with
        | true =>
          clear h4
          go_enter Tryz.func122, Tryz.ntmps122
          go_wp2_with (go_at_call 153; refine (hdc _).mono ?_; rintro e w1 ⟨rfl, rfl⟩; clear hdc)
          go_loopw [5, 6] (fun x i w' => ∃ k n : Nat, w' = w ∧ x = .int .u64 n ∧ i = .int .i64 k ∧ k ≤ s.size ∧ Hid (n = num 10 (s.data.toList.take k)) ∧ Hid (n < 18446744073709551616)) (fun _ i _ => s.size - (intOf i).toNat)
          case atStart => exact ⟨0, 0, rfl, rfl, rfl, by omega, Lib.hid rfl, Lib.hid (by decide)⟩
          case round =>
            obtain ⟨k, n, rfl, rfl, rfl, hk, Hn, Hlt⟩ := hrel
            by_cases hlt : k < s.size
            · have hd := all_at 10 s k hlt hall
              have hval := value_any (s[k]'hlt)
              have hnum := num_snoc 10 (s.data.toList.take k) (s[k]'hlt)
              rw [← take_next s k hlt, ← Hn.out] at hnum
              have hgrow := num_grows 10 (by omega) (s.data.toList.take (k + 1)) (s.data.toList.drop (k + 1))
              rw [List.take_append_drop, hnum, Hm.out] at hgrow
              generalize valB (s[k]'hlt) = v at hval hd hnum hgrow
              have hsm : n * 10 + v < 18446744073709551616 := Nat.lt_of_le_of_lt hgrow Hg.out
              have Hsm := Lib.hid hsm
              have Hnum := Lib.hid hnum
              clear hnum hgrow hsm
              go_wp2_with (go_at_call 154; refine (hval _).mono ?_; rintro e w' ⟨rfl, rfl⟩)
              go_roundw
              case rel =>
                have hsm := Hsm.out
                exact ⟨k + 1, n * 10 + v, trivial, by rw [wrap_step n v hsm], by go_num, by omega, Lib.hid Hnum.out.symm, Hsm⟩
              case measure => simp [intOf]; go_num
            · obtain rfl : k = s.size := by omega
              have hfull : s.data.toList.take s.size = s.data.toList := List.take_of_length_le (Nat.le_refl _)
              have hn := Hn.out
              rw [hfull, Hm.out] at hn
              subst hn
              go_wp2
              go_ret2
              exact ⟨rfl, rfl⟩
        | false =>
          have hb2 : (s.toList == [49, 56, 52, 52, 54, 55, 52, 52, 48, 55, 51, 55, 48, 57, 53, 53, 49, 54, 49, 53]) = true := by
            rw [show Op.bytesLess s.toList mostL = false from hb1, Bool.false_or] at h4
            exact h4
          clear h4
          go_enter Tryz.func122, Tryz.ntmps122
          go_wp2_with (go_at_call 153; refine (hdc _).mono ?_; rintro e w1 ⟨rfl, rfl⟩; clear hdc)
          go_loopw [5, 6] (fun x i w' => ∃ k n : Nat, w' = w ∧ x = .int .u64 n ∧ i = .int .i64 k ∧ k ≤ s.size ∧ Hid (n = num 10 (s.data.toList.take k)) ∧ Hid (n < 18446744073709551616)) (fun _ i _ => s.size - (intOf i).toNat)
          case atStart => exact ⟨0, 0, rfl, rfl, rfl, by omega, Lib.hid rfl, Lib.hid (by decide)⟩
          case round =>
            obtain ⟨k, n, rfl, rfl, rfl, hk, Hn, Hlt⟩ := hrel
            by_cases hlt : k < s.size
            · have hd := all_at 10 s k hlt hall
              have hval := value_any (s[k]'hlt)
              have hnum := num_snoc 10 (s.data.toList.take k) (s[k]'hlt)
              rw [← take_next s k hlt, ← Hn.out] at hnum
              have hgrow := num_grows 10 (by omega) (s.data.toList.take (k + 1)) (s.data.toList.drop (k + 1))
              rw [List.take_append_drop, hnum, Hm.out] at hgrow
              generalize valB (s[k]'hlt) = v at hval hd hnum hgrow
              have hsm : n * 10 + v < 18446744073709551616 := Nat.lt_of_le_of_lt hgrow Hg.out
              have Hsm := Lib.hid hsm
              have Hnum := Lib.hid hnum
              clear hnum hgrow hsm
              go_wp2_with (go_at_call 154; refine (hval _).mono ?_; rintro e w' ⟨rfl, rfl⟩)
              go_roundw
              case rel =>
                have hsm := Hsm.out
                exact ⟨k + 1, n * 10 + v, trivial, by rw [wrap_step n v hsm], by go_num, by omega, Lib.hid Hnum.out.symm, Hsm⟩
              case measure => simp [intOf]; go_num
            · obtain rfl : k = s.size := by omega
              have hfull : s.data.toList.take s.size = s.data.toList := List.take_of_length_le (Nat.le_refl _)
              have hn := Hn.out
              rw [hfull, Hm.out] at hn
              subst hn
              go_wp2
              go_ret2
              exact ⟨rfl, rfl⟩
      · clear h2
        go_enter Tryz.func122, Tryz.ntmps122
        go_wp2_with (go_at_call 153; refine (hdc _).mono ?_; rintro e w1 ⟨rfl, rfl⟩; clear hdc)
        go_loopw [5, 6] (fun x i w' => ∃ k n : Nat, w' = w ∧ x = .int .u64 n ∧ i = .int .i64 k ∧ k ≤ s.size ∧ Hid (n = num 10 (s.data.toList.take k)) ∧ Hid (n < 18446744073709551616)) (fun _ i _ => s.size - (intOf i).toNat)
        case atStart => exact ⟨0, 0, rfl, rfl, rfl, by omega, Lib.hid rfl, Lib.hid (by decide)⟩
        case round =>
          obtain ⟨k, n, rfl, rfl, rfl, hk, Hn, Hlt⟩ := hrel
          by_cases hlt : k < s.size
          · have hd := all_at 10 s k hlt hall
            have hval := value_any (s[k]'hlt)
            have hnum := num_snoc 10 (s.data.toList.take k) (s[k]'hlt)
            rw [← take_next s k hlt, ← Hn.out] at hnum
            have hgrow := num_grows 10 (by omega) (s.data.toList.take (k + 1)) (s.data.toList.drop (k + 1))
            rw [List.take_append_drop, hnum, Hm.out] at hgrow
            generalize valB (s[k]'hlt) = v at hval hd hnum hgrow
            have hsm : n * 10 + v < 18446744073709551616 := Nat.lt_of_le_of_lt hgrow Hg.out
            have Hsm := Lib.hid hsm
            have Hnum := Lib.hid hnum
            clear hnum hgrow hsm
            go_wp2_with (go_at_call 154; refine (hval _).mono ?_; rintro e w' ⟨rfl, rfl⟩)
            go_roundw
            case rel =>
              have hsm := Hsm.out
              exact ⟨k + 1, n * 10 + v, trivial, by rw [wrap_step n v hsm], by go_num, by omega, Lib.hid Hnum.out.symm, Hsm⟩
            case measure => simp [intOf]; go_num
          · obtain rfl : k = s.size := by omega
            have hfull : s.data.toList.take s.size = s.data.toList := List.take_of_length_le (Nat.le_refl _)
            have hn := Hn.out
            rw [hfull, Hm.out] at hn
            subst hn
            go_wp2
            go_ret2
            exact ⟨rfl, rfl⟩
    · have hr : readL s.data.toList = (0, 5) := by unfold readL; rw [if_pos hd, if_neg hg]
      rw [hr]
      rcases hgr.2 hg with h1 | ⟨h1, h2⟩
      · clear hgr hr hg hd hsz hall
        go_enter Tryz.func122, Tryz.ntmps122
        go_wp2_with (go_at_call 153; refine (hdc _).mono ?_; rintro e w1 ⟨rfl, rfl⟩; clear hdc)
        go_ret2
        exact ⟨rfl, rfl⟩
      · rw [← Lib.toList_data, Bool.or_eq_false_iff] at h2
        have hb1 : Op.bytesLess s.toList [49, 56, 52, 52, 54, 55, 52, 52, 48, 55, 51, 55, 48, 57, 53, 53, 49, 54, 49, 53] = false := h2.1
        have hb2 : (s.toList == [49, 56, 52, 52, 54, 55, 52, 52, 48, 55, 51, 55, 48, 57, 53, 53, 49, 54, 49, 53]) = false := h2.2
        clear hgr hr hg hd hsz h2 hall
        go_enter Tryz.func122, Tryz.ntmps122
        go_wp2_with (go_at_call 153; refine (hdc _).mono ?_; rintro e w1 ⟨rfl, rfl⟩; clear hdc)
        go_ret2
        exact ⟨rfl, rfl⟩
  · have hd' : isDec s.data.toList = false := by simpa using hd
    rw [hd'] at hdc
    have hr : readL s.data.toList = (0, 3) := by unfold readL; rw [if_neg hd]
    rw [hr]
    clear hr hsz
    go_enter Tryz.func122, Tryz.ntmps122
    go_wp2_with (go_at_call 153; refine (hdc _).mono ?_; rintro e w1 ⟨rfl, rfl⟩)
    go_ret2
    exact ⟨rfl, rfl⟩

theorem wrap_nat (m : Nat) (h : m < 9223372036854775808) : IntKind.u64.wrap (m : Int) = (m : Int) := by
  rw [IntKind.wrap_u64]; omega

theorem wrap64_small {x : Int} (h0 : 0 ≤ x) (h : x < 9223372036854775808) : IntKind.i64.wrap x = x := by
  rw [IntKind.wrap_i64]; omega

end Go.Proofs.YtbdimfcdpkldpaaGreatDoor
