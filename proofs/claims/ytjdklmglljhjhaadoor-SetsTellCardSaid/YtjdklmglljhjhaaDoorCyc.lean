/- Plain mathematics of the cycle: from any member, the next ones lead through all members, each once, and back to the first. -/
import Derived.Test.YtjdklmglljhjhaaDoorA1
namespace Go.Proofs.YtjdklmglljhjhaaDoor

theorem memL_mem (n : Nat) (x : Int) : ∀ k, x ∈ memL n k ↔ ∃ m : Nat, x = (m : Int) ∧ m < k ∧ n.testBit m = true
  | 0 => by simp [memL]
  | k + 1 => by
    rw [memL_succ]
    have ih := memL_mem n x k
    constructor
    · intro h
      split at h
      · rename_i hb
        rcases List.mem_append.1 h with h | h
        · obtain ⟨m, h1, h2, h3⟩ := ih.1 h
          exact ⟨m, h1, by omega, h3⟩
        · exact ⟨k, by simpa using h, by omega, hb⟩
      · obtain ⟨m, h1, h2, h3⟩ := ih.1 h
        exact ⟨m, h1, by omega, h3⟩
    · rintro ⟨m, rfl, h2, h3⟩
      by_cases e : m = k
      · subst e
        rw [if_pos h3]; simp
      · have := ih.2 ⟨m, rfl, by omega, h3⟩
        split
        · exact List.mem_append_left _ this
        · exact this

theorem memL_sorted (n : Nat) : ∀ k, (memL n k).Pairwise (· < ·)
  | 0 => by simp [memL]
  | k + 1 => by
    rw [memL_succ]
    have ih := memL_sorted n k
    split
    · rw [List.pairwise_append]
      refine ⟨ih, by simp, fun a ha b hb => ?_⟩
      obtain ⟨m, rfl, h2, _⟩ := (memL_mem n a k).1 ha
      have : b = (k : Int) := by simpa using hb
      omega
    · exact ih

theorem sorted_get {xs : List Int} (h : xs.Pairwise (· < ·)) {a b : Nat} (hab : a < b) (hb : b < xs.length) : xs.getD a 0 < xs.getD b 0 := by
  rw [List.getD_eq_getElem?_getD, List.getD_eq_getElem?_getD, List.getElem?_eq_getElem hb, List.getElem?_eq_getElem (by omega)]
  exact List.pairwise_iff_getElem.1 h a b _ _ hab

theorem get_inj {xs : List Int} (h : xs.Pairwise (· < ·)) {a b : Nat} (ha : a < xs.length) (hb : b < xs.length) (he : xs.getD a 0 = xs.getD b 0) : a = b := by
  rcases Nat.lt_trichotomy a b with h1 | h1 | h1
  · have := sorted_get h h1 hb; omega
  · exact h1
  · have := sorted_get h h1 ha; omega

theorem mem_get {xs : List Int} {x : Int} (h : x ∈ xs) : ∃ q, q < xs.length ∧ xs.getD q 0 = x := by
  obtain ⟨q, hq, he⟩ := List.getElem_of_mem h
  exact ⟨q, hq, by rw [List.getD_eq_getElem?_getD, List.getElem?_eq_getElem hq]; exact he⟩
theorem get_mem {xs : List Int} {q : Nat} (h : q < xs.length) : xs.getD q 0 ∈ xs := by
  rw [List.getD_eq_getElem?_getD, List.getElem?_eq_getElem h]
  exact List.getElem_mem h

theorem none_upto {xs : List Int} (h : xs.Pairwise (· < ·)) (q : Nat) (hq : q < xs.length) : noneYet xs (xs.getD q 0 + 1) (q + 1) := by
  unfold noneYet
  rw [List.find?_eq_none]
  intro x hx
  obtain ⟨t, ht, rfl⟩ := List.getElem_of_mem hx
  rw [List.length_take] at ht
  have e : (xs.take (q + 1))[t]'(by rw [List.length_take]; exact ht) = xs.getD t 0 := by
    rw [List.getElem_take, List.getD_eq_getElem?_getD, List.getElem?_eq_getElem (by omega)]; rfl
  rw [e]
  have : xs.getD t 0 ≤ xs.getD q 0 := by
    by_cases e : t = q
    · rw [e]; exact Int.le_refl _
    · exact Int.le_of_lt (sorted_get h (by omega) hq)
  simp only [decide_eq_true_eq]
  omega

/-- The next one of a member's successor. -/
theorem next_get (n : Nat) (q : Nat) (hq : q < (memL n 64).length) : nextN n ((memL n 64).getD q 0 + 1) = (memL n 64).getD (if q + 1 < (memL n 64).length then q + 1 else 0) 0 := by
  have hs := memL_sorted n 64
  unfold nextN leastN
  generalize memL n 64 = xs at *
  have hn := none_upto hs q hq
  by_cases h : q + 1 < xs.length
  · rw [if_pos h, find_hit xs _ (q + 1) h hn (by have := sorted_get hs (show q < q + 1 by omega) h; omega)]; rfl
  · rw [if_neg h]
    have e : q + 1 = xs.length := by omega
    rw [e] at hn
    rw [find_miss xs _ hn]
    match xs, hq with
    | y :: r, _ => rfl

/-- Where the cycle begins. -/
theorem first_get (n : Nat) (i : Int) (hL : 0 < (memL n 64).length) : ∃ p, p < (memL n 64).length ∧ nextN n i = (memL n 64).getD p 0 := by
  unfold nextN leastN
  generalize memL n 64 = xs at *
  cases h : xs.find? (fun j => decide (i ≤ j)) with
  | some x =>
    obtain ⟨q, hq, he⟩ := mem_get (List.mem_of_find?_eq_some h)
    exact ⟨q, hq, he.symm⟩
  | none =>
    match xs, hL with
    | y :: r, _ => exact ⟨0, by simp, rfl⟩

/-- The index after j steps from p, in a cycle of L. -/
def idx (L p j : Nat) : Nat := if p + j < L then p + j else p + j - L
theorem idx_lt (L p j : Nat) (hp : p < L) (hj : j ≤ L) : idx L p j < L := by unfold idx; split <;> omega
theorem idx_succ (L p j : Nat) (hp : p < L) (hj : j < L) : idx L p (j + 1) = if idx L p j + 1 < L then idx L p j + 1 else 0 := by
  unfold idx; repeat' split
  all_goals omega
theorem idx_inj (L p s t : Nat) (_hp : p < L) (hs : s < L) (ht : t < L) (h : idx L p s = idx L p t) : s = t := by
  unfold idx at h; repeat' split at h
  all_goals omega
theorem idx_onto (L p q : Nat) (hp : p < L) (hq : q < L) : ∃ t, t < L ∧ idx L p t = q := by
  by_cases h : p ≤ q
  · exact ⟨q - p, by omega, by unfold idx; rw [if_pos (by omega)]; omega⟩
  · exact ⟨q + L - p, by omega, by unfold idx; rw [if_neg (by omega)]; omega⟩
theorem idx_zero (L p : Nat) (hp : p < L) : idx L p 0 = p := by unfold idx; rw [if_pos (by omega)]; rfl
theorem idx_full (L p : Nat) : idx L p L = p := by unfold idx; rw [if_neg (by omega)]; omega

/-- The member after j steps. -/
def atN (n p j : Nat) : Int := (memL n 64).getD (idx (memL n 64).length p j) 0
/-- M is the set of the members met in the first j steps. -/
def metOk (n p j M : Nat) : Prop := ∀ m : Nat, M.testBit m = true ↔ ∃ t, t < j ∧ atN n p t = (m : Int)

theorem metOk_zero (n p : Nat) : metOk n p 0 0 := by intro m; simp
theorem at_in (n p j : Nat) (hp : p < (memL n 64).length) (hj : j ≤ (memL n 64).length) : ∃ m : Nat, atN n p j = (m : Int) ∧ m < 64 ∧ n.testBit m = true :=
  (memL_mem n _ 64).1 (get_mem (idx_lt _ p j hp hj))
theorem at_has (n p j : Nat) (hp : p < (memL n 64).length) (hj : j ≤ (memL n 64).length) : hasN n (atN n p j) = true := by
  obtain ⟨m, h1, h2, h3⟩ := at_in n p j hp hj
  rw [h1, hasN_in n m h2, h3]
theorem at_new (n p j M : Nat) (hp : p < (memL n 64).length) (hj : j < (memL n 64).length) (h : metOk n p j M) : hasN M (atN n p j) = false := by
  obtain ⟨m, h1, h2, h3⟩ := at_in n p j hp (by omega)
  rw [h1, hasN_in M m h2]
  cases hb : M.testBit m with
  | false => rfl
  | true =>
    obtain ⟨t, ht, he⟩ := (h m).1 hb
    rw [← h1] at he
    have := get_inj (memL_sorted n 64) (idx_lt _ p t hp (by omega)) (idx_lt _ p j hp (by omega)) he
    have := idx_inj _ p t j hp (by omega) hj this
    omega
theorem met_step (n p j M : Nat) (hp : p < (memL n 64).length) (hj : j < (memL n 64).length) (_hM : M < 18446744073709551616) (h : metOk n p j M) : metOk n p (j + 1) (putN M (atN n p j) true) := by
  obtain ⟨c, h1, h2, h3⟩ := at_in n p j hp (by omega)
  intro m
  rw [putN, testBit_bitsOf, h1]
  by_cases hm : m < 64
  · by_cases e : (m : Int) = (c : Int)
    · simp only [hm, decide_true, e, if_true, Bool.and_self, true_iff]
      exact ⟨j, by omega, by rw [h1]⟩
    · simp only [hm, decide_true, e, if_false, Bool.true_and]
      rw [h m]
      constructor
      · rintro ⟨t, ht, he⟩; exact ⟨t, by omega, he⟩
      · rintro ⟨t, ht, he⟩
        by_cases ej : t = j
        · subst ej; rw [h1] at he; omega
        · exact ⟨t, by omega, he⟩
  · simp only [hm, decide_false, Bool.false_and, Bool.false_eq_true, false_iff]
    rintro ⟨t, ht, he⟩
    obtain ⟨c', h1', h2', _⟩ := at_in n p t hp (by omega)
    rw [h1'] at he; omega
theorem met_end (n p M : Nat) (hp : p < (memL n 64).length) (hn : n < 18446744073709551616) (h : metOk n p (memL n 64).length M) : M = n := by
  apply Nat.eq_of_testBit_eq
  intro m
  rw [Bool.eq_iff_iff, h m]
  constructor
  · rintro ⟨t, ht, he⟩
    obtain ⟨c, h1, h2, h3⟩ := at_in n p t hp (by omega)
    rw [h1] at he
    obtain rfl : c = m := by omega
    exact h3
  · intro hb
    have hm : m < 64 := by
      rcases Nat.lt_or_ge m 64 with h | h
      · exact h
      · rw [testBit_big n m hn h] at hb; cases hb
    obtain ⟨q, hq, he⟩ := mem_get ((memL_mem n (m : Int) 64).2 ⟨m, rfl, hm, hb⟩)
    obtain ⟨t, ht, hi⟩ := idx_onto _ p q hp hq
    exact ⟨t, ht, by unfold atN; rw [hi]; exact he⟩
theorem at_next (n p j : Nat) (hp : p < (memL n 64).length) (hj : j < (memL n 64).length) : nextN n (atN n p j + 1) = atN n p (j + 1) := by
  unfold atN
  rw [next_get n _ (idx_lt _ p j hp (by omega)), idx_succ _ p j hp hj]
end Go.Proofs.YtjdklmglljhjhaaDoor
