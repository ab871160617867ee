/- Plain mathematics of package tag: words of tags. -/
namespace Go.Proofs.Ytpkgbhoifmaagaa

/-- The last stamp. -/
def lastN : Nat := 72057594037927935
/-- The word of a stamp in a slot; 0: none. -/
def wd (s j : Nat) : Nat := if s = 0 then 0 else s * 256 + j
/-- The stamp of a word, as Of tells it. -/
def okW (x : Nat) : Bool := decide (1 ≤ x / 256 ∧ x % 256 < 64)
def ofS (x : Nat) : Nat := if okW x then x / 256 else 0
def ofK (x : Nat) : Nat := if okW x then x % 256 else 0

theorem wd_lt (s j : Nat) (hs : s ≤ lastN) (hj : j < 64) : wd s j < 18446744073709551616 := by
  unfold wd lastN at *; split <;> omega
theorem wd_pos (s j : Nat) (hs : 0 < s) : 0 < wd s j := by unfold wd; rw [if_neg (by omega)]; omega
theorem wd_ok (s j : Nat) (hs : 0 < s) (hj : j < 64) : okW (wd s j) = true := by
  unfold okW wd; rw [if_neg (by omega)]; simp; omega
theorem wd_div (s j : Nat) (hs : 0 < s) (hj : j < 64) : wd s j / 256 = s := by unfold wd; rw [if_neg (by omega)]; omega
theorem wd_mod (s j : Nat) (hs : 0 < s) (hj : j < 64) : wd s j % 256 = j := by unfold wd; rw [if_neg (by omega)]; omega
theorem ok_back (x : Nat) (h : okW x = true) : wd (x / 256) (x % 256) = x := by
  unfold okW at h; simp at h; unfold wd; rw [if_neg (by omega)]; omega
theorem ok_not0 : okW 0 = false := by decide

/-- Whose is a word? -/
def liveN (st : Nat → Nat) (x : Nat) : Bool := okW x && decide (wd (st (x % 256)) (x % 256) = x)
theorem live_iff (st : Nat → Nat) (x i : Nat) (hi : i < 64) (h0 : st i ≠ 0) (hx : wd (st i) i = x) : liveN st x = true ∧ x % 256 = i := by
  subst hx
  have hm := wd_mod (st i) i (by omega) hi
  refine ⟨?_, hm⟩
  unfold liveN
  rw [wd_ok _ _ (by omega) hi, hm]; simp
theorem live_of (st : Nat → Nat) (x : Nat) (h : liveN st x = true) : x % 256 < 64 ∧ st (x % 256) ≠ 0 ∧ wd (st (x % 256)) (x % 256) = x := by
  unfold liveN at h
  simp only [Bool.and_eq_true, decide_eq_true_eq] at h
  obtain ⟨ho, hw⟩ := h
  unfold okW at ho
  simp at ho
  refine ⟨ho.2, fun h0 => ?_, hw⟩
  rw [h0] at hw
  unfold wd at hw
  simp at hw
  omega

/-- A slot's stamp replaced. -/
def putF (st : Nat → Nat) (i s : Nat) : Nat → Nat := fun j => if j = i then s else st j
theorem putF_le (st : Nat → Nat) (n i s : Nat) (h : ∀ j, st j ≤ n) (hs : s ≤ n) : ∀ j, putF st i s j ≤ n := by
  intro j; unfold putF; split
  · exact hs
  · exact h j
end Go.Proofs.Ytpkgbhoifmaagaa
