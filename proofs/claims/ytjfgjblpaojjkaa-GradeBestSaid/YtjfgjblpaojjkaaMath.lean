/- Levels, quanta and runs as plain numbers: how a run goes on, and that it never gets better. -/
namespace Go.Proofs.Ytjfgjblpaojjkaa

/-- The clamped level. -/
def holdN (l : Int) : Nat := if l < 0 then 0 else if 7 < l then 7 else l.toNat
/-- The rank: what is greater than every level counts as 8. -/
def rankN (l : Int) : Nat := if l < 0 then 0 else if 7 < l then 8 else l.toNat
/-- The quantum of a level. -/
def qN (k : Nat) : Nat := [1, 1, 2, 2, 3, 4, 6, 8].getD k 0
/-- The level after it. -/
def downN (k : Nat) : Nat := if k < 7 then k + 1 else 7
/-- The best of the levels among the numbers. -/
def bestStep (b : Nat) (l : Int) : Nat := if 0 ≤ l ∧ l ≤ 7 then min b l.toNat else b
def bestN (ls : List Int) : Nat := ls.foldl bestStep 8

/-- A run from level k: f levels are left to fall. -/
def runN : Nat → Nat → Nat → Nat × Nat
  | 0, k, t => (k, t % qN k)
  | f + 1, k, t => if qN k ≤ t then runN f (k + 1) (t - qN k) else (k, t % qN k)
def runL (l : Int) (t : Nat) : Nat × Nat := runN (7 - holdN l) (holdN l) t

theorem holdN_le (l : Int) : holdN l ≤ 7 := by unfold holdN; (repeat' split) <;> omega
theorem rankN_le (l : Int) : rankN l ≤ 8 := by unfold rankN; (repeat' split) <;> omega
theorem holdN_nat (k : Nat) (h : k ≤ 7) : holdN (k : Int) = k := by unfold holdN; (repeat' split) <;> omega
theorem rankN_nat (k : Nat) (h : k ≤ 7) : rankN (k : Int) = k := by unfold rankN; (repeat' split) <;> omega
theorem hold_down (k : Nat) (h : k ≤ 7) : holdN ((k : Int) + 1) = downN k := by unfold holdN downN; (repeat' split) <;> omega
theorem downN_le (k : Nat) : downN k ≤ 7 := by unfold downN; split <;> omega
theorem cases8 {P : Nat → Prop} (k : Nat) (h : k ≤ 7) (h0 : P 0) (h1 : P 1) (h2 : P 2) (h3 : P 3) (h4 : P 4) (h5 : P 5) (h6 : P 6) (h7 : P 7) : P k := by
  match k, h with
  | 0, _ => exact h0 | 1, _ => exact h1 | 2, _ => exact h2 | 3, _ => exact h3 | 4, _ => exact h4 | 5, _ => exact h5 | 6, _ => exact h6 | 7, _ => exact h7
  | k + 8, h => omega
theorem qN_pos (k : Nat) (h : k ≤ 7) : 0 < qN k := cases8 (P := fun k => 0 < qN k) k h (by decide) (by decide) (by decide) (by decide) (by decide) (by decide) (by decide) (by decide)
theorem qN_le (k : Nat) : qN k ≤ 8 := by
  rcases Nat.lt_or_ge k 8 with h | h
  · exact cases8 (P := fun k => qN k ≤ 8) k (by omega) (by decide) (by decide) (by decide) (by decide) (by decide) (by decide) (by decide) (by decide)
  · have : qN k = 0 := by unfold qN; rw [List.getD_eq_getElem?_getD, List.getElem?_eq_none (by simp; omega)]; rfl
    omega

theorem run_fst (f : Nat) : ∀ k t, f + k ≤ 7 → k ≤ (runN f k t).1 ∧ (runN f k t).1 ≤ 7 ∧ (runN f k t).2 < qN (runN f k t).1 := by
  induction f with
  | zero => intro k t h; exact ⟨Nat.le_refl _, by simpa [runN] using h, Nat.mod_lt _ (qN_pos k (by omega))⟩
  | succ f ih =>
    intro k t h
    rw [runN]
    split
    · obtain ⟨h1, h2, h3⟩ := ih (k + 1) (t - qN k) (by omega)
      exact ⟨by omega, h2, h3⟩
    · exact ⟨Nat.le_refl _, by simp; omega, Nat.mod_lt _ (qN_pos k (by omega))⟩
/-- Ticks may be run one behind the other. -/
theorem run_comp (f : Nat) : ∀ k a b, f + k = 7 → runN (7 - (runN f k a).1) (runN f k a).1 ((runN f k a).2 + b) = runN f k (a + b) := by
  induction f with
  | zero =>
    intro k a b h
    obtain rfl : k = 7 := by omega
    simp [runN]
  | succ f ih =>
    intro k a b h
    by_cases ha : qN k ≤ a
    · have e1 : runN (f + 1) k a = runN f (k + 1) (a - qN k) := by rw [runN, if_pos ha]
      have e2 : runN (f + 1) k (a + b) = runN f (k + 1) (a - qN k + b) := by
        rw [runN, if_pos (by omega)]
        congr 1
        omega
      rw [e1, e2]
      exact ih (k + 1) (a - qN k) b (by omega)
    · have e1 : runN (f + 1) k a = (k, a) := by rw [runN, if_neg ha, Nat.mod_eq_of_lt (by omega)]
      rw [e1]
      simp only [show 7 - k = f + 1 by omega]
theorem run_all (k : Nat) (h : k ≤ 7) (t : Nat) : (runN (7 - k) k (27 + t)).1 = 7 := by
  refine cases8 (P := fun k => (runN (7 - k) k (27 + t)).1 = 7) k h ?_ ?_ ?_ ?_ ?_ ?_ ?_ ?_ <;>
    simp [runN, qN, show 1 ≤ 27 + t by omega, show 1 ≤ 27 + t - 1 by omega, show 2 ≤ 27 + t - 1 - 1 by omega, show 2 ≤ 27 + t - 1 - 1 - 2 by omega, show 3 ≤ 27 + t - 1 - 1 - 2 - 2 by omega,
      show 4 ≤ 27 + t - 1 - 1 - 2 - 2 - 3 by omega, show 6 ≤ 27 + t - 1 - 1 - 2 - 2 - 3 - 4 by omega, show 2 ≤ 27 + t - 1 by omega, show 2 ≤ 27 + t - 1 - 2 by omega, show 3 ≤ 27 + t - 1 - 2 - 2 by omega,
      show 4 ≤ 27 + t - 1 - 2 - 2 - 3 by omega, show 6 ≤ 27 + t - 1 - 2 - 2 - 3 - 4 by omega] <;> (repeat' split) <;> omega

theorem best_le (ls : List Int) : ∀ b, b ≤ 8 → ls.foldl bestStep b ≤ 8 := by
  induction ls with
  | nil => intro b h; exact h
  | cons x r ih =>
    intro b h
    refine ih _ ?_
    unfold bestStep
    split <;> omega
theorem bestN_le (ls : List Int) : bestN ls ≤ 8 := best_le ls 8 (Nat.le_refl _)
theorem bestN_snoc (ls : List Int) (x : Int) : bestN (ls ++ [x]) = bestStep (bestN ls) x := by unfold bestN; rw [List.foldl_append]; rfl
theorem bestN_take (ls : List Int) (k : Nat) (h : k < ls.length) : bestN (ls.take (k + 1)) = bestStep (bestN (ls.take k)) (ls.getD k 0) := by
  rw [List.take_succ_eq_append_getElem h, bestN_snoc, List.getD_eq_getElem?_getD, List.getElem?_eq_getElem h]; rfl
theorem bestStep_skip (b : Nat) (x : Int) (h : ¬ (0 ≤ x ∧ x ≤ 7)) : bestStep b x = b := by unfold bestStep; rw [if_neg h]
theorem bestStep_ref (b : Nat) (x : Int) (hb : b ≤ 8) (h0 : 0 ≤ x) : (bestStep b x : Int) = if x < (b : Int) then x else (b : Int) := by
  unfold bestStep
  split <;> split <;> omega
end Go.Proofs.Ytjfgjblpaojjkaa
