/- Plain mathematics of layer 9: a draft's duty, its numbers held at the greatest int, is valid where the small one is, and then the same; no run of the program. -/
import Derived.Test.YtbdimfcdpkldpaaGreatDoorYM5
namespace Go.Proofs.YtbdimfcdpkldpaaGreatDoor

/-- A number held at the greatest int. -/
def heldY (x : Nat) : Int := if x ≤ 9223372036854775807 then (x : Int) else 9223372036854775807
def stH (l : List Nat) : St := ⟨heldY (l.getD 0 0), heldY (l.getD 1 0), l.getD 2 0⟩
def drH (dr : Dr) : Dut := ⟨heldY (dr.head.getD 0 0), heldY (dr.head.getD 1 0), heldY (dr.head.getD 2 0), heldY (dr.head.getD 3 0), dr.head.getD 4 0, dr.head.getD 5 0, dr.head.getD 6 0, dr.progs, dr.starts.map stH⟩
theorem heldY_small (x : Nat) : (x ≤ 2147483647 ∧ heldY x = (x : Int) ∧ smallY x = x) ∨ (2147483647 < x ∧ 2147483647 < heldY x ∧ smallY x = 2147483647) := by
  unfold heldY smallY
  by_cases h : x ≤ 2147483647
  · left
    rw [if_pos (by omega), if_neg (by omega)]
    exact ⟨h, rfl, rfl⟩
  · right
    rw [if_pos (show 2147483647 < x by omega)]
    refine ⟨by omega, ?_, rfl⟩
    split <;> omega
theorem heldY_range (x : Nat) : -9223372036854775808 ≤ heldY x ∧ heldY x ≤ 9223372036854775807 := by
  unfold heldY
  split <;> omega
theorem held_le (x : Nat) (k : Int) (hk : k ≤ 300) : decide (heldY x ≤ k) = decide ((smallY x : Int) ≤ k) := by
  rw [decide_eq_decide]
  rcases heldY_small x with ⟨h, h1, h2⟩ | ⟨h, h1, h2⟩
  · rw [h1, h2]
  · rw [h2]
    omega
theorem held_ge (x : Nat) (k : Int) (hk : k ≤ 300) : decide (k ≤ heldY x) = decide (k ≤ (smallY x : Int)) := by
  rw [decide_eq_decide]
  rcases heldY_small x with ⟨h, h1, h2⟩ | ⟨h, h1, h2⟩
  · rw [h1, h2]
  · rw [h2]
    omega
theorem held_lt (x : Nat) (k : Nat) (hk : k ≤ 300) : decide (heldY x < (k : Int)) = decide ((smallY x : Int) < (k : Int)) := by
  rw [decide_eq_decide]
  rcases heldY_small x with ⟨h, h1, h2⟩ | ⟨h, h1, h2⟩
  · rw [h1, h2]
  · rw [h2]
    omega
theorem held_pow (x : Nat) : powB (heldY x) = powB (smallY x) := by
  rcases heldY_small x with ⟨h, h1, h2⟩ | ⟨h, h1, h2⟩
  · rw [h1, h2]
  · have e : powB (heldY x) = false := by
      cases hp : powB (heldY x) with
      | false => rfl
      | true => have := powB_cases hp; omega
    rw [e, h2]
    rfl
theorem range_held (dr : Dr) : rangeY (drH dr) = rangeY (drS dr) := by
  unfold rangeY drH drS
  simp only [held_le _ 64 (by decide), held_ge _ 1 (by decide), held_ge _ 0 (by decide), held_pow]
  cases h1 : decide ((1 : Int) ≤ (smallY (dr.head.getD 1 0) : Int)) <;> cases h2 : decide ((smallY (dr.head.getD 1 0) : Int) ≤ 64)
  all_goals try simp only [Bool.and_false, Bool.false_and]
  simp only [Bool.and_true]
  cases hp : powB (smallY (dr.head.getD 3 0))
  · simp only [Bool.and_false, Bool.false_and]
  · have e : decide (heldY (dr.head.getD 1 0) ≤ heldY (dr.head.getD 3 0)) = decide ((smallY (dr.head.getD 1 0) : Int) ≤ (smallY (dr.head.getD 3 0) : Int)) := by
      have hh := powB_cases hp
      have g2 := of_decide_eq_true h2
      rcases heldY_small (dr.head.getD 1 0) with ⟨_, k1, k2⟩ | ⟨_, _, k2⟩
      · rcases heldY_small (dr.head.getD 3 0) with ⟨_, m1, m2⟩ | ⟨_, _, m2⟩
        · rw [k1, k2, m1, m2]
        · rw [m2] at hh; omega
      · rw [k2] at g2; omega
    rw [e]
theorem startE_held (np : Nat) (cpus : Int) (l : List Nat) (hn : np ≤ 64) : startE np cpus (stH l) = startE np cpus (stS l) := by
  unfold startE stH stS
  simp only [held_ge _ 0 (by decide), held_lt _ np (by omega), held_le _ 7 (by decide)]
theorem startsE_held (np : Nat) (cpus : Int) (hn : np ≤ 64) : ∀ ls : List (List Nat), startsE np cpus (ls.map stH) = startsE np cpus (ls.map stS)
  | [] => rfl
  | l :: ls => by
    rw [List.map_cons, List.map_cons, startsE, startsE, startE_held np cpus l hn, startsE_held np cpus hn ls]
theorem allN_held (dr : Dr) (h : rangeY (drS dr) = true) : (drH dr).cpus = (drS dr).cpus := by
  obtain ⟨⟨h1, h2⟩, _⟩ := rangeY_facts h
  show heldY _ = (smallY _ : Int)
  have g2 : (smallY (dr.head.getD 0 0) : Int) ≤ 64 := h2
  rcases heldY_small (dr.head.getD 0 0) with ⟨_, k1, k2⟩ | ⟨_, _, k2⟩
  · rw [k1, k2]
  · rw [k2] at g2; omega
theorem check_held (dr : Dr) : checkY (drH dr) = checkY (drS dr) := by
  unfold checkY
  rw [range_held]
  by_cases hr : rangeY (drS dr) = true
  · rw [if_pos hr, if_pos hr, allN_held dr hr]
    have e1 : (drH dr).progs = (drS dr).progs := rfl
    have e2 : (drH dr).starts.length = (drS dr).starts.length := by unfold drH drS; simp
    rw [e1, e2]
    by_cases hl : 64 < (drS dr).progs.length ∨ 64 < (drS dr).starts.length
    · rw [if_pos hl, if_pos hl]
    · rw [if_neg hl, if_neg hl]
      have := startsE_held (drS dr).progs.length (drS dr).cpus (by omega) dr.starts
      show (if _ then startsE _ _ (dr.starts.map stH) else _) = (if _ then startsE _ _ (dr.starts.map stS) else _)
      rw [this]
  · rw [if_neg hr, if_neg hr]
theorem small_back {x : Nat} {k : Int} (h : (smallY x : Int) ≤ k) (hk : k ≤ 300) : heldY x = (smallY x : Int) := by
  rcases heldY_small x with ⟨_, k1, k2⟩ | ⟨_, _, k2⟩
  · rw [k1, k2]
  · rw [k2] at h; omega
theorem drH_same {dr : Dr} (h : checkY (drS dr) = 0) : drH dr = drS dr := by
  obtain ⟨hr, hl, _, _, hs⟩ := checkY_zero h
  obtain ⟨h1, h2, h3, h4, _⟩ := rangeY_facts hr
  have e1 : heldY (dr.head.getD 0 0) = (smallY (dr.head.getD 0 0) : Int) := small_back (k := 64) h1.2 (by decide)
  have e2 : heldY (dr.head.getD 1 0) = (smallY (dr.head.getD 1 0) : Int) := small_back (k := 64) h2.2 (by decide)
  have e3 : heldY (dr.head.getD 2 0) = (smallY (dr.head.getD 2 0) : Int) := small_back (k := 64) h3.2 (by decide)
  have e4 : heldY (dr.head.getD 3 0) = (smallY (dr.head.getD 3 0) : Int) := small_back (k := 256) h4.2 (by decide)
  have e5 : dr.starts.map stH = dr.starts.map stS := by
    refine List.map_congr_left fun l hl => ?_
    obtain ⟨g1, g2, g3, g4⟩ := startE_zero (hs (stS l) (List.mem_map_of_mem hl))
    have f1 : heldY (l.getD 0 0) = (smallY (l.getD 0 0) : Int) := small_back (k := 300) (by have : ((stS l).prog : Int) = (smallY (l.getD 0 0) : Int) := rfl; omega) (by decide)
    have f2 : heldY (l.getD 1 0) = (smallY (l.getD 1 0) : Int) := small_back (k := 7) g4 (by decide)
    unfold stH stS
    rw [f1, f2]
  unfold drH drS
  rw [e1, e2, e3, e4, e5]
theorem getD_lt {l : List Nat} (h : ∀ x ∈ l, x < 18446744073709551616) (k : Nat) : l.getD k 0 < 18446744073709551616 := by
  rw [List.getD_eq_getElem?_getD]
  cases hk : l[k]? with
  | none => simp
  | some x => exact h x (List.mem_of_getElem? hk)
theorem drH_ok {dr : Dr} (h : dr.ok) : (drH dr).ok := by
  refine ⟨heldY_range _, heldY_range _, heldY_range _, heldY_range _, getD_lt h.big 4, getD_lt h.big 5, getD_lt h.big 6, h.progs, fun s hs => ?_⟩
  obtain ⟨l, hl, rfl⟩ := List.mem_map.1 hs
  exact ⟨heldY_range _, heldY_range _, getD_lt (h.starts l hl).2 2⟩
theorem drS_ok {dr : Dr} (h : dr.ok) : (drS dr).ok := by
  have e : ∀ x, -9223372036854775808 ≤ ((smallY x : Nat) : Int) ∧ ((smallY x : Nat) : Int) ≤ 9223372036854775807 := fun x => by
    rcases heldY_small x with ⟨_, _, k2⟩ | ⟨_, _, k2⟩ <;> rw [k2] <;> omega
  refine ⟨e _, e _, e _, e _, getD_lt h.big 4, getD_lt h.big 5, getD_lt h.big 6, h.progs, fun s hs => ?_⟩
  obtain ⟨l, hl, rfl⟩ := List.mem_map.1 hs
  exact ⟨e _, e _, getD_lt (h.starts l hl).2 2⟩
/-- What is told of a draft's duty. -/
def retD (dr : Dr) : Dut := if checkY (drS dr) = 0 then drS dr else zeroY
end Go.Proofs.YtbdimfcdpkldpaaGreatDoor
