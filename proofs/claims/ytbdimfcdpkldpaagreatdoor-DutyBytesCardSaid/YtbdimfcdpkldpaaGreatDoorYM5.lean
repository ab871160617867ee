/- Plain mathematics of layer 9: a draft, and what a line does to it; no run of the program. -/
import Derived.Test.YtbdimfcdpkldpaaGreatDoorZ11
import Derived.Test.YtbdimfcdpkldpaaGreatDoorLYM
namespace Go.Proofs.YtbdimfcdpkldpaaGreatDoor

def stS (l : List Nat) : St := ⟨(smallY (l.getD 0 0) : Nat), (smallY (l.getD 1 0) : Nat), l.getD 2 0⟩
/-- A draft's duty, its numbers held small. -/
def drS (dr : Dr) : Dut := ⟨(smallY (dr.head.getD 0 0) : Nat), (smallY (dr.head.getD 1 0) : Nat), (smallY (dr.head.getD 2 0) : Nat), (smallY (dr.head.getD 3 0) : Nat), dr.head.getD 4 0, dr.head.getD 5 0, dr.head.getD 6 0, dr.progs, dr.starts.map stS⟩
structure Dr.ok (dr : Dr) : Prop where
  head : dr.head = [] ∨ dr.head.length = 7
  first : dr.head = [] → dr.progs = [] ∧ dr.starts = []
  big : ∀ x ∈ dr.head, x < 18446744073709551616
  progs : ∀ p ∈ dr.progs, ∀ x ∈ p, x.ok
  starts : ∀ l ∈ dr.starts, l.length = 3 ∧ ∀ x ∈ l, x < 18446744073709551616
def Dr.few (dr : Dr) (n : Nat) : Prop := dr.progs.length ≤ n ∧ dr.starts.length ≤ n ∧ ∀ p ∈ dr.progs, p.length ≤ n
def emptyDr : Dr := ⟨[], [], []⟩
theorem emptyDr_ok : emptyDr.ok := ⟨.inl rfl, (fun _ => ⟨rfl, rfl⟩), (fun _x h => nomatch h), (fun _p h => nomatch h), (fun _l h => nomatch h)⟩
theorem emptyDr_few : emptyDr.few 0 := ⟨Nat.le_refl _, Nat.le_refl _, (fun _p h => nomatch h)⟩
theorem emptyDr_zero : drS emptyDr = zeroY := rfl

theorem numsR_len {dec hex : Nat} {ws : List (List UInt8)} {xs : List Nat} (h : numsR dec hex ws = some xs) : xs.length = dec + hex ∧ readY ws hex = some xs := by
  unfold numsR at h
  split at h
  · rename_i hl
    refine ⟨by rw [readYGo_len _ _ _ h, hl], ?_⟩
    unfold readY
    rw [hl, Nat.add_sub_cancel]
    exact h
  · cases h
theorem numsR_none {dec hex : Nat} {ws : List (List UInt8)} (h : numsR dec hex ws = none) : readY ws hex = none ∨ ∃ xs, readY ws hex = some xs ∧ xs.length ≠ dec + hex := by
  unfold numsR at h
  split at h
  · rename_i hl
    left
    unfold readY
    rw [hl, Nat.add_sub_cancel]
    exact h
  · rename_i hl
    cases hr : readY ws hex with
    | none => exact .inl rfl
    | some xs => exact .inr ⟨xs, rfl, by rw [readYGo_len _ _ _ hr]; exact hl⟩
theorem head_some (d : Dut) {ws : List (List UInt8)} {xs : List Nat} (h : numsR 5 2 ws = some xs) : headY d (readY ws 2) = (drS ⟨xs, [], []⟩, 0) := by
  obtain ⟨hl, hr⟩ := numsR_len h
  rw [hr]
  match xs, hl with
  | [a, b, c, e, f, g, i], _ => rfl
theorem head_none (d : Dut) {ws : List (List UInt8)} (h : numsR 5 2 ws = none) : headY d (readY ws 2) = (d, 3) := by
  rcases numsR_none h with hr | ⟨xs, hr, hl⟩
  · rw [hr]; rfl
  · rw [hr]
    unfold headY
    split
    · rename_i e
      cases e
      exact absurd rfl hl
    · rfl
theorem start_some (d : Dut) {ws : List (List UInt8)} {xs : List Nat} (h : numsR 2 1 ws = some xs) : startY d (readY ws 1) = ({ d with starts := d.starts ++ [stS xs] }, 0) := by
  obtain ⟨hl, hr⟩ := numsR_len h
  rw [hr]
  match xs, hl with
  | [a, b, c], _ => rfl
theorem start_none (d : Dut) {ws : List (List UInt8)} (h : numsR 2 1 ws = none) : startY d (readY ws 1) = (d, 3) := by
  rcases numsR_none h with hr | ⟨xs, hr, hl⟩
  · rw [hr]; rfl
  · rw [hr]
    unfold startY
    split
    · rename_i e
      cases e
      exact absurd rfl hl
    · rfl
section
variable {d : Dut} {l : List UInt8} {z : List UInt8} {ws : List (List UInt8)}
theorem lineY_nil (b : Bool) (h : wordsGo [] l = []) : lineY d l b = (d, 15) := by
  unfold lineY
  rw [h]
theorem lineY_first (h : wordsGo [] l = z :: ws) : lineY d l true = if z = dutyW then headY d (readY ws 2) else (d, 15) := by
  unfold lineY
  rw [h]
  by_cases hz : z = dutyW
  · simp [hz]
  · simp [hz]
theorem lineY_duty (h : wordsGo [] l = dutyW :: ws) : lineY d l false = (d, 15) := by
  unfold lineY
  rw [h]
  simp
theorem lineY_start (h : wordsGo [] l = startW :: ws) : lineY d l false = startY d (readY ws 1) := by
  unfold lineY
  rw [h]
  simp [show ¬ startW = dutyW by decide]
theorem lineY_prog (h : wordsGo [] l = progW :: ws) : lineY d l false = if d.starts ≠ [] then (d, 15) else if ws = [] then ({ d with progs := d.progs ++ [[]] }, 0) else (d, 3) := by
  unfold lineY
  rw [h]
  simp [show ¬ progW = dutyW by decide, show ¬ progW = startW by decide]
theorem lineY_other (h : wordsGo [] l = z :: ws) (h1 : z ≠ dutyW) (h2 : z ≠ startW) (h3 : z ≠ progW) : lineY d l false = if d.starts ≠ [] then (d, 15) else if opOf z ≠ 0 ∧ d.progs ≠ [] then (if (parseD l).2 = 0 then ({ d with progs := addLast d.progs (parseD l).1 }, 0) else (d, (parseD l).2)) else (d, 15) := by
  unfold lineY
  rw [h]
  simp [h1, h2, h3]
theorem parseD_word (h : wordsGo [] l = z :: ws) (h0 : opOf z = 0) : (parseD l).2 = 15 := by
  unfold parseD
  rw [h]
  simp [h0]
end
end Go.Proofs.YtbdimfcdpkldpaaGreatDoor
