/- Plain mathematics of layer 9: duties, which of them are valid, when two are the same, the plain one; no run of the program. Plain mathematics of layer 9: a duty's text, what a line adds, what a text parses to, and that a duty is parsed from its text; no run of the program. Plain mathematics of layer 9: a duty's bytes, what bytes tell, and that a duty is read from its bytes; no run of the program. Plain mathematics of layer 9: what a text or bytes tell is a duty of numbers that fit; how long its text, its lines and its lists are; no run of the program. -/
import Derived.Test.YtbdimfcdpkldpaaGreatDoorLQ0
import Derived.Test.YtbdimfcdpkldpaaGreatDoorLT1
import Derived.Test.YtbdimfcdpkldpaaGreatDoorLM1
import Derived.Test.YtbdimfcdpkldpaaGreatDoorLD4
namespace Go.Proofs.YtbdimfcdpkldpaaGreatDoor

structure St where
  prog : Int
  grade : Int
  mask : Nat
  deriving DecidableEq
structure St.ok (s : St) : Prop where
  prog : -9223372036854775808 ≤ s.prog ∧ s.prog ≤ 9223372036854775807
  grade : -9223372036854775808 ≤ s.grade ∧ s.grade ≤ 9223372036854775807
  mask : s.mask < 18446744073709551616
structure Dut where
  cpus : Int
  threads : Int
  locks : Int
  cap : Int
  boost : Nat
  keep : Nat
  ratio : Nat
  progs : List (List Deed)
  starts : List St
structure Dut.ok (d : Dut) : Prop where
  cpus : -9223372036854775808 ≤ d.cpus ∧ d.cpus ≤ 9223372036854775807
  threads : -9223372036854775808 ≤ d.threads ∧ d.threads ≤ 9223372036854775807
  locks : -9223372036854775808 ≤ d.locks ∧ d.locks ≤ 9223372036854775807
  cap : -9223372036854775808 ≤ d.cap ∧ d.cap ≤ 9223372036854775807
  boost : d.boost < 18446744073709551616
  keep : d.keep < 18446744073709551616
  ratio : d.ratio < 18446744073709551616
  progs : ∀ p ∈ d.progs, ∀ x ∈ p, x.ok
  starts : ∀ s ∈ d.starts, s.ok
def zeroY : Dut := ⟨0, 0, 0, 0, 0, 0, 0, [], []⟩
theorem zeroY_ok : zeroY.ok := ⟨by decide, by decide, by decide, by decide, by decide, by decide, by decide, (fun p h => nomatch h), (fun p h => nomatch h)⟩

def powB (x : Int) : Bool := x == 2 || x == 4 || x == 8 || x == 16 || x == 32 || x == 64 || x == 128 || x == 256
def rangeY (d : Dut) : Bool :=
  decide (1 ≤ d.cpus) && decide (d.cpus ≤ 64) && decide (1 ≤ d.threads) && decide (d.threads ≤ 64) && decide (0 ≤ d.locks) && decide (d.locks ≤ 64) && powB d.cap && decide (d.threads ≤ d.cap) && decide (1 ≤ d.boost) && decide (d.boost ≤ 65536)
/-- The first program that may not be. -/
def progsE : List (List Deed) → Nat
  | [] => 0
  | p :: ps => if checkN p = 0 then progsE ps else checkN p
/-- The processors below n. -/
def allN (n : Int) : Nat := 2 ^ n.toNat - 1
def startE (np : Nat) (cpus : Int) (s : St) : Nat :=
  if decide (0 ≤ s.prog) && decide (s.prog < np) && decide (0 ≤ s.grade) && decide (s.grade ≤ 7) then (if s.mask &&& allN cpus = 0 then 10 else 0) else 1
def startsE (np : Nat) (cpus : Int) : List St → Nat
  | [] => 0
  | s :: ss => if startE np cpus s = 0 then startsE np cpus ss else startE np cpus s
/-- What Check answers. -/
def checkY (d : Dut) : Nat :=
  if rangeY d = true then (if 64 < d.progs.length ∨ 64 < d.starts.length then 4 else if progsE d.progs = 0 then startsE d.progs.length d.cpus d.starts else progsE d.progs) else 5

theorem startE_cases (np : Nat) (cpus : Int) (s : St) : startE np cpus s = 0 ∨ startE np cpus s = 1 ∨ startE np cpus s = 10 := by
  unfold startE
  split
  · split
    · exact .inr (.inr rfl)
    · exact .inl rfl
  · exact .inr (.inl rfl)
theorem startsE_lt (np : Nat) (cpus : Int) : ∀ ss : List St, startsE np cpus ss < 16
  | [] => show (0 : Nat) < 16 by decide
  | s :: ss => by
    unfold startsE
    split
    · exact startsE_lt np cpus ss
    · rcases startE_cases np cpus s with h | h | h <;> omega
theorem progsE_lt : ∀ ps : List (List Deed), progsE ps < 16
  | [] => by decide
  | p :: ps => by
    unfold progsE
    split
    · exact progsE_lt ps
    · rcases checkN_cases p with h | h | h <;> omega
theorem checkY_lt (d : Dut) : checkY d < 16 := by
  unfold checkY
  split
  · split
    · decide
    · split
      · exact startsE_lt _ _ _
      · exact progsE_lt _
  · decide
theorem progsE_zero : ∀ {ps : List (List Deed)}, progsE ps = 0 ↔ ∀ p ∈ ps, checkN p = 0
  | [] => by simp [progsE]
  | p :: ps => by
    unfold progsE
    rw [List.forall_mem_cons]
    constructor
    · intro h
      split at h
      · exact ⟨by assumption, progsE_zero.1 h⟩
      · exact absurd h (by assumption)
    · rintro ⟨h1, h2⟩
      rw [if_pos h1]
      exact progsE_zero.2 h2
theorem startsE_zero {np : Nat} {cpus : Int} : ∀ {ss : List St}, startsE np cpus ss = 0 ↔ ∀ s ∈ ss, startE np cpus s = 0
  | [] => by simp [startsE]
  | s :: ss => by
    unfold startsE
    rw [List.forall_mem_cons]
    constructor
    · intro h
      split at h
      · exact ⟨by assumption, startsE_zero.1 h⟩
      · exact absurd h (by assumption)
    · rintro ⟨h1, h2⟩
      rw [if_pos h1]
      exact startsE_zero.2 h2
theorem startE_zero {np : Nat} {cpus : Int} {s : St} (h : startE np cpus s = 0) : 0 ≤ s.prog ∧ s.prog < np ∧ 0 ≤ s.grade ∧ s.grade ≤ 7 := by
  unfold startE at h
  split at h
  · rename_i k
    simp only [Bool.and_eq_true, decide_eq_true_eq] at k
    exact ⟨k.1.1.1, k.1.1.2, k.1.2, k.2⟩
  · cases h
/-- A walk over the programs: those ahead of k are valid. -/
theorem progsE_at : ∀ {ps : List (List Deed)} {k : Nat} {p : List Deed}, ps[k]? = some p → (∀ q ∈ ps.take k, checkN q = 0) → checkN p ≠ 0 → progsE ps = checkN p
  | [], k, p, h, _, _ => by simp at h
  | q :: ps, 0, p, h, _, h0 => by
    simp at h
    subst h
    unfold progsE
    rw [if_neg h0]
  | q :: ps, k + 1, p, h, hq, h0 => by
    unfold progsE
    rw [if_pos (hq q (by simp))]
    exact progsE_at (k := k) (by simpa using h) (fun x hx => hq x (by simp [hx])) h0
theorem startsE_at {np : Nat} {cpus : Int} : ∀ {ss : List St} {k : Nat} {s : St}, ss[k]? = some s → (∀ q ∈ ss.take k, startE np cpus q = 0) → startE np cpus s ≠ 0 → startsE np cpus ss = startE np cpus s
  | [], k, p, h, _, _ => by simp at h
  | q :: ss, 0, p, h, _, h0 => by
    simp at h
    subst h
    unfold startsE
    rw [if_neg h0]
  | q :: ss, k + 1, p, h, hq, h0 => by
    unfold startsE
    rw [if_pos (hq q (by simp))]
    exact startsE_at (k := k) (by simpa using h) (fun x hx => hq x (by simp [hx])) h0
theorem all_take_succ {α : Type} {P : α → Prop} {l : List α} {k : Nat} {x : α} (h : ∀ q ∈ l.take k, P q) (hx : l[k]? = some x) (hp : P x) : ∀ q ∈ l.take (k + 1), P q := by
  intro q hq
  rw [List.take_add_one, hx] at hq
  rcases List.mem_append.1 hq with hq | hq
  · exact h q hq
  · simp at hq; subst hq; exact hp
theorem powB_cases {x : Int} (h : powB x = true) : x = 2 ∨ x = 4 ∨ x = 8 ∨ x = 16 ∨ x = 32 ∨ x = 64 ∨ x = 128 ∨ x = 256 := by
  unfold powB at h
  simp only [Bool.or_eq_true, beq_iff_eq] at h
  omega
theorem rangeY_facts {d : Dut} (h : rangeY d = true) : (1 ≤ d.cpus ∧ d.cpus ≤ 64) ∧ (1 ≤ d.threads ∧ d.threads ≤ 64) ∧ (0 ≤ d.locks ∧ d.locks ≤ 64) ∧ (2 ≤ d.cap ∧ d.cap ≤ 256) ∧ d.boost ≤ 65536 := by
  unfold rangeY at h
  simp only [Bool.and_eq_true, decide_eq_true_eq] at h
  obtain ⟨⟨⟨⟨⟨⟨⟨⟨⟨h1, h2⟩, h3⟩, h4⟩, h5⟩, h6⟩, h7⟩, _⟩, _⟩, h10⟩ := h
  have := powB_cases h7
  exact ⟨⟨h1, h2⟩, ⟨h3, h4⟩, ⟨h5, h6⟩, by omega, h10⟩
theorem checkY_zero {d : Dut} (h : checkY d = 0) : rangeY d = true ∧ d.progs.length ≤ 64 ∧ d.starts.length ≤ 64 ∧ (∀ p ∈ d.progs, checkN p = 0) ∧ (∀ s ∈ d.starts, startE d.progs.length d.cpus s = 0) := by
  unfold checkY at h
  split at h
  · rename_i hr
    split at h
    · cases h
    · rename_i hl
      split at h
      · rename_i hp
        exact ⟨hr, by omega, by omega, progsE_zero.1 hp, startsE_zero.1 h⟩
      · exact absurd h (by assumption)
  · cases h

/-- A duty's numbers. -/
def numsY (d : Dut) : List Nat := [wrapN d.cpus, wrapN d.threads, wrapN d.locks, wrapN d.cap, d.boost, d.keep, d.ratio]
theorem wrapN_inj {a b : Int} (ha : -9223372036854775808 ≤ a ∧ a ≤ 9223372036854775807) (hb : -9223372036854775808 ≤ b ∧ b ≤ 9223372036854775807) : wrapN a = wrapN b ↔ a = b := by
  unfold wrapN
  constructor
  · intro h
    split at h <;> split at h <;> omega
  · rintro rfl; rfl
theorem numsY_lt {d : Dut} (h : d.ok) : ∀ x ∈ numsY d, x < 18446744073709551616 := by
  have h1 := wrapN_lt _ h.cpus
  have h2 := wrapN_lt _ h.threads
  have h3 := wrapN_lt _ h.locks
  have h4 := wrapN_lt _ h.cap
  have h5 := h.boost
  have h6 := h.keep
  have h7 := h.ratio
  intro x hx
  simp only [numsY, List.mem_cons, List.not_mem_nil, or_false] at hx
  rcases hx with rfl | rfl | rfl | rfl | rfl | rfl | rfl <;> assumption
theorem numsY_inj {a b : Dut} (ha : a.ok) (hb : b.ok) : numsY a = numsY b ↔ (a.cpus = b.cpus ∧ a.threads = b.threads ∧ a.locks = b.locks ∧ a.cap = b.cap ∧ a.boost = b.boost ∧ a.keep = b.keep ∧ a.ratio = b.ratio) := by
  simp only [numsY, List.cons.injEq, and_true]
  rw [wrapN_inj ha.cpus hb.cpus, wrapN_inj ha.threads hb.threads, wrapN_inj ha.locks hb.locks, wrapN_inj ha.cap hb.cap]
/-- Two duties are the same. -/
def sameY (a b : Dut) : Prop := (a.cpus = b.cpus ∧ a.threads = b.threads ∧ a.locks = b.locks ∧ a.cap = b.cap ∧ a.boost = b.boost ∧ a.keep = b.keep ∧ a.ratio = b.ratio) ∧ a.progs = b.progs ∧ a.starts = b.starts
theorem sameY_iff (a b : Dut) : sameY a b ↔ a = b := by
  constructor
  · rintro ⟨⟨h1, h2, h3, h4, h5, h6, h7⟩, h8, h9⟩
    cases a
    cases b
    simp only at h1 h2 h3 h4 h5 h6 h7 h8 h9
    subst h1 h2 h3 h4 h5 h6 h7 h8 h9
    rfl
  · rintro rfl
    exact ⟨⟨rfl, rfl, rfl, rfl, rfl, rfl, rfl⟩, rfl, rfl⟩
theorem sameL_at {α : Type} {a b : List α} {k : Nat} {x y : α} (hx : a[k]? = some x) (hy : b[k]? = some y) (h : a.take k = b.take k) : a.take (k + 1) = b.take (k + 1) ↔ x = y := by
  rw [List.take_add_one, List.take_add_one, hx, hy, h]
  simp
theorem sameL_not {α : Type} {a b : List α} {k : Nat} {x y : α} (hx : a[k]? = some x) (hy : b[k]? = some y) (h : x ≠ y) : a ≠ b := by
  rintro rfl
  rw [hx] at hy
  exact h (by injection hy)

/-- A number held between 1 and 64. -/
def heldN (x : Int) : Int := min (max x 1) 64
def capN (t : Int) : Int := if t ≤ 2 then 2 else if t ≤ 4 then 4 else if t ≤ 8 then 8 else if t ≤ 16 then 16 else if t ≤ 32 then 32 else 64
def plainY (cpus threads : Int) : Dut := ⟨heldN cpus, heldN threads, 4, capN (heldN threads), 8, 4602678819172646912, 4611686018427387904, [], []⟩
theorem heldN_range (x : Int) : 1 ≤ heldN x ∧ heldN x ≤ 64 := by unfold heldN; omega
theorem capN_facts (t : Int) (h : 1 ≤ t ∧ t ≤ 64) : powB (capN t) = true ∧ t ≤ capN t ∧ capN t ≤ 64 := by
  unfold capN
  split
  · exact ⟨rfl, by omega, by omega⟩
  · split
    · exact ⟨rfl, by omega, by omega⟩
    · split
      · exact ⟨rfl, by omega, by omega⟩
      · split
        · exact ⟨rfl, by omega, by omega⟩
        · split
          · exact ⟨rfl, by omega, by omega⟩
          · exact ⟨rfl, by omega, by omega⟩
theorem plainY_ok (c t : Int) : (plainY c t).ok := by
  have h1 := heldN_range c
  have h2 := heldN_range t
  have h3 := (capN_facts _ h2).2
  exact ⟨(by show -9223372036854775808 ≤ heldN c ∧ heldN c ≤ 9223372036854775807; omega), (by show -9223372036854775808 ≤ heldN t ∧ heldN t ≤ 9223372036854775807; omega), (by show -9223372036854775808 ≤ (4 : Int) ∧ (4 : Int) ≤ 9223372036854775807; decide), (by show -9223372036854775808 ≤ capN (heldN t) ∧ capN (heldN t) ≤ 9223372036854775807; omega), (show (8 : Nat) < 18446744073709551616 by decide), (show (4602678819172646912 : Nat) < 18446744073709551616 by decide), (show (4611686018427387904 : Nat) < 18446744073709551616 by decide), (fun p h => nomatch h), (fun p h => nomatch h)⟩
theorem plainY_check (c t : Int) : checkY (plainY c t) = 0 := by
  have h1 := heldN_range c
  have h2 := heldN_range t
  have h3 := capN_facts _ h2
  have hr : rangeY (plainY c t) = true := by
    show (decide (1 ≤ heldN c) && decide (heldN c ≤ 64) && decide (1 ≤ heldN t) && decide (heldN t ≤ 64) && decide ((0 : Int) ≤ 4) && decide ((4 : Int) ≤ 64) && powB (capN (heldN t)) && decide (heldN t ≤ capN (heldN t)) && decide (1 ≤ 8) && decide (8 ≤ 65536)) = true
    rw [decide_eq_true h1.1, decide_eq_true h1.2, decide_eq_true h2.1, decide_eq_true h2.2, h3.1, decide_eq_true h3.2.1]
    rfl
  unfold checkY
  rw [if_pos hr]
  rfl
end Go.Proofs.YtbdimfcdpkldpaaGreatDoor

namespace Go.Proofs.YtbdimfcdpkldpaaGreatDoor

def dutyW : List UInt8 := [100, 117, 116, 121]
def progW : List UInt8 := [112, 114, 111, 103]
def startW : List UInt8 := [115, 116, 97, 114, 116]
def headW (d : Dut) : List (List UInt8) := [dutyW, Lib.decDigits (wrapN d.cpus), Lib.decDigits (wrapN d.threads), Lib.decDigits (wrapN d.locks), Lib.decDigits (wrapN d.cap), Lib.decDigits d.boost, hexN 16 d.keep, hexN 16 d.ratio]
def headL (d : Dut) : List UInt8 := joinL [32] (headW d)
def startsW (s : St) : List (List UInt8) := [startW, Lib.decDigits (wrapN s.prog), Lib.decDigits (wrapN s.grade), hexN 16 s.mask]
def startL (s : St) : List UInt8 := joinL [32] (startsW s)
def progLs (p : List Deed) : List (List UInt8) := progW :: p.map lineD
def linesY (d : Dut) : List (List UInt8) := headL d :: (d.progs.flatMap progLs ++ d.starts.map startL)
def textY (d : Dut) : List UInt8 := (linesY d).flatMap fun l => l ++ [10]
/-- What Text answers. -/
def textN9 (d : Dut) : List UInt8 := if checkY d = 0 then textY d else []

/-! ### a line -/
def readYGo : Nat → List (List UInt8) → Option (List Nat)
  | _, [] => some []
  | 0, w :: ws => if (hexR w).2 = 0 then (readYGo 0 ws).map ((hexR w).1 :: ·) else none
  | k + 1, w :: ws => if (readL w).2 = 0 then (readYGo k ws).map ((readL w).1 :: ·) else none
def readY (ws : List (List UInt8)) (h : Nat) : Option (List Nat) := readYGo (ws.length - h) ws
def smallY (x : Nat) : Nat := if 2147483647 < x then 2147483647 else x
def headY (d : Dut) : Option (List Nat) → Dut × Nat
  | some [a, b, c, e, f, g, h] => (⟨(smallY a : Nat), (smallY b : Nat), (smallY c : Nat), (smallY e : Nat), f, g, h, [], []⟩, 0)
  | _ => (d, 3)
def startY (d : Dut) : Option (List Nat) → Dut × Nat
  | some [a, b, c] => ({ d with starts := d.starts ++ [⟨(smallY a : Nat), (smallY b : Nat), c⟩] }, 0)
  | _ => (d, 3)
def addLast : List (List Deed) → Deed → List (List Deed)
  | [], _ => []
  | [p], x => [p ++ [x]]
  | p :: q :: ps, x => p :: addLast (q :: ps) x
theorem addLast_concat : ∀ (qs : List (List Deed)) (p : List Deed) (x : Deed), addLast (qs ++ [p]) x = qs ++ [p ++ [x]]
  | [], _, _ => rfl
  | [a], p, x => by simp [addLast]
  | a :: b :: qs, p, x => by
    have := addLast_concat (b :: qs) p x
    rw [List.cons_append, List.cons_append, addLast, ← List.cons_append, this]
    rfl
/-- A duty with one line more. -/
def lineY (d : Dut) (l : List UInt8) (first : Bool) : Dut × Nat :=
  match wordsGo [] l with
  | [] => (d, 15)
  | w :: ws =>
    if first = decide (w = dutyW) then
      (if first = true then headY d (readY ws 2)
      else if w = startW then startY d (readY ws 1)
      else if d.starts ≠ [] then (d, 15)
      else if w = progW then (if ws = [] then ({ d with progs := d.progs ++ [[]] }, 0) else (d, 3))
      else if opOf w ≠ 0 ∧ d.progs ≠ [] then (if (parseD l).2 = 0 then ({ d with progs := addLast d.progs (parseD l).1 }, 0) else (d, (parseD l).2))
      else (d, 15))
    else (d, 15)
/-- What Parse answers to lines. -/
def goY (i : Nat) (d : Dut) : List (List UInt8) → Dut × Nat × Nat
  | [] => if checkY d = 0 then (d, i, 0) else (zeroY, i, checkY d)
  | l :: ls => if (lineY d l (i == 0)).2 = 0 then goY (i + 1) (lineY d l (i == 0)).1 ls else (zeroY, i, (lineY d l (i == 0)).2)
theorem goY_cons (i : Nat) (d : Dut) (l : List UInt8) (ls : List (List UInt8)) : goY i d (l :: ls) = if (lineY d l (i == 0)).2 = 0 then goY (i + 1) (lineY d l (i == 0)).1 ls else (zeroY, i, (lineY d l (i == 0)).2) := by rw [goY]
def prsY (l : List UInt8) : Dut × Nat × Nat :=
  if 1048576 < l.length then (zeroY, 0, 4) else if linesL l = [] then (zeroY, 0, 2) else goY 0 zeroY (linesL l)

/-! ### the lines of a text -/
theorem flat_lines : ∀ (ls : List (List UInt8)) (r : List UInt8), (∀ l ∈ ls, NoLF l) → linesGo [] (ls.flatMap (fun l => l ++ [10]) ++ r) = ls ++ linesGo [] r
  | [], r, _ => by simp
  | l :: ls, r, h => by
    rw [List.flatMap_cons, List.append_assoc, List.append_assoc, List.singleton_append, lines_chunk _ _ _ (h l (by simp)), flat_lines ls r (fun x hx => h x (by simp [hx]))]
    rfl
theorem lines_flat (ls : List (List UInt8)) (h : ∀ l ∈ ls, NoLF l) : linesL (ls.flatMap fun l => l ++ [10]) = ls := by
  have := flat_lines ls [] h
  simpa [linesGo, linesL] using this
theorem lines_flat_cut (ls : List (List UInt8)) (h : ∀ l ∈ ls, NoLF l) (h0 : ∀ l ∈ ls, l ≠ []) : linesL (ls.flatMap fun l => l ++ [10]).dropLast = ls := by
  rcases List.eq_nil_or_concat ls with rfl | ⟨ms, l, rfl⟩
  · rfl
  · rw [List.concat_eq_append] at *
    have e : (ms ++ [l]).flatMap (fun l => l ++ [10]) = (ms.flatMap (fun l => l ++ [10]) ++ l) ++ [10] := by simp
    rw [e, List.dropLast_concat, linesL, flat_lines ms _ (fun x hx => h x (by simp [hx])), lines_last _ _ (h l (by simp)), if_neg (by simpa using h0 l (by simp))]
    simp
theorem noLF_join (ws : List (List UInt8)) (h : ∀ w ∈ ws, NoLF w) : NoLF (joinL [32] ws) := by
  have ht : ∀ ws : List (List UInt8), (∀ w ∈ ws, NoLF w) → NoLF (joinT [32] ws) := by
    intro ws
    induction ws with
    | nil => intro _ c hc; cases hc
    | cons w ws ih =>
      intro h
      rw [joinT]
      exact NoLF.append (by unfold NoLF; decide) (NoLF.append (h w (by simp)) (ih (fun x hx => h x (by simp [hx]))))
  cases ws with
  | nil => intro c hc; cases hc
  | cons w ws =>
    rw [joinL]
    exact NoLF.append (h w (by simp)) (ht ws (fun x hx => h x (by simp [hx])))
theorem noLF_dec (x : Nat) : NoLF (Lib.decDigits x) := NoLF.digits (by decide) (dec_facts (x + 1) x (by omega)).2.1
theorem noLF_hex (x : Nat) (hx : x < 18446744073709551616) : NoLF (hexN 16 x) := NoLF.digits (Nat.le_refl _) (hexN_facts 16 x (by rw [show (16 : Nat) ^ 16 = 18446744073709551616 by decide]; exact hx)).2
theorem headW_words {d : Dut} (h : d.ok) : ∀ w ∈ headW d, isWord w ∧ NoLF w := by
  have hk := hex_word d.keep h.keep
  have hr := hex_word d.ratio h.ratio
  have lk := noLF_hex d.keep h.keep
  have lr := noLF_hex d.ratio h.ratio
  intro w hw
  simp only [headW, List.mem_cons, List.not_mem_nil, or_false] at hw
  rcases hw with rfl | rfl | rfl | rfl | rfl | rfl | rfl | rfl
  · exact ⟨⟨by decide, by decide⟩, by unfold NoLF; decide⟩
  · exact ⟨dec_word _, noLF_dec _⟩
  · exact ⟨dec_word _, noLF_dec _⟩
  · exact ⟨dec_word _, noLF_dec _⟩
  · exact ⟨dec_word _, noLF_dec _⟩
  · exact ⟨dec_word _, noLF_dec _⟩
  · exact ⟨hk, lk⟩
  · exact ⟨hr, lr⟩
theorem startsW_words {s : St} (h : s.ok) : ∀ w ∈ startsW s, isWord w ∧ NoLF w := by
  have hk := hex_word s.mask h.mask
  have lk := noLF_hex s.mask h.mask
  intro w hw
  simp only [startsW, List.mem_cons, List.not_mem_nil, or_false] at hw
  rcases hw with rfl | rfl | rfl | rfl
  · exact ⟨⟨by decide, by decide⟩, by unfold NoLF; decide⟩
  · exact ⟨dec_word _, noLF_dec _⟩
  · exact ⟨dec_word _, noLF_dec _⟩
  · exact ⟨hk, lk⟩
theorem words_of (ws : List (List UInt8)) (h : ∀ w ∈ ws, isWord w) : wordsGo [] (joinL [32] ws) = ws := by
  have := words_join [32] [] (by decide) (by decide) (by decide) ws h
  rwa [List.append_nil] at this
theorem head_words {d : Dut} (h : d.ok) : wordsGo [] (headL d) = headW d := words_of _ fun w hw => (headW_words h w hw).1
theorem start_words {s : St} (h : s.ok) : wordsGo [] (startL s) = startsW s := words_of _ fun w hw => (startsW_words h w hw).1
theorem noLF_progLs {p : List Deed} (h : ∀ x ∈ p, x.ok) (g : goodP p = true) : ∀ l ∈ progLs p, NoLF l ∧ l ≠ [] := by
  intro l hl
  unfold progLs at hl
  rcases List.mem_cons.1 hl with rfl | hl
  · exact ⟨by unfold NoLF; decide, by decide⟩
  · obtain ⟨x, hx, rfl⟩ := List.mem_map.1 hl
    exact ⟨noLF_line x (h x hx), line_ne x (h x hx) (goodP_mem g hx)⟩
theorem linesY_noLF {d : Dut} (h : d.ok) (h0 : checkY d = 0) : ∀ l ∈ linesY d, NoLF l ∧ l ≠ [] := by
  obtain ⟨_, _, _, hp, _⟩ := checkY_zero h0
  intro l hl
  unfold linesY at hl
  rcases List.mem_cons.1 hl with rfl | hl
  · refine ⟨noLF_join _ fun w hw => (headW_words h w hw).2, fun e => ?_⟩
    have := head_words h
    rw [e] at this
    cases this
  · rcases List.mem_append.1 hl with hl | hl
    · obtain ⟨p, hpm, hl⟩ := List.mem_flatMap.1 hl
      exact noLF_progLs (h.progs p hpm) (checkN_zero.1 (hp p hpm)).2 l hl
    · obtain ⟨s, hs, rfl⟩ := List.mem_map.1 hl
      refine ⟨noLF_join _ fun w hw => (startsW_words (h.starts s hs) w hw).2, fun e => ?_⟩
      have := start_words (h.starts s hs)
      rw [e] at this
      cases this

/-! ### round trip -/
theorem read_some (a : Nat) (h : a < 18446744073709551616) (k : Nat) (ws : List (List UInt8)) : readYGo (k + 1) (Lib.decDigits a :: ws) = (readYGo k ws).map (a :: ·) := by
  rw [readYGo, read_dec a h, if_pos rfl]
theorem hex_some (a : Nat) (h : a < 18446744073709551616) (ws : List (List UInt8)) : readYGo 0 (hexN 16 a :: ws) = (readYGo 0 ws).map (a :: ·) := by
  rw [readYGo, hexR_hex a h, if_pos rfl]
theorem smallY_back (x : Int) (h : 0 ≤ x) (h2 : x ≤ 2147483647) : ((smallY (wrapN x) : Nat) : Int) = x := by
  have := wrapN_back x h
  unfold smallY
  rw [if_neg (by omega)]
  exact this
theorem line_head {d : Dut} (h : d.ok) (hr : rangeY d = true) (z : Dut) : lineY z (headL d) true = ({ d with progs := [], starts := [] }, 0) := by
  obtain ⟨h1, h2, h3, h4, _⟩ := rangeY_facts hr
  have w1 := wrapN_lt _ h.cpus
  have w2 := wrapN_lt _ h.threads
  have w3 := wrapN_lt _ h.locks
  have w4 := wrapN_lt _ h.cap
  have e : readY [Lib.decDigits (wrapN d.cpus), Lib.decDigits (wrapN d.threads), Lib.decDigits (wrapN d.locks), Lib.decDigits (wrapN d.cap), Lib.decDigits d.boost, hexN 16 d.keep, hexN 16 d.ratio] 2 = some [wrapN d.cpus, wrapN d.threads, wrapN d.locks, wrapN d.cap, d.boost, d.keep, d.ratio] := by
    unfold readY
    show readYGo 5 _ = _
    rw [read_some _ w1, read_some _ w2, read_some _ w3, read_some _ w4, read_some _ h.boost, hex_some _ h.keep, hex_some _ h.ratio]
    rfl
  have k1 := smallY_back d.cpus (by omega) (by omega)
  have k2 := smallY_back d.threads (by omega) (by omega)
  have k3 := smallY_back d.locks (by omega) (by omega)
  have k4 := smallY_back d.cap (by omega) (by omega)
  unfold lineY
  rw [head_words h, headW]
  simp only [decide_true, if_true]
  rw [e, headY, k1, k2, k3, k4]
theorem line_start {s : St} (h : s.ok) {np : Nat} {cpus : Int} (hn : np ≤ 64) (h0 : startE np cpus s = 0) (z : Dut) : lineY z (startL s) false = ({ z with starts := z.starts ++ [s] }, 0) := by
  obtain ⟨h1, h2, h3, h4⟩ := startE_zero h0
  have w1 := wrapN_lt _ h.prog
  have w2 := wrapN_lt _ h.grade
  have e : readY [Lib.decDigits (wrapN s.prog), Lib.decDigits (wrapN s.grade), hexN 16 s.mask] 1 = some [wrapN s.prog, wrapN s.grade, s.mask] := by
    unfold readY
    show readYGo 2 _ = _
    rw [read_some _ w1, read_some _ w2, hex_some _ h.mask]
    rfl
  have k1 := smallY_back s.prog (by omega) (by omega)
  have k2 := smallY_back s.grade (by omega) (by omega)
  unfold lineY
  rw [start_words h, startsW]
  simp only [show decide (startW = dutyW) = false by decide, if_true, Bool.false_eq_true, if_false]
  rw [e, startY, k1, k2]
theorem name_not (op : Int) (h : isOp op = true) : nameN op.toNat ≠ dutyW ∧ nameN op.toNat ≠ startW ∧ nameN op.toNat ≠ progW := by
  rcases isOp_cases h with rfl | rfl | rfl | rfl | rfl | rfl | rfl | rfl | rfl | rfl | rfl <;> exact ⟨by decide, by decide, by decide⟩
theorem line_prog (z : Dut) (hz : z.starts = []) : lineY z progW false = ({ z with progs := z.progs ++ [[]] }, 0) := by
  unfold lineY
  rw [show wordsGo [] progW = [progW] from rfl]
  simp only [show decide (progW = dutyW) = false by decide, if_true, Bool.false_eq_true, if_false, show ¬ progW = startW by decide, hz, ne_eq, not_true_eq_false]
theorem line_deed {x : Deed} (hx : x.ok) (hg : goodD x = true) (z : Dut) (hz : z.starts = []) (hp : z.progs ≠ []) : lineY z (lineD x) false = ({ z with progs := addLast z.progs x }, 0) := by
  have ho := good_op hg
  obtain ⟨n1, n2, n3⟩ := name_not x.op ho
  have hop := (name_op x.op ho).2
  unfold lineY
  rw [line_words x hx hg, parse_line x hx hg]
  simp only [decide_eq_false n1, if_true, Bool.false_eq_true, if_false, n2, n3, hz, ne_eq, not_true_eq_false, hop, hp, not_false_eq_true, and_self]
theorem go_deeds : ∀ (p : List Deed) (i : Nat) (z : Dut) (qs : List (List Deed)) (acc : List Deed) (ls : List (List UInt8)), 0 < i → z.starts = [] → z.progs = qs ++ [acc] → (∀ x ∈ p, x.ok) → (∀ x ∈ p, goodD x = true) →
    goY i z (p.map lineD ++ ls) = goY (i + p.length) { z with progs := qs ++ [acc ++ p] } ls
  | [], i, z, qs, acc, ls, _, _, hp, _, _ => by
    rw [List.append_nil, ← hp]
    rfl
  | x :: p, i, z, qs, acc, ls, hi, hz, hp, h, g => by
    have e := line_deed (h x (by simp)) (g x (by simp)) z hz (by rw [hp]; simp)
    rw [List.map_cons, List.cons_append, goY_cons, show (i == 0) = false by simp; omega, e, hp, addLast_concat]
    simp only [if_true]
    rw [go_deeds p (i + 1) { z with progs := qs ++ [acc ++ [x]] } qs (acc ++ [x]) ls (by omega) hz rfl (fun y hy => h y (by simp [hy])) (fun y hy => g y (by simp [hy]))]
    simp only [List.append_assoc, List.singleton_append, List.length_cons]
    rw [show i + 1 + p.length = i + (p.length + 1) by omega]
theorem go_progs : ∀ (ps : List (List Deed)) (i : Nat) (z : Dut) (ls : List (List UInt8)), 0 < i → z.starts = [] → (∀ p ∈ ps, ∀ x ∈ p, x.ok) → (∀ p ∈ ps, checkN p = 0) →
    goY i z (ps.flatMap progLs ++ ls) = goY (i + (ps.flatMap progLs).length) { z with progs := z.progs ++ ps } ls
  | [], i, z, ls, _, _, _, _ => by
    rw [List.append_nil]
    rfl
  | p :: ps, i, z, ls, hi, hz, h, g => by
    have e := line_prog z hz
    have hg := (checkN_zero.1 (g p (by simp))).2
    rw [List.flatMap_cons, progLs, List.cons_append, List.cons_append, goY_cons, show (i == 0) = false by simp; omega, e]
    simp only [if_true]
    rw [List.append_assoc, go_deeds p (i + 1) { z with progs := z.progs ++ [[]] } z.progs [] _ (by omega) hz rfl (h p (by simp)) (fun x hx => goodP_mem hg hx), List.nil_append]
    rw [go_progs ps _ { z with progs := z.progs ++ [p] } ls (by omega) hz (fun q hq => h q (by simp [hq])) (fun q hq => g q (by simp [hq]))]
    simp only [List.append_assoc, List.singleton_append, List.length_cons, List.length_append, List.length_map]
    rw [show i + 1 + p.length + (ps.flatMap progLs).length = i + (p.length + (ps.flatMap progLs).length + 1) by omega]
theorem go_starts : ∀ (ss : List St) (i : Nat) (z : Dut) (np : Nat) (cpus : Int), 0 < i → np ≤ 64 → (∀ s ∈ ss, s.ok) → (∀ s ∈ ss, startE np cpus s = 0) →
    goY i z (ss.map startL) = goY (i + ss.length) { z with starts := z.starts ++ ss } []
  | [], i, z, _, _, _, _, _, _ => by
    rw [List.append_nil]
    rfl
  | s :: ss, i, z, np, cpus, hi, hn, h, g => by
    have e := line_start (h s (by simp)) hn (g s (by simp)) z
    rw [List.map_cons, goY_cons, show (i == 0) = false by simp; omega, e]
    simp only [if_true]
    rw [go_starts ss (i + 1) { z with starts := z.starts ++ [s] } np cpus (by omega) hn (fun x hx => h x (by simp [hx])) (fun x hx => g x (by simp [hx]))]
    simp only [List.append_assoc, List.singleton_append, List.length_cons]
    rw [show i + 1 + ss.length = i + (ss.length + 1) by omega]
theorem go_linesY {d : Dut} (h : d.ok) (h0 : checkY d = 0) : goY 0 zeroY (linesY d) = (d, (linesY d).length, 0) := by
  obtain ⟨hr, hl, _, hp, hs⟩ := checkY_zero h0
  have e := line_head h hr zeroY
  unfold linesY
  rw [goY_cons, show ((0 : Nat) == 0) = true from rfl, e]
  simp only [if_true]
  rw [go_progs d.progs _ { d with progs := [], starts := [] } _ (by omega) rfl h.progs hp]
  rw [go_starts d.starts _ { d with progs := [] ++ d.progs, starts := [] } d.progs.length d.cpus (by omega) hl h.starts hs]
  simp only [List.nil_append]
  rw [goY, show ({ d with progs := d.progs, starts := d.starts } : Dut) = d from rfl, if_pos h0]
  simp only [List.length_cons, List.length_append, List.length_map]
  rw [show 0 + 1 + (d.progs.flatMap progLs).length + d.starts.length = (d.progs.flatMap progLs).length + d.starts.length + 1 by omega]
theorem prsY_text {d : Dut} (h : d.ok) (h0 : checkY d = 0) (hl : (textY d).length ≤ 1048576) : prsY (textY d) = (d, (linesY d).length, 0) ∧ prsY (textY d).dropLast = (d, (linesY d).length, 0) := by
  have hn := linesY_noLF h h0
  have e1 := lines_flat (linesY d) (fun l hm => (hn l hm).1)
  have e2 := lines_flat_cut (linesY d) (fun l hm => (hn l hm).1) (fun l hm => (hn l hm).2)
  have hne : linesY d ≠ [] := by unfold linesY; simp
  have l1 : ¬ 1048576 < (textY d).length := by omega
  have l2 : ¬ 1048576 < (textY d).dropLast.length := by rw [List.length_dropLast]; omega
  unfold prsY
  rw [if_neg l1, if_neg l2]
  unfold textY
  rw [e1, e2, if_neg hne, go_linesY h h0]
  exact ⟨rfl, rfl⟩
end Go.Proofs.YtbdimfcdpkldpaaGreatDoor

namespace Go.Proofs.YtbdimfcdpkldpaaGreatDoor
open Wire (RS rdByte rdNum truth numB truB)

def startBy (s : St) : List UInt8 := numB (wrapN s.prog) ++ (numB (wrapN s.grade) ++ numB s.mask)
/-- A duty's bytes. -/
def bytesY (d : Dut) : List UInt8 := (numsY d).flatMap numB ++ (numB d.progs.length ++ (d.progs.flatMap bytesP ++ (numB d.starts.length ++ d.starts.flatMap startBy)))

/-- So many numbers. -/
def rdNums : Nat → RS → RS × List Nat
  | 0, st => (st, [])
  | n + 1, st => ((rdNums n (rdNum st).1).1, (rdNum st).2 :: (rdNums n (rdNum st).1).2)
/-- How many there are, at most 64. -/
def countY (st : RS) : RS × Nat := if (rdNum st).1.code = 0 ∧ 64 < (rdNum st).2 then (.err 4, 0) else rdNum st
/-- A program, or the error. -/
def getPr (st : RS) : RS × List Deed := if (getP st).2.2 = 0 then ((getP st).1, (getP st).2.1) else (.err (getP st).2.2, [])
def progsG : Nat → List (List Deed) → RS → RS × List (List Deed)
  | 0, acc, st => (st, acc)
  | n + 1, acc, st => if st.code = 0 then progsG n (acc ++ [(getPr st).2]) (getPr st).1 else (st, acc)
def rdSt (st : RS) : RS × Nat × Nat × Nat := ((rdNum (rdNum (rdNum st).1).1).1, (rdNum st).2, (rdNum (rdNum st).1).2, (rdNum (rdNum (rdNum st).1).1).2)
def stOf (x : Nat × Nat × Nat) : St := ⟨(smallY x.1 : Nat), (smallY x.2.1 : Nat), x.2.2⟩
def bigSt (x : Nat × Nat × Nat) : Bool := decide (2147483647 < x.1) || decide (2147483647 < x.2.1)
def startsG : Nat → List St → Bool → RS → RS × List St × Bool
  | 0, acc, g, st => (st, acc, g)
  | n + 1, acc, g, st => if st.code = 0 then startsG n (acc ++ [stOf (rdSt st).2]) (g || bigSt (rdSt st).2) (rdSt st).1 else (st, acc, g)
def bigY : List Nat → Bool
  | a :: b :: c :: e :: _ => decide (2147483647 < a) || decide (2147483647 < b) || decide (2147483647 < c) || decide (2147483647 < e)
  | _ => false
def headOf (xs : List Nat) (ps : List (List Deed)) (ss : List St) : Dut :=
  match xs with
  | [a, b, c, e, f, g, h] => ⟨(smallY a : Nat), (smallY b : Nat), (smallY c : Nat), (smallY e : Nat), f, g, h, ps, ss⟩
  | _ => zeroY
/-- The end of reading: the reader's state, whether a number is too great, the duty. -/
def endY (st : RS) (great : Bool) (d : Dut) : Dut × Nat :=
  if doneR st = 0 then (if great = true then (zeroY, 5) else if checkY d = 0 then (d, 0) else (zeroY, checkY d)) else (zeroY, doneR st)
def decGo (xs : List Nat) (n : RS × Nat) : Dut × Nat :=
  let p := progsG n.2 [] n.1
  let m := countY p.1
  let s := startsG m.2 [] (bigY xs) m.1
  endY s.1 s.2.2 (headOf xs p.2 s.2.1)
/-- What Decode answers. -/
def decY (l : List UInt8) : Dut × Nat := decGo (rdNums 7 (.ok l)).2 (countY (rdNums 7 (.ok l)).1)

theorem rdNums_bytes : ∀ (xs : List Nat) (r : List UInt8), (∀ x ∈ xs, x < 18446744073709551616) → rdNums xs.length (.ok (xs.flatMap numB ++ r)) = (.ok r, xs)
  | [], r, _ => rfl
  | x :: xs, r, h => by
    rw [List.length_cons, rdNums, List.flatMap_cons, List.append_assoc, rd_numB x (h x (by simp)), rdNums_bytes xs r (fun y hy => h y (by simp [hy]))]
theorem count_bytes (n : Nat) (h : n ≤ 64) (r : List UInt8) : countY (.ok (numB n ++ r)) = (.ok r, n) := by
  unfold countY
  rw [rd_numB n (by omega), if_neg (by simp; omega)]
theorem getPr_bytes (ps : List Deed) (h : ∀ d ∈ ps, d.ok) (h0 : checkN ps = 0) (r : List UInt8) : getPr (.ok (bytesP ps ++ r)) = (.ok r, ps) := by
  unfold getPr
  rw [getP_bytes ps h h0 r]
  rfl
theorem progsG_bytes : ∀ (ps acc : List (List Deed)) (r : List UInt8), (∀ p ∈ ps, ∀ x ∈ p, x.ok) → (∀ p ∈ ps, checkN p = 0) → progsG ps.length acc (.ok (ps.flatMap bytesP ++ r)) = (.ok r, acc ++ ps)
  | [], acc, r, _, _ => by simp [progsG]
  | p :: ps, acc, r, h, g => by
    rw [List.length_cons, progsG, List.flatMap_cons, List.append_assoc, getPr_bytes p (h p (by simp)) (g p (by simp))]
    simp only [Wire.RS.code, if_true]
    rw [progsG_bytes ps _ r (fun q hq => h q (by simp [hq])) (fun q hq => g q (by simp [hq])), List.append_assoc]
    rfl
theorem rdSt_bytes {s : St} (h : s.ok) (r : List UInt8) : rdSt (.ok (startBy s ++ r)) = (.ok r, wrapN s.prog, wrapN s.grade, s.mask) := by
  unfold rdSt startBy
  rw [List.append_assoc, List.append_assoc, rd_numB _ (wrapN_lt _ h.prog), rd_numB _ (wrapN_lt _ h.grade), rd_numB _ h.mask]
theorem startsG_bytes : ∀ (ss acc : List St) (r : List UInt8) (np : Nat) (cpus : Int), np ≤ 64 → (∀ s ∈ ss, s.ok) → (∀ s ∈ ss, startE np cpus s = 0) → startsG ss.length acc false (.ok (ss.flatMap startBy ++ r)) = (.ok r, acc ++ ss, false)
  | [], acc, r, _, _, _, _, _ => by simp [startsG]
  | s :: ss, acc, r, np, cpus, hn, h, g => by
    obtain ⟨h1, h2, h3, h4⟩ := startE_zero (g s (by simp))
    have k1 := smallY_back s.prog (by omega) (by omega)
    have k2 := smallY_back s.grade (by omega) (by omega)
    have w1 := wrapN_back s.prog (by omega)
    have w2 := wrapN_back s.grade (by omega)
    have e : stOf (wrapN s.prog, wrapN s.grade, s.mask) = s := by unfold stOf; simp only; rw [k1, k2]
    have b : bigSt (wrapN s.prog, wrapN s.grade, s.mask) = false := by
      unfold bigSt
      simp only [Bool.or_eq_false_iff, decide_eq_false_iff_not]
      omega
    rw [List.length_cons, startsG, List.flatMap_cons, List.append_assoc, rdSt_bytes (h s (by simp))]
    simp only [Wire.RS.code, if_true]
    rw [e, b, Bool.false_or, startsG_bytes ss _ r np cpus hn (fun q hq => h q (by simp [hq])) (fun q hq => g q (by simp [hq])), List.append_assoc]
    rfl
theorem decY_bytes {d : Dut} (h : d.ok) (h0 : checkY d = 0) : decY (bytesY d) = (d, 0) := by
  obtain ⟨hr, hl, hl2, hp, hs⟩ := checkY_zero h0
  obtain ⟨h1, h2, h3, h4, _⟩ := rangeY_facts hr
  have k1 := smallY_back d.cpus (by omega) (by omega)
  have k2 := smallY_back d.threads (by omega) (by omega)
  have k3 := smallY_back d.locks (by omega) (by omega)
  have k4 := smallY_back d.cap (by omega) (by omega)
  have w1 := wrapN_back d.cpus (by omega)
  have w2 := wrapN_back d.threads (by omega)
  have w3 := wrapN_back d.locks (by omega)
  have w4 := wrapN_back d.cap (by omega)
  have e1 := rdNums_bytes (numsY d) (numB d.progs.length ++ (d.progs.flatMap bytesP ++ (numB d.starts.length ++ d.starts.flatMap startBy))) (numsY_lt h)
  have e2 := count_bytes d.progs.length hl (d.progs.flatMap bytesP ++ (numB d.starts.length ++ d.starts.flatMap startBy))
  have e3 := progsG_bytes d.progs [] (numB d.starts.length ++ d.starts.flatMap startBy) h.progs hp
  have e4 := count_bytes d.starts.length hl2 (d.starts.flatMap startBy)
  have e5 := startsG_bytes d.starts [] [] d.progs.length d.cpus hl h.starts hs
  rw [List.append_nil] at e5
  have b : bigY (numsY d) = false := by
    simp only [bigY, numsY, Bool.or_eq_false_iff, decide_eq_false_iff_not]
    omega
  have hd : headOf (numsY d) d.progs d.starts = d := by
    simp only [headOf, numsY]
    rw [k1, k2, k3, k4]
  unfold decY bytesY
  rw [show (7 : Nat) = (numsY d).length from rfl, e1, e2]
  unfold decGo
  rw [e3]
  simp only [List.nil_append]
  rw [e4]
  simp only
  rw [b, e5]
  simp only [List.nil_append]
  rw [hd]
  unfold endY
  rw [if_pos (show doneR (RS.ok []) = 0 from rfl), if_neg (by decide), if_pos h0]

/-! ### lengths -/
theorem startBy_len {s : St} (h : s.ok) : (startBy s).length ≤ 27 := by
  have h1 := Wire.numB_len _ (wrapN_lt _ h.prog)
  have h2 := Wire.numB_len _ (wrapN_lt _ h.grade)
  have h3 := Wire.numB_len _ h.mask
  unfold startBy
  rw [List.length_append, List.length_append]
  omega
theorem flatMap_len {α : Type} (f : α → List UInt8) (k : Nat) : ∀ l : List α, (∀ x ∈ l, (f x).length ≤ k) → (l.flatMap f).length ≤ k * l.length
  | [], _ => by simp
  | x :: l, h => by
    have h1 := h x (by simp)
    have h2 := flatMap_len f k l (fun y hy => h y (by simp [hy]))
    rw [List.flatMap_cons, List.length_append, List.length_cons, Nat.mul_succ]
    omega
theorem numsB_len {d : Dut} (h : d.ok) : ((numsY d).flatMap numB).length ≤ 63 := by
  have := flatMap_len numB 9 (numsY d) (fun x hx => Wire.numB_len x (numsY_lt h x hx))
  exact this
theorem bytesY_len {d : Dut} (h : d.ok) (h0 : checkY d = 0) : (bytesY d).length ≤ 240000 := by
  obtain ⟨_, hl, hl2, hp, _⟩ := checkY_zero h0
  have h1 := numsB_len h
  have h2 := Wire.numB_len d.progs.length (by omega)
  have h3 := Wire.numB_len d.starts.length (by omega)
  have h4 := flatMap_len bytesP 3593 d.progs (fun p hm => bytesP_len p (h.progs p hm) (hp p hm))
  have h5 := flatMap_len startBy 27 d.starts (fun s hm => startBy_len (h.starts s hm))
  unfold bytesY
  simp only [List.length_append]
  omega
end Go.Proofs.YtbdimfcdpkldpaaGreatDoor

namespace Go.Proofs.YtbdimfcdpkldpaaGreatDoor
open Wire (RS rdByte rdNum truth numB truB)

/-! ### a line of an instruction -/
theorem rdAll_lt : ∀ (os : List Nat) (ws : List (List UInt8)) (xs : List Nat), rdAll os ws = some xs → ∀ x ∈ xs, x < 18446744073709551616
  | [], [], xs, h => by simp [rdAll] at h; subst h; simp
  | [], _ :: _, xs, h => by simp [rdAll] at h; subst h; simp
  | o :: os, [], xs, h => by
    simp only [rdAll, Option.some.injEq] at h
    subst h
    intro x hx
    obtain ⟨_, _, rfl⟩ := List.mem_map.1 hx
    decide
  | o :: os, w :: ws, xs, h => by
    unfold rdAll at h
    split at h
    · rename_i y hy
      obtain ⟨ys, hys, rfl⟩ := Option.map_eq_some_iff.1 h
      intro x hx
      rcases List.mem_cons.1 hx with rfl | hx
      · exact rdW_lt _ _ _ hy
      · exact rdAll_lt os ws ys hys x hx
    · cases h
theorem parseD_ok {l : List UInt8} (h : (parseD l).2 = 0) : (parseD l).1.ok ∧ goodD (parseD l).1 = true := by
  unfold parseD at h ⊢
  split
  · rename_i e
    rw [e] at h
    cases h
  · rename_i z ws e
    rw [e] at h
    simp only at h
    by_cases h0 : opOf z = 0
    · rw [if_pos h0] at h; cases h
    · rw [if_neg h0] at h ⊢
      by_cases hr : (readR (opOf z) ws).2 = 0
      · rw [if_pos hr] at h ⊢
        have ho : isOp (opOf z : Int) = true := opOf_isOp z h0
        have hlen : (readR (opOf z) ws).1.length = (opr (opOf z)).length ∧ ∀ x ∈ (readR (opOf z) ws).1, x < 18446744073709551616 := by
          unfold readR at hr ⊢
          split at hr
          · rename_i hl
            rw [if_pos hl]
            split at hr
            · rename_i xs hx
              exact ⟨rdAll_len _ _ _ hx, rdAll_lt _ _ _ hx⟩
            · cases hr
          · cases hr
        have he := end_get (opOf z : Int) ho _ hlen.1
        rw [he] at h ⊢
        by_cases hg : goodD (setAll (opr (opOf z)) (readR (opOf z) ws).1 (opD (opOf z))) = true
        · rw [if_pos hg]
          have hs := setAll_small (opr (opOf z)) (readR (opOf z) ws).1 (opD (opOf z)) hlen.2 ⟨show (0 : Nat) < 18446744073709551616 by decide, show (0 : Nat) < 18446744073709551616 by decide⟩
          exact ⟨ok_of_good hg hs, hg⟩
        · rw [if_neg hg] at h; cases h
      · rw [if_neg hr] at h; exact absurd h hr

/-! ### what is parsed -/
theorem smallY_range (x : Nat) : -9223372036854775808 ≤ ((smallY x : Nat) : Int) ∧ ((smallY x : Nat) : Int) ≤ 9223372036854775807 := by
  unfold smallY
  split <;> omega
theorem readYGo_lt : ∀ (k : Nat) (ws : List (List UInt8)) (xs : List Nat), readYGo k ws = some xs → ∀ x ∈ xs, x < 18446744073709551616
  | 0, [], xs, h => by simp only [readYGo, Option.some.injEq] at h; subst h; simp
  | _ + 1, [], xs, h => by simp only [readYGo, Option.some.injEq] at h; subst h; simp
  | 0, w :: ws, xs, h => by
    unfold readYGo at h
    split at h
    · obtain ⟨ys, hys, rfl⟩ := Option.map_eq_some_iff.1 h
      intro x hx
      rcases List.mem_cons.1 hx with rfl | hx
      · exact hexR_lt' w
      · exact readYGo_lt 0 ws ys hys x hx
    · cases h
  | k + 1, w :: ws, xs, h => by
    unfold readYGo at h
    split at h
    · obtain ⟨ys, hys, rfl⟩ := Option.map_eq_some_iff.1 h
      intro x hx
      rcases List.mem_cons.1 hx with rfl | hx
      · exact read_lt w
      · exact readYGo_lt k ws ys hys x hx
    · cases h
theorem readYGo_len : ∀ (k : Nat) (ws : List (List UInt8)) (xs : List Nat), readYGo k ws = some xs → xs.length = ws.length
  | 0, [], xs, h => by simp only [readYGo, Option.some.injEq] at h; subst h; rfl
  | _ + 1, [], xs, h => by simp only [readYGo, Option.some.injEq] at h; subst h; rfl
  | 0, w :: ws, xs, h => by
    unfold readYGo at h
    split at h
    · obtain ⟨ys, hys, rfl⟩ := Option.map_eq_some_iff.1 h
      rw [List.length_cons, List.length_cons, readYGo_len 0 ws ys hys]
    · cases h
  | k + 1, w :: ws, xs, h => by
    unfold readYGo at h
    split at h
    · obtain ⟨ys, hys, rfl⟩ := Option.map_eq_some_iff.1 h
      rw [List.length_cons, List.length_cons, readYGo_len k ws ys hys]
    · cases h
theorem addLast_mem : ∀ (ps : List (List Deed)) (x : Deed) (p : List Deed), p ∈ addLast ps x → ∀ y ∈ p, y = x ∨ ∃ q ∈ ps, y ∈ q
  | [], _, _, h, _, _ => by cases h
  | [q], x, p, h, y, hy => by
    simp only [addLast, List.mem_cons, List.not_mem_nil, or_false] at h
    subst h
    rcases List.mem_append.1 hy with hy | hy
    · exact .inr ⟨q, by simp, hy⟩
    · simp at hy; exact .inl hy
  | q :: r :: ps, x, p, h, y, hy => by
    rw [addLast] at h
    rcases List.mem_cons.1 h with rfl | h
    · exact .inr ⟨p, by simp, hy⟩
    · rcases addLast_mem (r :: ps) x p h y hy with e | ⟨u, hu, hyu⟩
      · exact .inl e
      · exact .inr ⟨u, List.mem_cons_of_mem _ hu, hyu⟩
theorem addLast_len : ∀ (ps : List (List Deed)) (x : Deed), (addLast ps x).length = ps.length
  | [], _ => rfl
  | [_], _ => rfl
  | p :: q :: ps, x => by rw [addLast, List.length_cons, addLast_len (q :: ps) x]; rfl
theorem headY_ok {d : Dut} (hd : d.ok) {o : Option (List Nat)} (ho : ∀ xs, o = some xs → ∀ x ∈ xs, x < 18446744073709551616) : (headY d o).1.ok := by
  unfold headY
  split
  · rename_i a b c e f g h
    have hx := ho _ rfl
    exact ⟨smallY_range a, smallY_range b, smallY_range c, smallY_range e, hx f (by simp), hx g (by simp), hx h (by simp), (fun p h => nomatch h), (fun p h => nomatch h)⟩
  · exact hd
theorem startY_ok {d : Dut} (hd : d.ok) {o : Option (List Nat)} (ho : ∀ xs, o = some xs → ∀ x ∈ xs, x < 18446744073709551616) : (startY d o).1.ok := by
  unfold startY
  split
  · rename_i a b c
    have hx := ho _ rfl
    refine ⟨hd.cpus, hd.threads, hd.locks, hd.cap, hd.boost, hd.keep, hd.ratio, hd.progs, fun s hs => ?_⟩
    rcases List.mem_append.1 hs with hs | hs
    · exact hd.starts s hs
    · simp only [List.mem_cons, List.not_mem_nil, or_false] at hs
      subst hs
      exact ⟨smallY_range a, smallY_range b, hx c (by simp)⟩
  · exact hd
theorem lineY_ok {d : Dut} (hd : d.ok) (l : List UInt8) (b : Bool) : (lineY d l b).1.ok := by
  unfold lineY
  split
  · exact hd
  · split
    · split
      · exact headY_ok hd fun xs h => readYGo_lt _ _ xs h
      · split
        · exact startY_ok hd fun xs h => readYGo_lt _ _ xs h
        · split
          · exact hd
          · split
            · split
              · refine ⟨hd.cpus, hd.threads, hd.locks, hd.cap, hd.boost, hd.keep, hd.ratio, fun p hp => ?_, hd.starts⟩
                rcases List.mem_append.1 hp with hp | hp
                · exact hd.progs p hp
                · simp only [List.mem_cons, List.not_mem_nil, or_false] at hp
                  subst hp
                  intro x hx; cases hx
              · exact hd
            · split
              · split
                · rename_i hz
                  refine ⟨hd.cpus, hd.threads, hd.locks, hd.cap, hd.boost, hd.keep, hd.ratio, fun p hp x hx => ?_, hd.starts⟩
                  rcases addLast_mem _ _ p hp x hx with rfl | ⟨q, hq, hxq⟩
                  · exact (parseD_ok hz).1
                  · exact hd.progs q hq x hxq
                · exact hd
              · exact hd
    · exact hd
theorem goY_ok : ∀ (ls : List (List UInt8)) (i : Nat) (d : Dut), d.ok → (goY i d ls).1.ok
  | [], i, d, hd => by
    unfold goY
    split
    · exact hd
    · exact zeroY_ok
  | l :: ls, i, d, hd => by
    rw [goY_cons]
    split
    · exact goY_ok ls _ _ (lineY_ok hd l _)
    · exact zeroY_ok
theorem prsY_ok (l : List UInt8) : (prsY l).1.ok := by
  unfold prsY
  split
  · exact zeroY_ok
  · split
    · exact zeroY_ok
    · exact goY_ok _ _ _ zeroY_ok
theorem goY_good : ∀ (ls : List (List UInt8)) (i : Nat) (d : Dut), checkY (goY i d ls).1 = 0 ∨ (goY i d ls).1 = zeroY
  | [], i, d => by
    unfold goY
    split
    · exact .inl (by assumption)
    · exact .inr rfl
  | l :: ls, i, d => by
    rw [goY_cons]
    split
    · exact goY_good ls _ _
    · exact .inr rfl
theorem prsY_good (l : List UInt8) : checkY (prsY l).1 = 0 ∨ (prsY l).1 = zeroY := by
  unfold prsY
  split
  · exact .inr rfl
  · split
    · exact .inr rfl
    · exact goY_good _ _ _
theorem endY_good (st : RS) (g : Bool) (d : Dut) : (checkY (endY st g d).1 = 0 ∧ (endY st g d).1 = d) ∨ (endY st g d).1 = zeroY := by
  unfold endY
  split
  · split
    · exact .inr rfl
    · split
      · exact .inl ⟨by assumption, rfl⟩
      · exact .inr rfl
  · exact .inr rfl
/-- A duty that was told: its lists are short. -/
def Dut.short (d : Dut) : Prop := d.progs.length ≤ 64 ∧ d.starts.length ≤ 64 ∧ ∀ p ∈ d.progs, p.length ≤ 256
theorem short_of {d : Dut} (h : checkY d = 0 ∨ d = zeroY) : d.short := by
  rcases h with h | rfl
  · obtain ⟨_, h1, h2, h3, _⟩ := checkY_zero h
    exact ⟨h1, h2, fun p hp => (checkN_zero.1 (h3 p hp)).1⟩
  · exact ⟨by decide, by decide, (fun p hp => nomatch hp)⟩
theorem prsY_short (l : List UInt8) : (prsY l).1.short := short_of (prsY_good l)
theorem decY_short (l : List UInt8) : (decY l).1.short := by
  unfold decY decGo
  refine short_of ?_
  rcases endY_good _ _ _ with h | h
  · exact .inl h.1
  · exact .inr h

/-! ### how long a text is -/
theorem dec20 (u : Nat) (h : u < 18446744073709551616) : (Lib.decDigits u).length ≤ 20 := dec_len 19 u (by rw [show (10 : Nat) ^ (19 + 1) = 100000000000000000000 by decide]; omega)
theorem total_head {d : Dut} (h : d.ok) : (headL d).length ≤ 144 := by
  have h1 := dec20 _ (wrapN_lt _ h.cpus)
  have h2 := dec20 _ (wrapN_lt _ h.threads)
  have h3 := dec20 _ (wrapN_lt _ h.locks)
  have h4 := dec20 _ (wrapN_lt _ h.cap)
  have h5 := dec20 _ h.boost
  have h6 := hexN_len 16 d.keep
  have h7 := hexN_len 16 d.ratio
  simp only [headL, headW, joinL, joinT, dutyW, List.length_append, List.length_cons, List.length_nil]
  omega
theorem total_start {s : St} (h : s.ok) : (startL s).length ≤ 64 := by
  have h1 := dec20 _ (wrapN_lt _ h.prog)
  have h2 := dec20 _ (wrapN_lt _ h.grade)
  have h6 := hexN_len 16 s.mask
  simp only [startL, startsW, joinL, joinT, startW, List.length_append, List.length_cons, List.length_nil]
  omega
theorem linesY_small {d : Dut} (h : d.ok) : ∀ l ∈ linesY d, l.length ≤ 144 := by
  intro l hl
  unfold linesY at hl
  rcases List.mem_cons.1 hl with rfl | hl
  · exact total_head h
  · rcases List.mem_append.1 hl with hl | hl
    · obtain ⟨p, hp, hl⟩ := List.mem_flatMap.1 hl
      rcases List.mem_cons.1 hl with rfl | hl
      · decide
      · obtain ⟨x, hx, rfl⟩ := List.mem_map.1 hl
        have := lineD_len x (h.progs p hp x hx)
        omega
    · obtain ⟨s, hs, rfl⟩ := List.mem_map.1 hl
      have := total_start (h.starts s hs)
      omega
theorem sum_len {α : Type} (f : α → Nat) (k : Nat) : ∀ l : List α, (∀ x ∈ l, f x ≤ k) → (l.map f).sum ≤ k * l.length
  | [], _ => by simp
  | x :: l, h => by
    have h1 := h x (by simp)
    have h2 := sum_len f k l (fun y hy => h y (by simp [hy]))
    rw [List.map_cons, List.sum_cons, List.length_cons, Nat.mul_succ]
    omega
theorem linesY_len {d : Dut} (h0 : checkY d = 0) : (linesY d).length ≤ 16513 := by
  obtain ⟨_, hl, hl2, hp, _⟩ := checkY_zero h0
  have h1 := sum_len (fun p => (progLs p).length) 257 d.progs (fun p hm => by
    have := (checkN_zero.1 (hp p hm)).1
    simp only [progLs, List.length_cons, List.length_map]
    omega)
  unfold linesY
  simp only [List.length_cons, List.length_append, List.length_map, List.length_flatMap]
  omega
/-- A program's part of a text. -/
def progT (p : List Deed) : List UInt8 := progW ++ 10 :: textP p
def startT (s : St) : List UInt8 := startL s ++ [10]
theorem textY_split (d : Dut) : textY d = headL d ++ 10 :: (d.progs.flatMap progT ++ d.starts.flatMap startT) := by
  have e1 : ∀ ps : List (List Deed), (ps.flatMap progLs).flatMap (fun l => l ++ [10]) = ps.flatMap progT := by
    intro ps
    induction ps with
    | nil => rfl
    | cons p ps ih =>
      have e : (progLs p).flatMap (fun l => l ++ [10]) = progT p := by
        unfold progLs progT textP
        rw [List.flatMap_cons, List.flatMap_map]
        simp
      rw [List.flatMap_cons, List.flatMap_append, ih, e, List.flatMap_cons]
  have e2 : ∀ ss : List St, (ss.map startL).flatMap (fun l => l ++ [10]) = ss.flatMap startT := by
    intro ss
    rw [List.flatMap_map]
    rfl
  unfold textY linesY
  rw [List.flatMap_cons, List.flatMap_append, e1, e2]
  simp
theorem textY_len {d : Dut} (h : d.ok) (h0 : checkY d = 0) : (textY d).length ≤ 1900000 := by
  obtain ⟨_, hl, hl2, hp, _⟩ := checkY_zero h0
  have h1 := total_head h
  have h2 := flatMap_len progT 28677 d.progs (fun p hm => by
    have k1 := textP_len p (h.progs p hm)
    have k2 := (checkN_zero.1 (hp p hm)).1
    simp only [progT, progW, List.length_append, List.length_cons, List.length_nil]
    omega)
  have h3 := flatMap_len startT 65 d.starts (fun s hm => by
    have := total_start (h.starts s hm)
    simp only [startT, List.length_append, List.length_cons, List.length_nil]
    omega)
  rw [textY_split]
  simp only [List.length_append, List.length_cons]
  omega

/-! ### how much the statements look at -/
def fewP (i : Nat) (p : List Deed) : List Deed := if 1 < i then p.take 40 else p.take 300
def fewG : Nat → List (List Deed) → List (List Deed)
  | _, [] => []
  | i, p :: ps => fewP i p :: fewG (i + 1) ps
def fewL (ps : List (List Deed)) : List (List Deed) := fewG 0 (ps.take 66)
def fewY (d : Dut) : Dut := { d with progs := fewL d.progs, starts := d.starts.take 70 }
theorem fewG_len : ∀ (ps : List (List Deed)) (i : Nat), (fewG i ps).length = ps.length
  | [], _ => rfl
  | p :: ps, i => by rw [fewG, List.length_cons, fewG_len ps, List.length_cons]
theorem fewP_le (i : Nat) (p : List Deed) : (fewP i p).length ≤ 300 ∧ ∀ x ∈ fewP i p, x ∈ p := by
  unfold fewP
  split
  · exact ⟨by rw [List.length_take]; omega, fun x hx => List.mem_of_mem_take hx⟩
  · exact ⟨by rw [List.length_take]; omega, fun x hx => List.mem_of_mem_take hx⟩
theorem fewG_mem : ∀ (ps : List (List Deed)) (i : Nat) (q : List Deed), q ∈ fewG i ps → q.length ≤ 300 ∧ ∃ p ∈ ps, ∀ x ∈ q, x ∈ p
  | [], _, _, h => by cases h
  | p :: ps, i, q, h => by
    rw [fewG] at h
    rcases List.mem_cons.1 h with rfl | h
    · exact ⟨(fewP_le i p).1, p, by simp, (fewP_le i p).2⟩
    · obtain ⟨h1, u, hu, h2⟩ := fewG_mem ps (i + 1) q h
      exact ⟨h1, u, List.mem_cons_of_mem _ hu, h2⟩
theorem fewG_get : ∀ (ps : List (List Deed)) (i k : Nat) (p : List Deed), ps[k]? = some p → (fewG i ps)[k]? = some (fewP (i + k) p)
  | [], _, _, _, h => by simp at h
  | q :: ps, i, 0, p, h => by
    simp at h
    subst h
    simp [fewG]
  | q :: ps, i, k + 1, p, h => by
    rw [fewG, List.getElem?_cons_succ, fewG_get ps (i + 1) k p (by simpa using h)]
    rw [show i + 1 + k = i + (k + 1) by omega]
theorem fewY_ok {d : Dut} (h : d.ok) : (fewY d).ok := by
  refine ⟨h.cpus, h.threads, h.locks, h.cap, h.boost, h.keep, h.ratio, fun q hq x hx => ?_, fun s hs => h.starts s (List.mem_of_mem_take hs)⟩
  obtain ⟨_, p, hp, hm⟩ := fewG_mem _ _ _ hq
  exact h.progs p (List.mem_of_mem_take hp) x (hm x hx)
theorem fewY_small (d : Dut) : (fewY d).progs.length ≤ 66 ∧ (fewY d).starts.length ≤ 70 ∧ ∀ p ∈ (fewY d).progs, p.length ≤ 300 := by
  refine ⟨?_, ?_, fun p hp => (fewG_mem _ _ _ hp).1⟩
  · show (fewG 0 (d.progs.take 66)).length ≤ 66
    rw [fewG_len, List.length_take]
    omega
  · show (d.starts.take 70).length ≤ 70
    rw [List.length_take]
    omega
end Go.Proofs.YtbdimfcdpkldpaaGreatDoor
