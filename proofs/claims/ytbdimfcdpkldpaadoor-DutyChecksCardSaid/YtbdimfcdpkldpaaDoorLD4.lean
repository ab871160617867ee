/- The contract of an operand's read; all operands' values out of words. The contract of deed's readAll. The contract of deed's Parse. -/
import Derived.Test.YtbdimfcdpkldpaaDoorLD1
import Derived.Test.YtbdimfcdpkldpaaDoorLD3
import Derived.OwnWalk
import Derived.Test.YtbdimfcdpkldpaaDoorLW1
namespace Go.Proofs.YtbdimfcdpkldpaaDoor
open Go.RowKit

/-- The value that a word writes, or none. -/
def rdW (o : Nat) (l : List UInt8) : Option Nat :=
  if o = 6 then (if l = looseL then some 1 else none) else if o = 5 then (if (hexR l).2 = 0 then some (hexR l).1 else none) else (if (readL l).2 = 0 then some (readL l).1 else none)
def rdC (o : Nat) (l : List UInt8) : Nat × Nat := match rdW o l with
  | some x => (x, 0)
  | none => (0, 3)
theorem hexR_lt' (l : List UInt8) : (hexR l).1 < 18446744073709551616 := by
  unfold hexR
  split
  · rename_i h
    have := num_lt 16 l h.2
    rw [h.1] at this
    omega
  · decide
theorem rdW_lt (o : Nat) (l : List UInt8) (x : Nat) (h : rdW o l = some x) : x < 18446744073709551616 := by
  unfold rdW at h
  split at h
  · split at h <;> simp at h
    omega
  · split at h
    · split at h <;> simp at h
      have := hexR_lt' l
      omega
    · split at h <;> simp at h
      have := read_lt l
      omega

/-- The values that words write; what is missing is 0. -/
def rdAll : List Nat → List (List UInt8) → Option (List Nat)
  | o :: os, w :: ws => match rdW o w with
    | some x => (rdAll os ws).map (x :: ·)
    | none => none
  | os, [] => some (os.map fun _ => 0)
  | [], _ :: _ => some []
theorem rdAll_len : ∀ (os : List Nat) (ws : List (List UInt8)) (xs : List Nat), rdAll os ws = some xs → xs.length = os.length
  | [], [], xs, h => by simp [rdAll] at h; simp [← h]
  | [], _ :: _, xs, h => by simp [rdAll] at h; simp [← h]
  | o :: os, [], xs, h => by simp [rdAll] at h; simp [← h]
  | o :: os, w :: ws, xs, h => by
    unfold rdAll at h
    split at h
    · rename_i x hx
      cases hr : rdAll os ws with
      | none => simp [hr] at h
      | some ys =>
        rw [hr] at h
        simp at h
        rw [← h, List.length_cons, List.length_cons, rdAll_len os ws ys hr]
    · cases h
def lenOk (op : Int) (n m : Nat) : Bool := m == n || (m + 1 == n && op == 2)
/-- What readAll answers. -/
def readR (op : Int) (ws : List (List UInt8)) : List Nat × Nat :=
  if lenOk op (opr op).length ws.length = true then (match rdAll (opr op) ws with
    | some xs => (xs, 0)
    | none => ([], 3)) else ([], 3)
/-- A made row, stored into. -/
theorem made_set (pre : List Nat) (k m x : Nat) (hk : pre.length = k) : (((pre ++ List.replicate (m + 1) 0).map uV).toArray).setIfInBounds k (uV x) = ((((pre ++ [x]) ++ List.replicate m 0).map uV).toArray) := by
  subst hk
  simp [List.replicate_succ]
end Go.Proofs.YtbdimfcdpkldpaaDoor

namespace Go.Proofs.YtbdimfcdpkldpaaDoor
open Go.RowKit

theorem rdC_some {o : Nat} {l : List UInt8} {x : Nat} (h : rdW o l = some x) : rdC o l = (x, 0) := by unfold rdC; rw [h]
theorem rdC_none {o : Nat} {l : List UInt8} (h : rdW o l = none) : rdC o l = (0, 3) := by unfold rdC; rw [h]
theorem made_cells (n : Nat) : (madeCells (Value.int .u64 0).cells (n * 1)).toList = (List.replicate n 0).map uV := by
  rw [Nat.mul_one]
  simp [madeCells, Value.cells, uV, Nat.mod_one, List.map_const']
theorem made_get (pre : List Nat) (k m : Nat) (hk : pre.length = k) (hm : 0 < m) : (((pre ++ List.replicate m 0).map uV).toArray)[k]? = some (uV 0) := by
  subst hk
  obtain ⟨j, rfl⟩ : ∃ j, m = j + 1 := ⟨m - 1, by omega⟩
  simp [List.replicate_succ]
theorem made_blk {w : World} {base g n : Nat} {xs : List Value} (h : w.ownsRow base 22 1 (.slice (some ⟨g, 0, none⟩) n n) n xs) (_hn : 0 < n) : Blk w g 22 xs.toArray := by
  obtain ⟨hl, ⟨hv, h0⟩ | ⟨g', cap, cur, hv, _, hg, hc, _, hs, ht⟩⟩ := h
  · cases hv
  · cases hv
    unfold Blk
    rw [hg]
    have : cur.toList.length = n := by simpa using hs
    rw [← ht, Nat.mul_one, List.take_of_length_le (by omega), Array.toArray_toList]
theorem rv_of_blk {w : World} {g : Nat} {xs : List Nat} (h : Blk w g 22 ((xs.map uV).toArray)) (hm : xs.length ≤ 4000) : RV w (fun _ => True) (.slice (some ⟨g, 0, none⟩) xs.length xs.length) xs.length 1 (xs.map uV) :=
  ⟨_, _, rfl, Nat.le_refl _, by unfold maxLen; omega, (fun e => by cases e), by simp, .inr ⟨g, 0, rfl, h.lt, trivial, fun j u hu => by rw [Nat.zero_add, h.cell]; simpa using hu⟩⟩

end Go.Proofs.YtbdimfcdpkldpaaDoor

namespace Go.Proofs.YtbdimfcdpkldpaaDoor
open Go.RowKit

theorem opFrom_cases (l : List UInt8) : ∀ (f k : Nat), opFrom l k f = 0 ∨ (k ≤ opFrom l k f ∧ opFrom l k f < k + f)
  | 0, _ => .inl rfl
  | f + 1, k => by
    unfold opFrom
    split
    · right; omega
    · rcases opFrom_cases l f (k + 1) with h | h
      · exact .inl h
      · right; omega
theorem opOf_isOp (l : List UInt8) (h : ¬ opOf l = 0) : isOp (opOf l : Int) = true := by
  rcases opFrom_cases l 11 1 with h1 | h1
  · exact absurd h1 h
  · unfold isOp
    have e : opOf l = opFrom l 1 11 := rfl
    rw [e]
    simp
    omega
/-- What Parse answers. -/
def parseD (l : List UInt8) : Deed × Nat :=
  match wordsGo [] l with
  | [] => (zeroD, 15)
  | z :: ws => if opOf z = 0 then (zeroD, 15) else if (readR (opOf z) ws).2 = 0 then bldD (opOf z) (readR (opOf z) ws).1 else (zeroD, (readR (opOf z) ws).2)
theorem total_mem : ∀ (ws : List (List UInt8)) (l : List UInt8), l ∈ ws → l.length ≤ total ws
  | w :: ws, l, h => by
    rw [total_cons]
    rcases List.mem_cons.1 h with e | h
    · rw [e]; omega
    · have := total_mem ws l h; omega
theorem words_small (l : List UInt8) (hl : l.length ≤ 4000) : (wordsGo [] l).length ≤ 4000 ∧ ∀ z ∈ wordsGo [] l, z.length ≤ 4000 := by
  have ht := go_total l []
  have hn := len_total (wordsGo [] l) (go_words l [] (fun _ h => by cases h))
  simp at ht
  exact ⟨by omega, fun z hz => by have := total_mem _ z hz; omega⟩
theorem readR_len (op : Int) (ws : List (List UInt8)) (h : (readR op ws).2 = 0) : (opr op).length ≤ (readR op ws).1.length := by
  unfold readR at h ⊢
  split at h
  · rename_i hl
    rw [if_pos hl]
    split at h
    · rename_i xs hx
      have := rdAll_len _ _ _ hx
      exact Nat.le_of_eq this.symm
    · simp at h
  · simp at h
theorem rv_tail {w : World} {G : Nat → Prop} {b off n c : Nat} {u : Value} {xs : List Value} (h : RV w G (.slice (some ⟨b, off, none⟩) (n + 1) c) (n + 1) 1 (u :: xs)) :
    RV w G (.slice (if c = 1 then some ⟨b, off, none⟩ else some ⟨b, off + 1, none⟩) n (c - 1)) n 1 xs := by
  have h1 := Wire.RV_rest h 1 (by omega)
  have e : (⟨b, off, none⟩ : Addr).add (1 * 1) = ⟨b, off + 1, none⟩ := by unfold Addr.add; split <;> simp_all
  rw [Option.map_some, e, Nat.add_sub_cancel] at h1
  exact h1
section
variable (s : ByteArray) (hs : s.size ≤ 4000) (w : World)
include hs
end
end Go.Proofs.YtbdimfcdpkldpaaDoor
