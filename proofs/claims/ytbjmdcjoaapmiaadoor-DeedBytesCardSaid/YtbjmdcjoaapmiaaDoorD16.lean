/- The contract of an operand's read; all operands' values out of words. -/
import Derived.Test.YtbjmdcjoaapmiaaDoorD11
import Derived.Test.YtbjmdcjoaapmiaaDoorD13
namespace Go.Proofs.YtbjmdcjoaapmiaaDoor
open Go.RowKit

/-- The value that a word writes, or none. -/
def rdW (o : Nat) (l : List UInt8) : Option Nat :=
  if o = 6 then (if l = looseL then some 1 else none) else if o = 5 then (if (hexR l).2 = 0 then some (hexR l).1 else none) else (if (readL l).2 = 0 then some (readL l).1 else none)
def rdC (o : Nat) (l : List UInt8) : Nat × Nat := match rdW o l with
  | some x => (x, 0)
  | none => (0, 3)
theorem hexR_lt' (l : List UInt8) : (hexR l).1 < 18446744073709551616 := by
  unfold hexR
  split
  · rename_i h
    have := num_lt 16 l h.2
    rw [h.1] at this
    omega
  · decide
theorem rdW_lt (o : Nat) (l : List UInt8) (x : Nat) (h : rdW o l = some x) : x < 18446744073709551616 := by
  unfold rdW at h
  split at h
  · split at h <;> simp at h
    omega
  · split at h
    · split at h <;> simp at h
      have := hexR_lt' l
      omega
    · split at h <;> simp at h
      have := read_lt l
      omega

set_option maxHeartbeats 1000000 in
theorem read_any (o : Nat) (ho : o < 7) (s : ByteArray) (w : World) :
    Calls Tryd.prog 66 #[.int .i64 o, .string s] w fun e w' => e = .returned (.tuple #[.int .u64 ((rdC o s.data.toList).1 : Nat), .int .i64 ((rdC o s.data.toList).2 : Nat)]) ∧ Below w.heap.size w w' := by
  by_cases h6 : o = 6
  · subst h6
    by_cases h : s.data.toList = looseL
    · have e : rdC 6 s.data.toList = (1, 0) := by unfold rdC rdW; simp [h]
      have t : (s.toList == [108, 111, 111, 115, 101]) = true := by rw [Lib.toList_data]; simp [h, looseL]
      rw [e]
      clear e h
      go_enter Tryd.func66, Tryd.ntmps66
      go_wp2
      go_ret2
      exact ⟨rfl, Below.refl _ _⟩
    · have e : rdC 6 s.data.toList = (0, 3) := by unfold rdC rdW; simp [h]
      have t : (s.toList == [108, 111, 111, 115, 101]) = false := by rw [Lib.toList_data, beq_eq_false_iff_ne]; exact h
      rw [e]
      clear e h
      go_enter Tryd.func66, Tryd.ntmps66
      go_wp2
      go_ret2
      exact ⟨rfl, Below.refl _ _⟩
  · have e6 : ((o : Int) == 6) = false := by rw [beq_eq_false_iff_ne]; omega
    by_cases h5 : o = 5
    · subst h5
      have hr := ReadHex_any s w
      by_cases h : (hexR s.data.toList).2 = 0
      · have e : rdC 5 s.data.toList = ((hexR s.data.toList).1, 0) := by unfold rdC rdW; simp [h]
        rw [e]
        rw [h] at hr
        generalize (hexR s.data.toList).1 = x at *
        clear e h
        go_enter Tryd.func66, Tryd.ntmps66
        go_wp2_with (go_at_call 83; (with_reducible refine hr.mono ?_); clear hr; rintro e w1 ⟨rfl, hb⟩)
        go_ret2
        exact ⟨rfl, hb⟩
      · have e : rdC 5 s.data.toList = (0, 3) := by unfold rdC rdW; simp [h]
        rw [e]
        generalize (hexR s.data.toList).2 = y at *
        have ty : ((y : Int) != 0) = true := by simp; omega
        clear e
        go_enter Tryd.func66, Tryd.ntmps66
        go_wp2_with (go_at_call 83; (with_reducible refine hr.mono ?_); clear hr; rintro e w1 ⟨rfl, hb⟩)
        go_ret2
        exact ⟨rfl, hb⟩
    · have e5 : ((o : Int) == 5) = false := by rw [beq_eq_false_iff_ne]; omega
      have hr := Read_any s w
      by_cases h : (readL s.data.toList).2 = 0
      · have e : rdC o s.data.toList = ((readL s.data.toList).1, 0) := by unfold rdC rdW; simp [h, h6, h5]
        rw [e]
        rw [h] at hr
        generalize (readL s.data.toList).1 = x at *
        clear e h h5 h6
        go_enter Tryd.func66, Tryd.ntmps66
        go_wp2_with (go_at_call 82; (with_reducible refine hr.mono ?_); clear hr; rintro e w1 ⟨rfl, hb⟩)
        go_ret2
        exact ⟨rfl, hb⟩
      · have e : rdC o s.data.toList = (0, 3) := by unfold rdC rdW; simp [h, h6, h5]
        rw [e]
        generalize (readL s.data.toList).2 = y at *
        have ty : ((y : Int) != 0) = true := by simp; omega
        clear e h5 h6
        go_enter Tryd.func66, Tryd.ntmps66
        go_wp2_with (go_at_call 82; (with_reducible refine hr.mono ?_); clear hr; rintro e w1 ⟨rfl, hb⟩)
        go_ret2
        exact ⟨rfl, hb⟩

/-- The values that words write; what is missing is 0. -/
def rdAll : List Nat → List (List UInt8) → Option (List Nat)
  | o :: os, w :: ws => match rdW o w with
    | some x => (rdAll os ws).map (x :: ·)
    | none => none
  | os, [] => some (os.map fun _ => 0)
  | [], _ :: _ => some []
theorem rdAll_len : ∀ (os : List Nat) (ws : List (List UInt8)) (xs : List Nat), rdAll os ws = some xs → xs.length = os.length
  | [], [], xs, h => by simp [rdAll] at h; simp [← h]
  | [], _ :: _, xs, h => by simp [rdAll] at h; simp [← h]
  | o :: os, [], xs, h => by simp [rdAll] at h; simp [← h]
  | o :: os, w :: ws, xs, h => by
    unfold rdAll at h
    split at h
    · rename_i x hx
      cases hr : rdAll os ws with
      | none => simp [hr] at h
      | some ys =>
        rw [hr] at h
        simp at h
        rw [← h, List.length_cons, List.length_cons, rdAll_len os ws ys hr]
    · cases h
def lenOk (op : Int) (n m : Nat) : Bool := m == n || (m + 1 == n && op == 2)
/-- What readAll answers. -/
def readR (op : Int) (ws : List (List UInt8)) : List Nat × Nat :=
  if lenOk op (opr op).length ws.length = true then (match rdAll (opr op) ws with
    | some xs => (xs, 0)
    | none => ([], 3)) else ([], 3)
/-- A made row, stored into. -/
theorem made_set (pre : List Nat) (k m x : Nat) (hk : pre.length = k) : (((pre ++ List.replicate (m + 1) 0).map uV).toArray).setIfInBounds k (uV x) = ((((pre ++ [x]) ++ List.replicate m 0).map uV).toArray) := by
  subst hk
  simp [List.replicate_succ]
end Go.Proofs.YtbjmdcjoaapmiaaDoor
