/- The contracts of the reference's List, Least, Next, and what they are in plain mathematics. -/
import Derived.Test.YtjdklmglljhjhaaDoorW4
import Derived.Deep.Onto
namespace Go.Proofs.YtjdklmglljhjhaaDoor
open Go.RowKit

/-- The members below k, rising. -/
def memL (n : Nat) : Nat → List Int
  | 0 => []
  | k + 1 => if n.testBit k then memL n k ++ [(k : Int)] else memL n k
theorem memL_yes (n k : Nat) (h : n.testBit k = true) : memL n (k + 1) = memL n k ++ [(k : Int)] := by simp [memL, h]
theorem memL_no (n k : Nat) (h : n.testBit k = false) : memL n (k + 1) = memL n k := by simp [memL, h]
theorem memL_len (n : Nat) : ∀ k, (memL n k).length ≤ k
  | 0 => by simp [memL]
  | k + 1 => by
    have := memL_len n k
    unfold memL
    split
    · simp; omega
    · omega

set_option maxRecDepth 100000 in
set_option maxHeartbeats 400000 in
theorem List_any (n : Nat) (hn : n < 18446744073709551616) (w : World) :
    Calls Tryd.prog 19 #[.int .u64 n] w fun e w' => ∃ v', e = .returned v' ∧ w'.ownsRow w.heap.size 3 1 v' (memL n 64).length ((memL n 64).map (Value.int .i64)) ∧ Below w.heap.size w w' := by
  obtain ⟨i0, hi, hz0, hz1, hz2⟩ := info_parts info3
  go_enter Tryd.func19, Tryd.ntmps19
  go_wp2_with (first | (go_at_call 29; refine (Row_any n hn _).mono ?_; rintro e w1 ⟨rfl, hb1⟩) | (refine wpList_store_row rfl 41 _ _ rfl w1.heap.size _ rfl rfl 41 _ (heap_alloc_new w1 _) (size41b _) (by rw [boolArr_size]; rfl) (boolArr_one _) ?_; rw [World.setRow_alloc_new]))
  have hB := hb1.size
  go_loopw [3, 5] (fun v t wr => ∃ k : Nat, k ≤ 64 ∧ t = .int .i64 k ∧ wr.ownsRow (w1.heap.size + 1) 3 1 v (memL n k).length ((memL n k).map (Value.int .i64)) ∧ Below (w1.heap.size + 1) (w1.alloc (.cells (boolArr n.testBit) 41)) wr) (fun _ t _ => 64 - (intOf t).toNat)
  case atStart => exact ⟨0, by omega, rfl, World.ownsRow_nil _ _ _ _, Below.refl _ _⟩
  case round =>
    obtain ⟨k, hk, rfl, hown, hb⟩ := hrel
    have hsz := hb.size
    rw [World.size_alloc] at hsz
    by_cases hlt : k < 64
    · have hcell : wr.cell? ⟨w1.heap.size, k, none⟩ = some (.bool (n.testBit k)) := by
        rw [hb.cell (p := ⟨w1.heap.size, k, none⟩) (Nat.lt_succ_self _), cell_of_row _ _ _ _ _ _ (heap_alloc_new w1 _), boolArr_get _ k hlt]
      have hl := memL_len n k
      cases hbit : n.testBit k with
      | true =>
        rw [hbit] at hcell
        have Hm := Lib.hid (memL_yes n k hbit)
        clear hbit
        go_wp2_with (at_builtin; refine wpList_append_own _ rfl _ _ 22 rfl (w1.heap.size + 1) 3 i0 (.int .i64 0) 1 8 Tryd.underlying22 hi hz0 hz1 hz2 rfl (by decide) _ _ _ rfl (hown.alloc _) ⟨wr.heap.size, 0, none⟩ 1 1 [.int .i64 k] rfl rfl (cell_one_new _ _ _) (by simp [Value.oneCell']) (by unfold maxLen; omega) (by omega) (by simp; omega) ?_; intro v' w2 hown' hgrow _)
        go_roundw
        case rel =>
          refine ⟨k + 1, by omega, by go_num, ?_, ?_⟩
          · rw [Hm.out, List.length_append, List.map_append]; exact hown'
          · refine (hb.alloc (by omega) _).grown hgrow (by simp; omega) ?_
            intro j hj
            exact (hown.lt j hj).1
        case measure => simp [intOf]; omega
      | false =>
        rw [hbit] at hcell
        have Hm := Lib.hid (memL_no n k hbit)
        clear hbit
        go_wp2
        go_roundw
        case rel => exact ⟨k + 1, by omega, by go_num, by rw [Hm.out]; exact hown, hb⟩
        case measure => simp [intOf]; omega
    · obtain rfl : k = 64 := by omega
      go_wp2
      go_ret
      exact ⟨_, rfl, hown.mono (by omega), (hb1.alloc hB _).trans (hb.mono (by omega))⟩

/-- The first member, or -1. -/
def leastN (n : Nat) : Int := (memL n 64).head?.getD (-1)
/-- The first member that is not less than i, else the first one. -/
def nextN (n : Nat) (i : Int) : Int := ((memL n 64).find? fun j => decide (i ≤ j)).getD (leastN n)

set_option maxHeartbeats 400000 in
theorem RLeast_any (n : Nat) (hn : n < 18446744073709551616) (w : World) :
    Calls Tryd.prog 21 #[.int .u64 n] w fun e w' => e = .returned (.int .i64 (leastN n)) ∧ Below w.heap.size w w' := by
  have hlen := memL_len n 64
  unfold leastN
  have hL := List_any n hn w
  generalize memL n 64 = xs at hL hlen ⊢
  match xs, hlen, hL with
  | [], _, hL =>
    go_enter Tryd.func21, Tryd.ntmps21
    go_wp2_with (go_at_call 19; refine hL.mono ?_; clear hL; rintro e w1 ⟨v, rfl, hown, hb⟩; obtain ⟨p, c, rfl, hr⟩ := Reads.of_own (xs := []) hown; clear hown hr)
    go_ret
    exact ⟨rfl, hb⟩
  | x :: r, hlen, hL =>
    simp only [List.length_cons] at hlen
    go_enter Tryd.func21, Tryd.ntmps21
    go_wp2_with (go_at_call 19; refine hL.mono ?_; clear hL; rintro e w1 ⟨v, rfl, hown, hb⟩; obtain ⟨p, c, rfl, hr⟩ := Reads.of_own (xs := x :: r) hown; clear hown; obtain ⟨b, off, rfl, hlt, hc⟩ := hr.resolve_left (by simp); clear hr; have hcell := hc 0 (by simp); clear hc; rw [List.length_cons]; simp only [Nat.add_zero, List.getD_cons_zero] at hcell)
    go_ret
    exact ⟨rfl, hb⟩

/-- None of the first k is at least i. -/
def noneYet (xs : List Int) (i : Int) (k : Nat) : Prop := (xs.take k).find? (fun j => decide (i ≤ j)) = none
theorem noneYet_zero (xs : List Int) (i : Int) : noneYet xs i 0 := by simp [noneYet]
theorem noneYet_step (xs : List Int) (i : Int) (k : Nat) (hk : k < xs.length) (h : noneYet xs i k) (hx : xs.getD k 0 < i) : noneYet xs i (k + 1) := by
  unfold noneYet at *
  rw [take_snoc' xs k hk, List.find?_append, h, ← List.getD_eq_getElem?_getD]
  have : ¬ i ≤ xs.getD k 0 := by omega
  generalize xs.getD k 0 = x at this
  simp [this]
theorem find_hit (xs : List Int) (i : Int) (k : Nat) (hk : k < xs.length) (h : noneYet xs i k) (hx : i ≤ xs.getD k 0) : xs.find? (fun j => decide (i ≤ j)) = some (xs.getD k 0) := by
  unfold noneYet at h
  have e : xs = xs.take k ++ xs.getD k 0 :: xs.drop (k + 1) := by
    rw [List.getD_eq_getElem?_getD, List.getElem?_eq_getElem hk, Option.getD_some, List.getElem_cons_drop, List.take_append_drop]
  generalize xs.getD k 0 = x at *
  rw [e, List.find?_append, h]
  simp [hx]
theorem find_miss (xs : List Int) (i : Int) (h : noneYet xs i xs.length) : xs.find? (fun j => decide (i ≤ j)) = none := by
  unfold noneYet at h
  rwa [List.take_length] at h

set_option maxHeartbeats 400000 in
theorem RNext_any (n : Nat) (hn : n < 18446744073709551616) (i : Int) (w : World) :
    Calls Tryd.prog 23 #[.int .u64 n, .int .i64 i] w fun e w' => e = .returned (.int .i64 (nextN n i)) ∧ Below w.heap.size w w' := by
  have hlen := memL_len n 64
  unfold nextN
  have hL := List_any n hn w
  have hLe := fun W => RLeast_any n hn W
  generalize memL n 64 = xs at hL hlen ⊢
  generalize leastN n = z at hLe ⊢
  by_cases h0 : xs = []
  · subst h0
    go_enter Tryd.func23, Tryd.ntmps23
    go_wp2_with (go_at_call 19; refine hL.mono ?_; clear hL; rintro e w1 ⟨v, rfl, hown, hb⟩; obtain ⟨p, c, rfl, hr⟩ := Reads.of_own (xs := []) hown; clear hown hr)
    refine wp_loop_rounds 1 ?_
    rw [rounds_succ]
    go_wp2_with (go_at_call 21; refine (hLe _).mono ?_; clear hLe; rintro e w2 ⟨rfl, hb2⟩)
    go_ret
    exact ⟨rfl, hb.trans (hb2.mono hb.size)⟩
  · go_enter Tryd.func23, Tryd.ntmps23
    go_wp2_with (go_at_call 19; refine hL.mono ?_; clear hL; rintro e w1 ⟨v, rfl, hown, hb⟩; obtain ⟨p, c, rfl, hr⟩ := Reads.of_own (xs := xs) hown; clear hown; obtain ⟨b, off, rfl, hlt, hc⟩ := hr.resolve_left h0; clear hr; have Hc := Lib.hid hc; clear hc)
    go_loop [6] (fun t => ∃ k : Nat, k ≤ xs.length ∧ t = .int .i64 k ∧ noneYet xs i k) (fun t => xs.length - (intOf t).toNat)
    case atStart => exact ⟨0, by omega, rfl, noneYet_zero _ _⟩
    case round =>
      obtain ⟨k, hk, rfl, hno⟩ := hrel
      by_cases hlt2 : k < xs.length
      · have hcell := Hc.out k hlt2
        have hs := noneYet_step xs i k hlt2 hno
        have hf := find_hit xs i k hlt2 hno
        obtain ⟨x, hx⟩ : ∃ x, xs.getD k 0 = x := ⟨_, rfl⟩
        rw [hx] at hcell hs hf
        have Hs := Lib.hid hs
        have Hf := Lib.hid hf
        clear hs hf hx
        by_cases hge : i ≤ x
        · go_wp2
          go_ret
          exact ⟨ret_int (by rw [Hf.out hge]; rfl), hb⟩
        · go_wp2
          go_round
          case rel => exact ⟨k + 1, by omega, by go_num, Hs.out (by omega)⟩
          case measure => simp [intOf]; omega
      · obtain rfl : k = xs.length := by omega
        go_wp2_with (go_at_call 21; refine (hLe _).mono ?_; clear hLe; rintro e w2 ⟨rfl, hb2⟩)
        go_ret
        exact ⟨ret_int (by rw [find_miss xs i hno]; rfl), hb.trans (hb2.mono hb.size)⟩
end Go.Proofs.YtjdklmglljhjhaaDoor
