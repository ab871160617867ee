/- The contracts of the reference's set functions Put, Has, All, Of and of package sets' Of. -/
import Derived.Test.YtjdklmglljhjhaaDoorW2
import Derived.Deep.QuietTactic
import Derived.BigQuiet
import Derived.Deep.WholeRow
namespace Go.Proofs.YtjdklmglljhjhaaDoor
open Go.RowKit

/-- The truths of a set in which i is b. -/
def putF (n : Nat) (i : Int) (b : Bool) : Nat → Bool := fun j => if (j : Int) = i then b else n.testBit j
theorem putF_bits (n : Nat) (i : Int) (b : Bool) : bitsOf 64 (putF n i b) = putN n i b := rfl
theorem boolArr_put (n m : Nat) (_hm : m < 64) (b : Bool) : (boolArr n.testBit).setIfInBounds m (.bool b) = boolArr (putF n m b) := by
  apply Array.ext
  · simp [boolArr]
  · intro k h1 h2
    have hk : k < 64 := by simpa [boolArr] using h2
    rw [Array.getElem_setIfInBounds]
    · simp only [boolArr, putF, List.getElem_toArray, List.getElem_map, List.getElem_range]
      by_cases e : m = k
      · subst e; simp
      · have e2 : ¬ ((k : Int) = (m : Int)) := by omega
        simp [e, e2]
    · simpa [boolArr] using hk
theorem putN_out (n : Nat) (_hn : n < 18446744073709551616) (i : Int) (h : i < 0 ∨ 64 ≤ i) (b : Bool) : bitsOf 64 n.testBit = putN n i b := by
  unfold putN
  apply bitsOf_congr
  intro j hj
  have : ¬ ((j : Int) = i) := by omega
  simp [this]

theorem load_put (w1 : World) (n m : Nat) (b : Bool) (hm : m < 64) : ((w1.alloc (.cells (boolArr n.testBit) 41)).setCell ⟨w1.heap.size, m, none⟩ (.bool b)).heap[w1.heap.size]? = some (.cells (boolArr (putF n m b)) 41) := by
  rw [heap_setCell_same _ _ _ _ 41 _ (heap_alloc_new w1 _), boolArr_put n m hm b]


theorem size41c (f : Nat → Bool) (m : Nat) (v : Value) : (Tryd.prog.info? 41).map (·.size) = some ((boolArr f).setIfInBounds m v).size := by rw [Array.size_setIfInBounds, boolArr_size]; exact size41

set_option maxRecDepth 100000 in
set_option maxHeartbeats 400000 in
theorem Put_any (n : Nat) (hn : n < 18446744073709551616) (i : Int) (b : Bool) (w : World) :
    Calls Tryd.prog 15 #[.int .u64 n, .int .i64 i, .bool b] w fun e w' => e = .returned (.int .u64 (putN n i b)) ∧ Below w.heap.size w w' := by
  by_cases hi : 0 ≤ i
  · by_cases h6 : i < 64
    · obtain ⟨m, rfl⟩ := Int.eq_ofNat_of_zero_le hi
      have hm : m < 64 := by omega
      go_enter Tryd.func15, Tryd.ntmps15
      go_wp2_with (first | (go_at_call 29; refine (Row_any n hn _).mono ?_; rintro e w1 ⟨rfl, hb1⟩) | (refine wpList_store_row rfl 41 _ _ rfl w1.heap.size _ rfl rfl 41 _ (heap_alloc_new w1 _) (size41b _) (by rw [boolArr_size]; rfl) (boolArr_one _) ?_; rw [World.setRow_alloc_new]; have hcell : (w1.alloc (.cells (boolArr n.testBit) 41)).cell? ⟨w1.heap.size, m, none⟩ = some (.bool (n.testBit m)) := (by rw [cell_of_row _ _ _ _ _ _ (heap_alloc_new w1 _), boolArr_get _ m hm])) | (refine wpList_load_row rfl 41 _ rfl w1.heap.size rfl 41 _ (0, 0) _ (heap_alloc_new w1 _) Tryd.underlying41 rfl (size41c _ _ _) ?_; rw [boolArr_put n m hm]) | (go_at_call 30; refine (Set_any (putF n m b) _).mono ?_; rintro e w2 ⟨rfl, hb2⟩))
      go_ret
      exact ⟨rfl, (hb1.alloc hb1.size _).trans (hb2.mono (by have := hb1.size; simp; omega))⟩
    · go_enter Tryd.func15, Tryd.ntmps15
      go_wp2_with (first | (go_at_call 29; refine (Row_any n hn _).mono ?_; rintro e w1 ⟨rfl, hb1⟩) | (refine wpList_store_row rfl 41 _ _ rfl w1.heap.size _ rfl rfl 41 _ (heap_alloc_new w1 _) (size41b _) (by rw [boolArr_size]; rfl) (boolArr_one _) ?_; rw [World.setRow_alloc_new]) | (refine wpList_load_row rfl 41 _ rfl w1.heap.size rfl 41 _ (0, 0) _ (heap_alloc_new w1 _) Tryd.underlying41 rfl (size41b _) ?_) | (go_at_call 30; refine (Set_any n.testBit _).mono ?_; rintro e w2 ⟨rfl, hb2⟩))
      go_ret
      exact ⟨ret_u64 (putN_out n hn i (by omega) b), (hb1.alloc hb1.size _).trans (hb2.mono (by have := hb1.size; simp; omega))⟩
  · go_enter Tryd.func15, Tryd.ntmps15
    go_wp2_with (first | (go_at_call 29; refine (Row_any n hn _).mono ?_; rintro e w1 ⟨rfl, hb1⟩) | (refine wpList_store_row rfl 41 _ _ rfl w1.heap.size _ rfl rfl 41 _ (heap_alloc_new w1 _) (size41b _) (by rw [boolArr_size]; rfl) (boolArr_one _) ?_; rw [World.setRow_alloc_new]) | (refine wpList_load_row rfl 41 _ rfl w1.heap.size rfl 41 _ (0, 0) _ (heap_alloc_new w1 _) Tryd.underlying41 rfl (size41b _) ?_) | (go_at_call 30; refine (Set_any n.testBit _).mono ?_; rintro e w2 ⟨rfl, hb2⟩))
    go_ret
    exact ⟨ret_u64 (putN_out n hn i (by omega) b), (hb1.alloc hb1.size _).trans (hb2.mono (by have := hb1.size; simp; omega))⟩

theorem hasN_in (n m : Nat) (hm : m < 64) : hasN n m = n.testBit m := by
  unfold hasN
  have h1 : (m : Int) < 64 := by omega
  simp [h1]
theorem hasN_out (n : Nat) (i : Int) (h : i < 0 ∨ 64 ≤ i) : hasN n i = false := by
  unfold hasN
  rcases h with h | h
  · have : ¬ 0 ≤ i := by omega
    simp [this]
  · have : ¬ i < 64 := by omega
    simp [this]

set_option maxRecDepth 100000 in
set_option maxHeartbeats 400000 in
theorem RHas_any (n : Nat) (hn : n < 18446744073709551616) (i : Int) (w : World) :
    Calls Tryd.prog 13 #[.int .u64 n, .int .i64 i] w fun e w' => e = .returned (.bool (hasN n i)) ∧ Below w.heap.size w w' := by
  by_cases hi : 0 ≤ i
  · by_cases h6 : i < 64
    · obtain ⟨m, rfl⟩ := Int.eq_ofNat_of_zero_le hi
      have hm : m < 64 := by omega
      rw [hasN_in n m hm]
      go_enter Tryd.func13, Tryd.ntmps13
      go_wp2_with (first | (go_at_call 29; refine (Row_any n hn _).mono ?_; rintro e w1 ⟨rfl, hb1⟩) | (refine wpList_store_row rfl 41 _ _ rfl w1.heap.size _ rfl rfl 41 _ (heap_alloc_new w1 _) (size41b _) (by rw [boolArr_size]; rfl) (boolArr_one _) ?_; rw [World.setRow_alloc_new]; have hcell : (w1.alloc (.cells (boolArr n.testBit) 41)).cell? ⟨w1.heap.size, m, none⟩ = some (.bool (n.testBit m)) := (by rw [cell_of_row _ _ _ _ _ _ (heap_alloc_new w1 _), boolArr_get _ m hm])))
      go_ret
      exact ⟨rfl, hb1.alloc hb1.size _⟩
    · rw [hasN_out n i (by omega)]
      go_enter Tryd.func13, Tryd.ntmps13
      go_wp2_with (first | (go_at_call 29; refine (Row_any n hn _).mono ?_; rintro e w1 ⟨rfl, hb1⟩) | (refine wpList_store_row rfl 41 _ _ rfl w1.heap.size _ rfl rfl 41 _ (heap_alloc_new w1 _) (size41b _) (by rw [boolArr_size]; rfl) (boolArr_one _) ?_; rw [World.setRow_alloc_new]))
      go_ret
      exact ⟨rfl, hb1.alloc hb1.size _⟩
  · rw [hasN_out n i (by omega)]
    go_enter Tryd.func13, Tryd.ntmps13
    go_wp2_with (first | (go_at_call 29; refine (Row_any n hn _).mono ?_; rintro e w1 ⟨rfl, hb1⟩) | (refine wpList_store_row rfl 41 _ _ rfl w1.heap.size _ rfl rfl 41 _ (heap_alloc_new w1 _) (size41b _) (by rw [boolArr_size]; rfl) (boolArr_one _) ?_; rw [World.setRow_alloc_new]))
    go_ret
    exact ⟨rfl, hb1.alloc hb1.size _⟩

/-- All integers below i, as the reference makes them. -/
theorem allN_step (k : Nat) (_hk : k < 64) : putN (allN k) k true = allN ((k : Int) + 1) := by
  apply Nat.eq_of_testBit_eq
  intro j
  rw [putN, testBit_bitsOf, testBit_allN, testBit_allN]
  by_cases hj : j < 64
  · by_cases e : (j : Int) = k
    · have : (j : Int) < (k : Int) + 1 := by omega
      simp [hj, e]; omega
    · by_cases e2 : (j : Int) < k
      · have : (j : Int) < (k : Int) + 1 := by omega
        simp [hj, e, e2, this]
      · have : ¬ (j : Int) < (k : Int) + 1 := by omega
        simp [e, e2, this]
  · simp [hj]
theorem allN_zero : allN 0 = 0 := by decide
theorem allN_neg (i : Int) (h : i ≤ 0) : allN i = 0 := by
  unfold allN
  by_cases h0 : i < 0
  · rw [if_pos h0]
  · obtain rfl : i = 0 := by omega
    decide
theorem allN_top (i : Int) (h : 64 ≤ i) : allN 64 = allN i := by
  unfold allN
  rw [if_neg (by omega), if_pos (by omega), if_neg (by omega), if_pos h]

set_option maxHeartbeats 400000 in
theorem RAll_any (i : Int) (w : World) :
    Calls Tryd.prog 11 #[.int .i64 i] w fun e w' => e = .returned (.int .u64 (allN i)) ∧ Below w.heap.size w w' := by
  go_enter Tryd.func11, Tryd.ntmps11
  go_wp2
  go_loopw [3, 4] (fun s t wr => ∃ k : Nat, k ≤ 64 ∧ ((k : Int) ≤ i ∨ k = 0) ∧ t = .int .i64 k ∧ s = .int .u64 (allN k) ∧ Below w.heap.size w wr) (fun _ t _ => 64 - (intOf t).toNat)
  case atStart => exact ⟨0, by omega, .inr rfl, rfl, rfl, Below.refl _ _⟩
  case round =>
    obtain ⟨k, hk, hki, rfl, rfl, hb⟩ := hrel
    by_cases h6 : k < 64
    · by_cases hlt : (k : Int) < i
      · clear hki
        go_wp2_with (go_at_call 15; refine (Put_any _ (allN_lt k) k true _).mono ?_; rintro e w1 ⟨rfl, hb1⟩; rw [allN_step k h6])
        go_roundw
        case rel => exact ⟨k + 1, by omega, .inl (by omega), by go_num, rfl, hb.trans (hb1.mono hb.size)⟩
        case measure => simp [intOf]; omega
      · go_wp2
        go_ret
        refine ⟨ret_u64 ?_, hb⟩
        rcases hki with h | h
        · rw [show (k : Int) = i from by omega]
        · subst h
          rw [allN_neg i (by omega)]; rfl
    · obtain rfl : k = 64 := by omega
      have hki2 : 64 ≤ i := by rcases hki with h | h <;> omega
      clear hki
      go_wp2
      go_ret
      exact ⟨ret_u64 (allN_top i hki2), hb⟩

/-- A slice of ints that reads as a list. -/
def Reads (w : World) (v : Value) (xs : List Int) : Prop :=
  ∃ p c, v = .slice p xs.length c ∧ (xs = [] ∨ ∃ b off, p = some ⟨b, off, none⟩ ∧ b < w.heap.size ∧ ∀ j, j < xs.length → w.cell? ⟨b, off + j, none⟩ = some (.int .i64 (xs.getD j 0)))
theorem Reads.below {w w' : World} {v : Value} {xs : List Int} {B : Nat} (h : Reads w v xs) (hb : Below B w w') (hB : w.heap.size ≤ B) : Reads w' v xs := by
  obtain ⟨p, c, rfl, h | ⟨b, off, rfl, hlt, hc⟩⟩ := h
  · exact ⟨p, c, rfl, .inl h⟩
  · refine ⟨_, c, rfl, .inr ⟨b, off, rfl, Nat.lt_of_lt_of_le hlt hb.size, fun j hj => ?_⟩⟩
    rw [hb.cell (p := ⟨b, off + j, none⟩) (Nat.lt_of_lt_of_le hlt hB)]
    exact hc j hj

/-- The set of a list. -/
def ofN (xs : List Int) : Nat := xs.foldl (fun n i => putN n i true) 0
theorem ofN_snoc (xs : List Int) (i : Int) : ofN (xs ++ [i]) = putN (ofN xs) i true := by simp [ofN]
theorem ofN_lt (xs : List Int) : ofN xs < 18446744073709551616 := by
  rcases List.eq_nil_or_concat xs with rfl | ⟨ys, y, rfl⟩
  · decide
  · rw [List.concat_eq_append, ofN_snoc]; exact putN_lt _ _ _
theorem take_snoc' (xs : List Int) (k : Nat) (h : k < xs.length) : xs.take (k + 1) = xs.take k ++ [xs[k]?.getD 0] := by
  rw [List.take_succ_eq_append_getElem h]; simp [h]
theorem ofN_take (xs : List Int) (k : Nat) (h : k < xs.length) : putN (ofN (xs.take k)) (xs[k]?.getD 0) true = ofN (xs.take (k + 1)) := by
  rw [take_snoc' xs k h, ofN_snoc]

set_option maxHeartbeats 400000 in
theorem Of_any (v : Value) (xs : List Int) (hx : xs.length ≤ maxLen) (w : World) (h : Reads w v xs) :
    Calls Tryd.prog 8 #[v] w fun e w' => e = .returned (.int .u64 (ofN xs)) ∧ w = w' := by
  unfold maxLen at hx
  obtain ⟨p, c, rfl, h⟩ := h
  by_cases h0 : xs = []
  · subst h0
    clear h
    go_enter Tryd.func8, Tryd.ntmps8
    go_wp2
    refine wp_loop_rounds 1 ?_
    rw [rounds_succ]
    go_wp2
    go_ret
    exact ⟨rfl, rfl⟩
  · obtain ⟨b, off, rfl, hlt, hc⟩ := h.resolve_left h0
    have Hc := Lib.hid hc
    clear hc h
    go_enter Tryd.func8, Tryd.ntmps8
    go_wp2
    go_loop [3, 5, 8] (fun s _ t => ∃ k : Nat, k ≤ xs.length ∧ t = .int .i64 k ∧ s = .int .u64 (ofN (xs.take k))) (fun _ _ t => xs.length - (intOf t).toNat)
    case atStart => exact ⟨0, by omega, rfl, rfl⟩
    case round =>
      obtain ⟨k, hk, rfl, rfl⟩ := hrel
      by_cases hlt2 : k < xs.length
      · have hcell := Hc.out k hlt2
        have hs := ofN_take xs k hlt2
        rw [← List.getD_eq_getElem?_getD] at hs
        obtain ⟨x, hx⟩ : ∃ x, xs.getD k 0 = x := ⟨_, rfl⟩
        rw [hx] at hcell hs
        have Hs := Lib.hid hs
        clear hs hx
        go_wp2_with (go_at_call 14; refine (With_any _ (ofN_lt _) _ _).mono ?_; rintro e w1 ⟨rfl, rfl⟩; rw [Hs.out])
        go_round
        case rel => exact ⟨k + 1, by omega, by go_num, rfl⟩
        case measure => simp [intOf]; omega
      · obtain rfl : k = xs.length := by omega
        go_wp2
        go_ret
        exact ⟨ret_u64 (by simp), rfl⟩
end Go.Proofs.YtjdklmglljhjhaaDoor
