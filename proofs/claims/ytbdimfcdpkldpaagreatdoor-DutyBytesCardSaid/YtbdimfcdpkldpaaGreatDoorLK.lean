/- The contracts of the sets' reference: Row, Set, Put. The contracts of sets' All and of its reference's All. -/
import Derived.Test.YtbdimfcdpkldpaaGreatDoorRows
import Derived.Test.YtbdimfcdpkldpaaGreatDoorLQ0
import Derived.WalkKit
import Derived.WalkSpells
import Derived.WalkLawsBesides
import Derived.Laws.BitsAllLaws
import Derived.Laws.ShiftsVarLaws
import Derived.Laws.Rows
import Derived.Laws.CopyOwn
import Derived.Lib.Hide
import Derived.Below
import Derived.Deep.QuietTactic
import Derived.BigQuiet
import Derived.Deep.WholeRow
namespace Go.Proofs.YtbdimfcdpkldpaaGreatDoor.Sets
open Go.RowKit

theorem ret_int {k : IntKind} {a b : Int} (h : a = b) : Ending.returned (.int k a) = .returned (.int k b) := by rw [h]

theorem wrap_pow (k : Nat) (h : k < 64) : IntKind.u64.wrap ((2 : Int) ^ k) = ((2 ^ k : Nat) : Int) := by
  have := pow_lt_64 k h
  rw [IntKind.wrap_u64, show ((2 : Int) ^ k) = ((2 ^ k : Nat) : Int) from by simp]
  generalize 2 ^ k = m at *
  omega
theorem bitN_mid (i : Int) (h : ¬ i < 0) (h6 : ¬ 64 ≤ i) : bitN i = 2 ^ i.toNat := by
  unfold bitN; rw [if_neg h, if_neg h6]

/-- Sixty-four truths as cells. -/
def boolArr (f : Nat → Bool) : Array Value := ((List.range 64).map fun j => Value.bool (f j)).toArray

theorem boolArr_size (f : Nat → Bool) : (boolArr f).size = 64 := by simp [boolArr]
theorem boolArr_one (f : Nat → Bool) : (boolArr f).all (·.oneCell') = true := by
  rw [Array.all_eq_true_iff_forall_mem]
  intro v hv
  simp only [boolArr, List.mem_toArray, List.mem_map] at hv
  obtain ⟨j, _, rfl⟩ := hv
  rfl
theorem size41 : (Tryz.prog.info? 156).map (·.size) = some 64 := by kernel_rfl
theorem size41b (f : Nat → Bool) : (Tryz.prog.info? 156).map (·.size) = some (boolArr f).size := by rw [boolArr_size]; exact size41
theorem boolArr_get (f : Nat → Bool) (k : Nat) (h : k < 64) : (boolArr f)[k]? = some (Value.bool (f k)) := by
  simp [boolArr, h]

theorem ret_u64 {a b : Nat} (h : a = b) : Ending.returned (.int .u64 (a : Int)) = .returned (.int .u64 (b : Int)) := by rw [h]

theorem set_step0 (f : Nat → Bool) (m : Nat) (hm : m < 64) (hb : f m = false) : IntKind.u64.wrap ((hiBits f (m + 1) : Int) * 2) = (hiBits f m : Int) := by
  have h1 := hiBits_lt1 f (m + 1) (by omega)
  rw [IntKind.wrap_u64, hiBits_step f m hm, hb]
  simp only [Bool.toNat_false]
  omega
theorem set_step1 (f : Nat → Bool) (m : Nat) (hm : m < 64) (hb : f m = true) : IntKind.u64.wrap (IntKind.u64.wrap ((hiBits f (m + 1) : Int) * 2) + 1) = (hiBits f m : Int) := by
  have h1 := hiBits_lt1 f (m + 1) (by omega)
  rw [IntKind.wrap_u64, IntKind.wrap_u64, hiBits_step f m hm, hb]
  simp only [Bool.toNat_true]
  omega

set_option maxHeartbeats 400000 in
theorem Set_any (f : Nat → Bool) (w : World) :
    Calls Tryz.prog 117 #[.agg (boolArr f)] w fun e w' => e = .returned (.int .u64 (bitsOf 64 f)) ∧ Below w.heap.size w w' := by
  have hc : ∀ k, k < 64 → (w.alloc (.cells (boolArr f) 156)).cell? ⟨w.heap.size, k, none⟩ = some (.bool (f k)) := by
    intro k hk
    rw [cell_of_row _ _ _ _ _ _ (heap_alloc_new w _), boolArr_get f k hk]
  have Hc := Lib.hid hc
  clear hc
  go_enter Tryz.func117, Tryz.ntmps117
  go_wp2
  go_loop [3, 4] (fun s t => ∃ i : Int, -1 ≤ i ∧ i ≤ 63 ∧ t = .int .i64 i ∧ s = .int .u64 (hiBits f (i + 1).toNat)) (fun _ t => (intOf t + 1).toNat)
  case atStart => exact ⟨63, by omega, by omega, rfl, by rw [show ((63 : Int) + 1).toNat = 64 from rfl, hiBits_top]; rfl⟩
  case round =>
    obtain ⟨i, hi1, hi2, rfl, rfl⟩ := hrel
    by_cases h : 0 ≤ i
    · obtain ⟨m, rfl⟩ := Int.eq_ofNat_of_zero_le h
      have hcell := Hc.out m (by omega)
      rw [show ((m : Int) + 1).toNat = m + 1 from by omega]
      have hm : m < 64 := by omega
      cases hb : f m with
      | false =>
        rw [hb] at hcell
        have Hb := Lib.hid (set_step0 f m hm hb)
        clear hb
        go_wp2
        go_round
        case rel => exact ⟨(m : Int) - 1, by omega, by omega, rfl, by rw [Hb.out, show ((m : Int) - 1 + 1).toNat = m from by omega]⟩
        case measure => simp [intOf]
      | true =>
        rw [hb] at hcell
        have Hb := Lib.hid (set_step1 f m hm hb)
        clear hb
        go_wp2
        go_round
        case rel => exact ⟨(m : Int) - 1, by omega, by omega, rfl, by rw [Hb.out, show ((m : Int) - 1 + 1).toNat = m from by omega]⟩
        case measure => simp [intOf]
    · obtain rfl : i = -1 := by omega
      go_wp2
      go_ret
      exact ⟨ret_u64 (hiBits_zero f), (Below.refl _ _).alloc (Nat.le_refl _) _⟩

/-- The row of a set after i rounds. -/
def rowArr (n i : Nat) : Array Value := boolArr fun j => decide (j < i) && n.testBit j
theorem rowArr_zero (n : Nat) : rowArr n 0 = boolArr fun _ => false := by simp [rowArr]
theorem rowArr_full (n : Nat) : rowArr n 64 = boolArr n.testBit := by
  unfold rowArr boolArr
  congr 1
theorem rowArr_step (n i : Nat) (_h : i < 64) : (rowArr n i).setIfInBounds i (.bool (n.testBit i)) = rowArr n (i + 1) := by
  apply Array.ext
  · simp [rowArr, boolArr]
  · intro k h1 h2
    have hk : k < 64 := by simpa [rowArr, boolArr] using h2
    rw [Array.getElem_setIfInBounds]
    · simp only [rowArr, boolArr, List.getElem_toArray, List.getElem_map, List.getElem_range]
      by_cases e : i = k
      · subst e; simp
      · have : decide (k < i) = decide (k < i + 1) := by simp; omega
        simp [e, this]
    · simpa [rowArr, boolArr] using hk

theorem row_bit (n i m : Nat) (h : m = n / 2 ^ i) : ((m : Int) % 2 == 1) = n.testBit i := by
  rw [Nat.testBit_eq_decide_div_mod_eq, ← h, Bool.eq_iff_iff]
  simp only [beq_iff_eq, decide_eq_true_eq]
  omega
theorem row_half (n i m : Nat) (h : m = n / 2 ^ i) : (m : Int) / 2 = ((n / 2 ^ (i + 1) : Nat) : Int) := by
  rw [Nat.pow_succ, ← Nat.div_div_eq_div_mul, ← h]
  omega

/-- The block of a row's cells, after a store. -/
theorem row_stored (w : World) (g i : Nat) (n : Nat) (hi : i < 64) (hg : w.heap[g]? = some (.cells (rowArr n i) 156 (0, 0))) :
    (w.setCell ⟨g, i, none⟩ (.bool (n.testBit i))).heap[g]? = some (.cells (rowArr n (i + 1)) 156 (0, 0)) := by
  rw [heap_setCell_same w g i _ 156 _ hg, rowArr_step n i hi]

set_option maxRecDepth 100000 in
set_option maxHeartbeats 400000 in
theorem Row_any (n : Nat) (hn : n < 18446744073709551616) (w : World) :
    Calls Tryz.prog 116 #[.int .u64 n] w fun e w' => e = .returned (.agg (boolArr n.testBit)) ∧ Below w.heap.size w w' := by
  go_enter Tryz.func116, Tryz.ntmps116
  go_wp2
  go_loopw [0, 4] (fun s t wr => ∃ i : Nat, i ≤ 64 ∧ t = .int .i64 i ∧ s = .int .u64 ((n / 2 ^ i : Nat) : Int) ∧ wr.heap[w.heap.size]? = some (.cells (boolArr fun _ => false) 156) ∧
    wr.heap[w.heap.size + 1]? = some (.cells (rowArr n i) 156) ∧ Below w.heap.size w wr) (fun _ t _ => 64 - (intOf t).toNat)
  case atStart => 
    refine ⟨0, by omega, rfl, by simp, ?_, ?_, ?_⟩
    · exact heap_alloc2_old _ _ _
    · rw [rowArr_zero]; exact heap_alloc2_new _ _ _
    · exact ((Below.refl _ _).alloc (Nat.le_refl _) _).alloc (by simp) _
  case round =>
    obtain ⟨i, hi, rfl, rfl, h0, h1, hb⟩ := hrel
    have hsz : w.heap.size + 1 < wr.heap.size := by
      have := (Array.getElem?_eq_some_iff.1 h1).1; exact this
    by_cases h : i < 64
    · have hcell : wr.cell? ⟨w.heap.size + 1, i, none⟩ = some (.bool (decide (i < i) && n.testBit i)) := by
        rw [cell_of_row _ _ _ _ _ _ h1]; unfold rowArr; rw [boolArr_get _ _ h]
      have hfr := frozen_of_row wr (w.heap.size + 1) i _ _ h1
      obtain ⟨m, hm⟩ : ∃ m, m = n / 2 ^ i := ⟨_, rfl⟩
      have hd : m < 18446744073709551616 := hm ▸ Nat.lt_of_le_of_lt (Nat.div_le_self _ _) hn
      rw [← hm]
      have Hm := Lib.hid hm
      clear hm
      have H0 := Lib.hid h0
      have H1 := Lib.hid h1
      clear h0 h1
      go_wp2
      refine ⟨⟨i + 1, by omega, by go_num, ?_, ?_, ?_, ?_⟩, ?_⟩
      · rw [row_half n i m Hm.out]
      · rw [heap_setCell_other _ _ _ _ (by simp)]; exact H0.out
      · rw [row_bit n i m Hm.out]; exact row_stored _ _ _ _ h H1.out
      · exact hb.setCell (by simp) _
      · simp [intOf]; omega
    · obtain rfl : i = 64 := by omega
      have H0 := Lib.hid h0
      rw [rowArr_full] at h1
      have H1 := Lib.hid h1
      clear h0 h1
      go_wp2_with (first | refine wpList_load_row rfl 156 _ rfl (w.heap.size + 1) rfl 156 _ _ _ H1.out Tryz.underlying156 rfl (size41b _) ?_ | refine wpList_store_row rfl 156 _ _ rfl w.heap.size _ rfl rfl 156 _ H0.out (size41b _) (by rw [boolArr_size, boolArr_size]) (boolArr_one _) ?_)
      refine bodyPost_ret (results_cell_row rfl _ _ w.heap.size 156 _ (0, 0) _ rfl (setRow_heap wr w.heap.size _ _ 156 (0, 0) H0.out) Tryz.underlying156 rfl (size41b _)) rfl ?_
      exact ⟨rfl, below_setRow hb (Nat.le_refl _) _⟩
/-- The truths of a set in which i is b. -/
def putF (n : Nat) (i : Int) (b : Bool) : Nat → Bool := fun j => if (j : Int) = i then b else n.testBit j
theorem putF_bits (n : Nat) (i : Int) (b : Bool) : bitsOf 64 (putF n i b) = putN n i b := rfl
theorem boolArr_put (n m : Nat) (_hm : m < 64) (b : Bool) : (boolArr n.testBit).setIfInBounds m (.bool b) = boolArr (putF n m b) := by
  apply Array.ext
  · simp [boolArr]
  · intro k h1 h2
    have hk : k < 64 := by simpa [boolArr] using h2
    rw [Array.getElem_setIfInBounds]
    · simp only [boolArr, putF, List.getElem_toArray, List.getElem_map, List.getElem_range]
      by_cases e : m = k
      · subst e; simp
      · have e2 : ¬ ((k : Int) = (m : Int)) := by omega
        simp [e, e2]
    · simpa [boolArr] using hk
theorem putN_out (n : Nat) (_hn : n < 18446744073709551616) (i : Int) (h : i < 0 ∨ 64 ≤ i) (b : Bool) : bitsOf 64 n.testBit = putN n i b := by
  unfold putN
  apply bitsOf_congr
  intro j hj
  have : ¬ ((j : Int) = i) := by omega
  simp [this]

theorem load_put (w1 : World) (n m : Nat) (b : Bool) (hm : m < 64) : ((w1.alloc (.cells (boolArr n.testBit) 156)).setCell ⟨w1.heap.size, m, none⟩ (.bool b)).heap[w1.heap.size]? = some (.cells (boolArr (putF n m b)) 156) := by
  rw [heap_setCell_same _ _ _ _ 156 _ (heap_alloc_new w1 _), boolArr_put n m hm b]


theorem size41c (f : Nat → Bool) (m : Nat) (v : Value) : (Tryz.prog.info? 156).map (·.size) = some ((boolArr f).setIfInBounds m v).size := by rw [Array.size_setIfInBounds, boolArr_size]; exact size41

set_option maxRecDepth 100000 in
set_option maxHeartbeats 400000 in
theorem Put_any (n : Nat) (hn : n < 18446744073709551616) (i : Int) (b : Bool) (w : World) :
    Calls Tryz.prog 71 #[.int .u64 n, .int .i64 i, .bool b] w fun e w' => e = .returned (.int .u64 (putN n i b)) ∧ Below w.heap.size w w' := by
  by_cases hi : 0 ≤ i
  · by_cases h6 : i < 64
    · obtain ⟨m, rfl⟩ := Int.eq_ofNat_of_zero_le hi
      have hm : m < 64 := by omega
      go_enter Tryz.func71, Tryz.ntmps71
      go_wp2_with (first | (go_at_call 116; refine (Row_any n hn _).mono ?_; rintro e w1 ⟨rfl, hb1⟩) | (refine wpList_store_row rfl 156 _ _ rfl w1.heap.size _ rfl rfl 156 _ (heap_alloc_new w1 _) (size41b _) (by rw [boolArr_size]; rfl) (boolArr_one _) ?_; rw [World.setRow_alloc_new]; have hcell : (w1.alloc (.cells (boolArr n.testBit) 156)).cell? ⟨w1.heap.size, m, none⟩ = some (.bool (n.testBit m)) := (by rw [cell_of_row _ _ _ _ _ _ (heap_alloc_new w1 _), boolArr_get _ m hm])) | (refine wpList_load_row rfl 156 _ rfl w1.heap.size rfl 156 _ (0, 0) _ (heap_alloc_new w1 _) Tryz.underlying156 rfl (size41c _ _ _) ?_; rw [boolArr_put n m hm]) | (go_at_call 117; refine (Set_any (putF n m b) _).mono ?_; rintro e w2 ⟨rfl, hb2⟩))
      go_ret
      exact ⟨rfl, (hb1.alloc hb1.size _).trans (hb2.mono (by have := hb1.size; simp; omega))⟩
    · go_enter Tryz.func71, Tryz.ntmps71
      go_wp2_with (first | (go_at_call 116; refine (Row_any n hn _).mono ?_; rintro e w1 ⟨rfl, hb1⟩) | (refine wpList_store_row rfl 156 _ _ rfl w1.heap.size _ rfl rfl 156 _ (heap_alloc_new w1 _) (size41b _) (by rw [boolArr_size]; rfl) (boolArr_one _) ?_; rw [World.setRow_alloc_new]) | (refine wpList_load_row rfl 156 _ rfl w1.heap.size rfl 156 _ (0, 0) _ (heap_alloc_new w1 _) Tryz.underlying156 rfl (size41b _) ?_) | (go_at_call 117; refine (Set_any n.testBit _).mono ?_; rintro e w2 ⟨rfl, hb2⟩))
      go_ret
      exact ⟨ret_u64 (putN_out n hn i (by omega) b), (hb1.alloc hb1.size _).trans (hb2.mono (by have := hb1.size; simp; omega))⟩
  · go_enter Tryz.func71, Tryz.ntmps71
    go_wp2_with (first | (go_at_call 116; refine (Row_any n hn _).mono ?_; rintro e w1 ⟨rfl, hb1⟩) | (refine wpList_store_row rfl 156 _ _ rfl w1.heap.size _ rfl rfl 156 _ (heap_alloc_new w1 _) (size41b _) (by rw [boolArr_size]; rfl) (boolArr_one _) ?_; rw [World.setRow_alloc_new]) | (refine wpList_load_row rfl 156 _ rfl w1.heap.size rfl 156 _ (0, 0) _ (heap_alloc_new w1 _) Tryz.underlying156 rfl (size41b _) ?_) | (go_at_call 117; refine (Set_any n.testBit _).mono ?_; rintro e w2 ⟨rfl, hb2⟩))
    go_ret
    exact ⟨ret_u64 (putN_out n hn i (by omega) b), (hb1.alloc hb1.size _).trans (hb2.mono (by have := hb1.size; simp; omega))⟩

end Go.Proofs.YtbdimfcdpkldpaaGreatDoor.Sets

namespace Go.Proofs.YtbdimfcdpkldpaaGreatDoor.Sets
open Go.RowKit

theorem wrap_big : IntKind.u64.wrap 18446744073709551616 = 0 := by rw [IntKind.wrap_u64]; decide
theorem all_big : IntKind.u64.wrap (IntKind.u64.wrap 18446744073709551616 - 1) = 18446744073709551615 := by rw [wrap_big, IntKind.wrap_u64]; decide
theorem all_mid (k : Nat) (h : k < 64) : IntKind.u64.wrap (IntKind.u64.wrap ((2 : Int) ^ k) - 1) = ((2 ^ k - 1 : Nat) : Int) := by
  have := pow_lt_64 k h
  have h2 := Nat.two_pow_pos k
  rw [wrap_pow k h, IntKind.wrap_u64]
  omega
theorem allN_mid (i : Int) (h : ¬ i < 0) (h6 : ¬ 64 ≤ i) : allN i = 2 ^ i.toNat - 1 := by
  unfold allN; rw [if_neg h, if_neg h6]

set_option maxHeartbeats 400000 in
theorem All_any (i : Int) (w : World) :
    Calls Tryz.prog 104 #[.int .i64 i] w fun e w' => e = .returned (.int .u64 (allN i)) ∧ w = w' := by
  by_cases h : i < 0
  · go_enter Tryz.func104, Tryz.ntmps104
    go_wp2
    go_ret
    exact ⟨by simp [allN, h], rfl⟩
  · by_cases h6 : 64 ≤ i
    · go_enter Tryz.func104, Tryz.ntmps104
      go_wp2
      go_ret
      exact ⟨ret_int (by rw [all_big]; unfold allN; rw [if_neg (by omega), if_pos h6]; rfl), rfl⟩
    · go_enter Tryz.func104, Tryz.ntmps104
      go_wp2
      go_ret
      exact ⟨ret_int (by rw [all_mid _ (by omega), allN_mid i (by omega) (by omega)]), rfl⟩
/-- All integers below i, as the reference makes them. -/
theorem allN_step (k : Nat) (_hk : k < 64) : putN (allN k) k true = allN ((k : Int) + 1) := by
  apply Nat.eq_of_testBit_eq
  intro j
  rw [putN, testBit_bitsOf, testBit_allN, testBit_allN]
  by_cases hj : j < 64
  · by_cases e : (j : Int) = k
    · have : (j : Int) < (k : Int) + 1 := by omega
      simp [hj, e]; omega
    · by_cases e2 : (j : Int) < k
      · have : (j : Int) < (k : Int) + 1 := by omega
        simp [hj, e, e2, this]
      · have : ¬ (j : Int) < (k : Int) + 1 := by omega
        simp [e, e2, this]
  · simp [hj]
theorem allN_zero : allN 0 = 0 := by decide
theorem allN_neg (i : Int) (h : i ≤ 0) : allN i = 0 := by
  unfold allN
  by_cases h0 : i < 0
  · rw [if_pos h0]
  · obtain rfl : i = 0 := by omega
    decide
theorem allN_top (i : Int) (h : 64 ≤ i) : allN 64 = allN i := by
  unfold allN
  rw [if_neg (by omega), if_pos (by omega), if_neg (by omega), if_pos h]

set_option maxHeartbeats 400000 in
theorem RAll_any (i : Int) (w : World) :
    Calls Tryz.prog 34 #[.int .i64 i] w fun e w' => e = .returned (.int .u64 (allN i)) ∧ Below w.heap.size w w' := by
  go_enter Tryz.func34, Tryz.ntmps34
  go_wp2
  go_loopw [3, 4] (fun s t wr => ∃ k : Nat, k ≤ 64 ∧ ((k : Int) ≤ i ∨ k = 0) ∧ t = .int .i64 k ∧ s = .int .u64 (allN k) ∧ Below w.heap.size w wr) (fun _ t _ => 64 - (intOf t).toNat)
  case atStart => exact ⟨0, by omega, .inr rfl, rfl, rfl, Below.refl _ _⟩
  case round =>
    obtain ⟨k, hk, hki, rfl, rfl, hb⟩ := hrel
    by_cases h6 : k < 64
    · by_cases hlt : (k : Int) < i
      · clear hki
        go_wp2_with (go_at_call 71; refine (Put_any _ (allN_lt k) k true _).mono ?_; rintro e w1 ⟨rfl, hb1⟩; rw [allN_step k h6])
        go_roundw
        case rel => exact ⟨k + 1, by omega, .inl (by omega), by go_num, rfl, hb.trans (hb1.mono hb.size)⟩
        case measure => simp [intOf]; omega
      · go_wp2
        go_ret
        refine ⟨ret_u64 ?_, hb⟩
        rcases hki with h | h
        · rw [show (k : Int) = i from by omega]
        · subst h
          rw [allN_neg i (by omega)]; rfl
    · obtain rfl : k = 64 := by omega
      have hki2 : 64 ≤ i := by rcases hki with h | h <;> omega
      clear hki
      go_wp2
      go_ret
      exact ⟨ret_u64 (allN_top i hki2), hb⟩

end Go.Proofs.YtbdimfcdpkldpaaGreatDoor.Sets
