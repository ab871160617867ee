/- The contracts of the reference's functions. -/
import Derived.Test.YtjdklmglljhjhaaDoorW1
import Derived.Laws.Rows
import Derived.Laws.CopyOwn
import Derived.Lib.Hide
namespace Go.Proofs.YtjdklmglljhjhaaDoor
open Go.RowKit

/-- Sixty-four truths as cells. -/
def boolArr (f : Nat → Bool) : Array Value := ((List.range 64).map fun j => Value.bool (f j)).toArray

theorem boolArr_size (f : Nat → Bool) : (boolArr f).size = 64 := by simp [boolArr]
theorem boolArr_one (f : Nat → Bool) : (boolArr f).all (·.oneCell') = true := by
  rw [Array.all_eq_true_iff_forall_mem]
  intro v hv
  simp only [boolArr, List.mem_toArray, List.mem_map] at hv
  obtain ⟨j, _, rfl⟩ := hv
  rfl
theorem size41 : (Tryd.prog.info? 41).map (·.size) = some 64 := by kernel_rfl
theorem size41b (f : Nat → Bool) : (Tryd.prog.info? 41).map (·.size) = some (boolArr f).size := by rw [boolArr_size]; exact size41
theorem boolArr_get (f : Nat → Bool) (k : Nat) (h : k < 64) : (boolArr f)[k]? = some (Value.bool (f k)) := by
  simp [boolArr, h]

theorem ret_u64 {a b : Nat} (h : a = b) : Ending.returned (.int .u64 (a : Int)) = .returned (.int .u64 (b : Int)) := by rw [h]

theorem set_step0 (f : Nat → Bool) (m : Nat) (hm : m < 64) (hb : f m = false) : IntKind.u64.wrap ((hiBits f (m + 1) : Int) * 2) = (hiBits f m : Int) := by
  have h1 := hiBits_lt1 f (m + 1) (by omega)
  rw [IntKind.wrap_u64, hiBits_step f m hm, hb]
  simp only [Bool.toNat_false]
  omega
theorem set_step1 (f : Nat → Bool) (m : Nat) (hm : m < 64) (hb : f m = true) : IntKind.u64.wrap (IntKind.u64.wrap ((hiBits f (m + 1) : Int) * 2) + 1) = (hiBits f m : Int) := by
  have h1 := hiBits_lt1 f (m + 1) (by omega)
  rw [IntKind.wrap_u64, IntKind.wrap_u64, hiBits_step f m hm, hb]
  simp only [Bool.toNat_true]
  omega

set_option maxHeartbeats 400000 in
theorem Set_any (f : Nat → Bool) (w : World) :
    Calls Tryd.prog 30 #[.agg (boolArr f)] w fun e w' => e = .returned (.int .u64 (bitsOf 64 f)) ∧ Below w.heap.size w w' := by
  have hc : ∀ k, k < 64 → (w.alloc (.cells (boolArr f) 41)).cell? ⟨w.heap.size, k, none⟩ = some (.bool (f k)) := by
    intro k hk
    rw [cell_of_row _ _ _ _ _ _ (heap_alloc_new w _), boolArr_get f k hk]
  have Hc := Lib.hid hc
  clear hc
  go_enter Tryd.func30, Tryd.ntmps30
  go_wp2
  go_loop [3, 4] (fun s t => ∃ i : Int, -1 ≤ i ∧ i ≤ 63 ∧ t = .int .i64 i ∧ s = .int .u64 (hiBits f (i + 1).toNat)) (fun _ t => (intOf t + 1).toNat)
  case atStart => exact ⟨63, by omega, by omega, rfl, by rw [show ((63 : Int) + 1).toNat = 64 from rfl, hiBits_top]; rfl⟩
  case round =>
    obtain ⟨i, hi1, hi2, rfl, rfl⟩ := hrel
    by_cases h : 0 ≤ i
    · obtain ⟨m, rfl⟩ := Int.eq_ofNat_of_zero_le h
      have hcell := Hc.out m (by omega)
      rw [show ((m : Int) + 1).toNat = m + 1 from by omega]
      have hm : m < 64 := by omega
      cases hb : f m with
      | false =>
        rw [hb] at hcell
        have Hb := Lib.hid (set_step0 f m hm hb)
        clear hb
        go_wp2
        go_round
        case rel => exact ⟨(m : Int) - 1, by omega, by omega, rfl, by rw [Hb.out, show ((m : Int) - 1 + 1).toNat = m from by omega]⟩
        case measure => simp [intOf]
      | true =>
        rw [hb] at hcell
        have Hb := Lib.hid (set_step1 f m hm hb)
        clear hb
        go_wp2
        go_round
        case rel => exact ⟨(m : Int) - 1, by omega, by omega, rfl, by rw [Hb.out, show ((m : Int) - 1 + 1).toNat = m from by omega]⟩
        case measure => simp [intOf]
    · obtain rfl : i = -1 := by omega
      go_wp2
      go_ret
      exact ⟨ret_u64 (hiBits_zero f), (Below.refl _ _).alloc (Nat.le_refl _) _⟩

/-- The row of a set after i rounds. -/
def rowArr (n i : Nat) : Array Value := boolArr fun j => decide (j < i) && n.testBit j
theorem rowArr_zero (n : Nat) : rowArr n 0 = boolArr fun _ => false := by simp [rowArr]
theorem rowArr_full (n : Nat) : rowArr n 64 = boolArr n.testBit := by
  unfold rowArr boolArr
  congr 1
theorem rowArr_step (n i : Nat) (_h : i < 64) : (rowArr n i).setIfInBounds i (.bool (n.testBit i)) = rowArr n (i + 1) := by
  apply Array.ext
  · simp [rowArr, boolArr]
  · intro k h1 h2
    have hk : k < 64 := by simpa [rowArr, boolArr] using h2
    rw [Array.getElem_setIfInBounds]
    · simp only [rowArr, boolArr, List.getElem_toArray, List.getElem_map, List.getElem_range]
      by_cases e : i = k
      · subst e; simp
      · have : decide (k < i) = decide (k < i + 1) := by simp; omega
        simp [e, this]
    · simpa [rowArr, boolArr] using hk

theorem row_bit (n i m : Nat) (h : m = n / 2 ^ i) : ((m : Int) % 2 == 1) = n.testBit i := by
  rw [Nat.testBit_eq_decide_div_mod_eq, ← h, Bool.eq_iff_iff]
  simp only [beq_iff_eq, decide_eq_true_eq]
  omega
theorem row_half (n i m : Nat) (h : m = n / 2 ^ i) : (m : Int) / 2 = ((n / 2 ^ (i + 1) : Nat) : Int) := by
  rw [Nat.pow_succ, ← Nat.div_div_eq_div_mul, ← h]
  omega

/-- The block of a row's cells, after a store. -/
theorem row_stored (w : World) (g i : Nat) (n : Nat) (hi : i < 64) (hg : w.heap[g]? = some (.cells (rowArr n i) 41 (0, 0))) :
    (w.setCell ⟨g, i, none⟩ (.bool (n.testBit i))).heap[g]? = some (.cells (rowArr n (i + 1)) 41 (0, 0)) := by
  rw [heap_setCell_same w g i _ 41 _ hg, rowArr_step n i hi]

set_option maxRecDepth 100000 in
set_option maxHeartbeats 400000 in
theorem Row_any (n : Nat) (hn : n < 18446744073709551616) (w : World) :
    Calls Tryd.prog 29 #[.int .u64 n] w fun e w' => e = .returned (.agg (boolArr n.testBit)) ∧ Below w.heap.size w w' := by
  go_enter Tryd.func29, Tryd.ntmps29
  go_wp2
  go_loopw [0, 4] (fun s t wr => ∃ i : Nat, i ≤ 64 ∧ t = .int .i64 i ∧ s = .int .u64 ((n / 2 ^ i : Nat) : Int) ∧ wr.heap[w.heap.size]? = some (.cells (boolArr fun _ => false) 41) ∧
    wr.heap[w.heap.size + 1]? = some (.cells (rowArr n i) 41) ∧ Below w.heap.size w wr) (fun _ t _ => 64 - (intOf t).toNat)
  case atStart => 
    refine ⟨0, by omega, rfl, by simp, ?_, ?_, ?_⟩
    · exact heap_alloc2_old _ _ _
    · rw [rowArr_zero]; exact heap_alloc2_new _ _ _
    · exact ((Below.refl _ _).alloc (Nat.le_refl _) _).alloc (by simp) _
  case round =>
    obtain ⟨i, hi, rfl, rfl, h0, h1, hb⟩ := hrel
    have hsz : w.heap.size + 1 < wr.heap.size := by
      have := (Array.getElem?_eq_some_iff.1 h1).1; exact this
    by_cases h : i < 64
    · have hcell : wr.cell? ⟨w.heap.size + 1, i, none⟩ = some (.bool (decide (i < i) && n.testBit i)) := by
        rw [cell_of_row _ _ _ _ _ _ h1]; unfold rowArr; rw [boolArr_get _ _ h]
      have hfr := frozen_of_row wr (w.heap.size + 1) i _ _ h1
      obtain ⟨m, hm⟩ : ∃ m, m = n / 2 ^ i := ⟨_, rfl⟩
      have hd : m < 18446744073709551616 := hm ▸ Nat.lt_of_le_of_lt (Nat.div_le_self _ _) hn
      rw [← hm]
      have Hm := Lib.hid hm
      clear hm
      have H0 := Lib.hid h0
      have H1 := Lib.hid h1
      clear h0 h1
      go_wp2
      refine ⟨⟨i + 1, by omega, by go_num, ?_, ?_, ?_, ?_⟩, ?_⟩
      · rw [row_half n i m Hm.out]
      · rw [heap_setCell_other _ _ _ _ (by simp)]; exact H0.out
      · rw [row_bit n i m Hm.out]; exact row_stored _ _ _ _ h H1.out
      · exact hb.setCell (by simp) _
      · simp [intOf]; omega
    · obtain rfl : i = 64 := by omega
      have H0 := Lib.hid h0
      rw [rowArr_full] at h1
      have H1 := Lib.hid h1
      clear h0 h1
      go_wp2_with (first | refine wpList_load_row rfl 41 _ rfl (w.heap.size + 1) rfl 41 _ _ _ H1.out Tryd.underlying41 rfl (size41b _) ?_ | refine wpList_store_row rfl 41 _ _ rfl w.heap.size _ rfl rfl 41 _ H0.out (size41b _) (by rw [boolArr_size, boolArr_size]) (boolArr_one _) ?_)
      refine bodyPost_ret (results_cell_row rfl _ _ w.heap.size 41 _ (0, 0) _ rfl (setRow_heap wr w.heap.size _ _ 41 (0, 0) H0.out) Tryd.underlying41 rfl (size41b _)) rfl ?_
      exact ⟨rfl, below_setRow hb (Nat.le_refl _) _⟩
end Go.Proofs.YtjdklmglljhjhaaDoor
