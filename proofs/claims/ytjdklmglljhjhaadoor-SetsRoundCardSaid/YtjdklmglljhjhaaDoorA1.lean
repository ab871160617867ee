/- The contracts of the statements' own example and of the reference's Same. -/
import Derived.Test.YtjdklmglljhjhaaDoorT1
namespace Go.Proofs.YtjdklmglljhjhaaDoor
open Go.RowKit

theorem ex_of : ofN [5, 1, 64] = 34 := by decide +kernel
theorem ex_mem : memL 34 64 = [1, 5] := by decide +kernel
theorem ex_text : textN 34 = [49, 44, 53] := by
  unfold textN textL
  rw [ex_mem]
  simp [Lib.join, List.intercalate, Lib.decDigits_one]
theorem ex_next2 : nextN 34 2 = 5 := by decide +kernel
theorem ex_next6 : nextN 34 6 = 1 := by decide +kernel
theorem ex_reads (w : World) : Reads (w.alloc (.cells #[.int .i64 5, .int .i64 1, .int .i64 64] 3)) (.slice (some ⟨w.heap.size, 0, none⟩) 3 3) [5, 1, 64] := by
  refine ⟨_, 3, rfl, .inr ⟨w.heap.size, 0, rfl, by simp, fun j hj => ?_⟩⟩
  rw [cell_of_row _ _ _ _ _ _ (heap_alloc_new w _), Nat.zero_add]
  match j, hj with
  | 0, _ => rfl
  | 1, _ => rfl
  | 2, _ => rfl
theorem tab_alloc {tab : List Nat} {W : World} (h : TabAt 0 tab W) (h0 : 0 < W.heap.size) (o : Obj) : TabAt 0 tab (W.alloc o) := tab_below h ((Below.refl _ _).alloc (Nat.le_refl _) o) h0

set_option maxHeartbeats 400000 in
theorem awake_any (w : World) (hT : TabAt 0 Lib.deBruijn64tab w) :
    Calls Tryd.prog 17 #[] w fun e w' => e = .returned (.bool true) ∧ Below w.heap.size w w' := by
  have hw0 : 0 < w.heap.size := by
    have := hT 0 (by decide)
    exact block_lt_of_cell this
  have HT := Lib.hid (tab_alloc hT hw0 (.cells #[.int .i64 5, .int .i64 1, .int .i64 64] 3))
  clear hT
  go_enter Tryd.func17, Tryd.ntmps17
  go_wp2_with fail
  refine (Of_any _ [5, 1, 64] (by decide) _ (ex_reads w)).mono ?_
  rintro e w1 ⟨rfl, rfl⟩
  rw [ex_of]
  go_wp2_with fail
  refine (Text_any 34 (by decide) _ HT.out).mono ?_
  rintro e w2 ⟨rfl, hb2⟩
  rw [ex_text]
  have HT2 := Lib.hid (tab_below HT.out hb2 (by simp))
  go_wp2_with fail
  refine (Next_any 34 (by decide) 2 _ HT2.out).mono ?_
  rintro e w3 ⟨rfl, rfl⟩
  rw [ex_next2]
  go_wp2_with fail
  refine (Next_any 34 (by decide) 6 _ HT2.out).mono ?_
  rintro e w3 ⟨rfl, rfl⟩
  rw [ex_next6]
  go_wp2
  go_ret
  exact ⟨rfl, ((Below.refl _ _).alloc (Nat.le_refl _) _).trans (hb2.mono (by simp))⟩

set_option maxHeartbeats 400000 in
theorem Same_any (v v' : Value) (xs : List Int) (hx : xs.length ≤ maxLen) (w : World) (h : Reads w v xs) (h' : Reads w v' xs) :
    Calls Tryd.prog 27 #[v, v'] w fun e w' => e = .returned (.bool true) ∧ Below w.heap.size w w' := by
  unfold maxLen at hx
  obtain ⟨p, c, rfl, h⟩ := h
  obtain ⟨p', c', rfl, h'⟩ := h'
  have hne : ((xs.length : Int) != (xs.length : Int)) = false := by simp
  by_cases h0 : xs = []
  · subst h0
    clear h h' hne
    go_enter Tryd.func27, Tryd.ntmps27
    go_wp2
    refine wp_loop_rounds 1 ?_
    rw [rounds_succ]
    go_wp2
    go_ret
    exact ⟨rfl, Below.refl _ _⟩
  · obtain ⟨b, off, rfl, hlt, hc⟩ := h.resolve_left h0
    obtain ⟨b', off', rfl, hlt', hc'⟩ := h'.resolve_left h0
    have Hc := Lib.hid hc
    have Hc' := Lib.hid hc'
    clear hc hc' h h'
    go_enter Tryd.func27, Tryd.ntmps27
    go_wp2
    go_loopw [5] (fun t wr => ∃ k : Nat, k ≤ xs.length ∧ t = .int .i64 k ∧ Below w.heap.size w wr) (fun t _ => xs.length - (intOf t).toNat)
    case atStart => exact ⟨0, by omega, rfl, Below.refl _ _⟩
    case round =>
      obtain ⟨k, hk, rfl, hb⟩ := hrel
      by_cases hlt2 : k < xs.length
      · have hcell := (hb.cell (p := ⟨b, off + k, none⟩) hlt).trans (Hc.out k hlt2)
        have hcell' := (hb.cell (p := ⟨b', off' + k, none⟩) hlt').trans (Hc'.out k hlt2)
        obtain ⟨x, hx⟩ : ∃ x, xs.getD k 0 = x := ⟨_, rfl⟩
        rw [hx] at hcell hcell'
        clear hx
        have hxx : (x != x) = false := by simp
        have hki : (k : Int) < (xs.length : Int) := by omega
        go_wp2
        go_quiet (fail)
        go_wp2
        go_roundw
        case rel => exact ⟨k + 1, by omega, by go_num, below_drewN hb _⟩
        case measure => simp [intOf]; omega
      · obtain rfl : k = xs.length := by omega
        go_wp2
        go_ret
        exact ⟨rfl, hb⟩
end Go.Proofs.YtjdklmglljhjhaaDoor
