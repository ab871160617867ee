/- The contracts of the statements' own few, and of the reference's Of, List, Least, Next. -/
import Derived.Test.YtjdklmglljhjhaaDoorW3
namespace Go.Proofs.YtjdklmglljhjhaaDoor
open Go.RowKit

theorem info3 : (Tryd.prog.info? 3).map (fun i => (i.zero, i.size, i.bytes)) = some (some (.int .i64 0), 1, 8) := by kernel_rfl

theorem Reads.of_own {w : World} {B : Nat} {v : Value} {xs : List Int} (h : w.ownsRow B 3 1 v xs.length (xs.map (Value.int .i64))) : Reads w v xs := by
  obtain ⟨hl, ⟨rfl, h0⟩ | ⟨g, cap, cur, rfl, hb, hg, hn, hm, hs, ht⟩⟩ := h
  · have : xs = [] := List.length_eq_zero_iff.1 h0
    subst this
    exact ⟨none, 0, rfl, .inl rfl⟩
  · refine ⟨_, cap, rfl, .inr ⟨g, 0, rfl, (Array.getElem?_eq_some_iff.1 hg).1, fun j hj => ?_⟩⟩
    rw [cell_of_row w g _ cur 3 (0, 0) hg, Nat.zero_add]
    have h1 : (cur.toList.take (xs.length * 1))[j]? = (xs.map (Value.int .i64))[j]? := by rw [ht]
    rw [Nat.mul_one, List.getElem?_take_of_lt hj] at h1
    rw [Array.getElem?_toList] at h1
    rw [h1]
    simp [hj]

set_option maxHeartbeats 400000 in
theorem ROf_any (v : Value) (xs : List Int) (hx : xs.length ≤ maxLen) (w : World) (h : Reads w v xs) :
    Calls Tryd.prog 9 #[v] w fun e w' => e = .returned (.int .u64 (ofN xs)) ∧ Below w.heap.size w w' := by
  unfold maxLen at hx
  obtain ⟨p, c, rfl, h⟩ := h
  by_cases h0 : xs = []
  · subst h0
    clear h
    go_enter Tryd.func9, Tryd.ntmps9
    go_wp2
    refine wp_loop_rounds 1 ?_
    rw [rounds_succ]
    go_wp2
    go_ret
    exact ⟨rfl, Below.refl _ _⟩
  · obtain ⟨b, off, rfl, hlt, hc⟩ := h.resolve_left h0
    have Hc := Lib.hid hc
    clear hc h
    go_enter Tryd.func9, Tryd.ntmps9
    go_wp2
    go_loopw [3, 4] (fun s t wr => ∃ k : Nat, k ≤ xs.length ∧ t = .int .i64 k ∧ s = .int .u64 (ofN (xs.take k)) ∧ Below w.heap.size w wr) (fun _ t _ => xs.length - (intOf t).toNat)
    case atStart => exact ⟨0, by omega, rfl, rfl, Below.refl _ _⟩
    case round =>
      obtain ⟨k, hk, rfl, rfl, hb⟩ := hrel
      by_cases hlt2 : k < xs.length
      · have hcell := (hb.cell (p := ⟨b, off + k, none⟩) hlt).trans (Hc.out k hlt2)
        have hs := ofN_take xs k hlt2
        rw [← List.getD_eq_getElem?_getD] at hs
        obtain ⟨x, hx⟩ : ∃ x, xs.getD k 0 = x := ⟨_, rfl⟩
        rw [hx] at hcell hs
        have Hs := Lib.hid hs
        clear hs hx
        go_wp2_with (go_at_call 15; refine (Put_any _ (ofN_lt _) _ true _).mono ?_; rintro e w1 ⟨rfl, hb1⟩; rw [Hs.out])
        go_roundw
        case rel => exact ⟨k + 1, by omega, by go_num, rfl, hb.trans (hb1.mono hb.size)⟩
        case measure => simp [intOf]; omega
      · obtain rfl : k = xs.length := by omega
        go_wp2
        go_ret
        exact ⟨ret_u64 (by simp), hb⟩

theorem few_snoc (xs : List Int) (k : Nat) (h : k < xs.length) : (xs.take k).map (Value.int .i64) ++ [Value.int .i64 (xs.getD k 0)] = (xs.take (k + 1)).map (Value.int .i64) := by
  rw [take_snoc' xs k h, List.map_append]; simp

set_option maxHeartbeats 400000 in
theorem few_any (v : Value) (xs : List Int) (hx : xs.length ≤ maxLen) (w : World) (h : Reads w v xs) :
    Calls Tryd.prog 7 #[v] w fun e w' => ∃ v', e = .returned v' ∧ w'.ownsRow w.heap.size 3 1 v' (xs.take 90).length ((xs.take 90).map (Value.int .i64)) ∧ Below w.heap.size w w' := by
  unfold maxLen at hx
  obtain ⟨i0, hi, hz0, hz1, hz2⟩ := info_parts info3
  obtain ⟨p, c, rfl, h⟩ := h
  by_cases h0 : xs = []
  · subst h0
    clear h
    go_enter Tryd.func7, Tryd.ntmps7
    go_wp2
    refine wp_loop_rounds 1 ?_
    rw [rounds_succ]
    go_wp2
    go_ret
    exact ⟨_, rfl, World.ownsRow_nil _ _ _ _, Below.refl _ _⟩
  · obtain ⟨b, off, rfl, hlt, hc⟩ := h.resolve_left h0
    have Hc := Lib.hid hc
    clear hc h
    go_enter Tryd.func7, Tryd.ntmps7
    go_wp2
    go_loopw [3, 4] (fun v t wr => ∃ k : Nat, k ≤ xs.length ∧ k ≤ 90 ∧ t = .int .i64 k ∧ wr.ownsRow w.heap.size 3 1 v k ((xs.take k).map (Value.int .i64)) ∧ Below w.heap.size w wr) (fun _ t _ => xs.length - (intOf t).toNat)
    case atStart => exact ⟨0, by omega, by omega, rfl, World.ownsRow_nil _ _ _ _, Below.refl _ _⟩
    case round =>
      obtain ⟨k, hk, hk9, rfl, hown, hb⟩ := hrel
      by_cases hlt2 : k < xs.length
      · by_cases hlt9 : k < 90
        · have hcell := (hb.cell (p := ⟨b, off + k, none⟩) hlt).trans (Hc.out k hlt2)
          have hs := few_snoc xs k hlt2
          obtain ⟨x, hx⟩ : ∃ x, xs.getD k 0 = x := ⟨_, rfl⟩
          rw [hx] at hcell hs
          have Hs := Lib.hid hs
          clear hs hx
          go_wp2_with (at_builtin; refine wpList_append_own _ rfl _ _ 22 rfl w.heap.size 3 i0 (.int .i64 0) 1 8 Tryd.underlying22 hi hz0 hz1 hz2 rfl (by decide) _ _ _ rfl (hown.alloc _) ⟨wr.heap.size, 0, none⟩ 1 1 [.int .i64 x] rfl rfl (cell_one_new _ _ _) (by simp [Value.oneCell']) (by unfold maxLen; omega) (by omega) (by have := hb.size; simp; omega) ?_; intro v' w1 hown' hgrow _; rw [Hs.out] at hown')
          go_roundw
          case rel =>
            refine ⟨k + 1, by omega, by omega, by go_num, hown', ?_⟩
            refine (hb.alloc hb.size _).grown hgrow (by have := hb.size; simp; omega) ?_
            intro j hj
            exact (hown.lt j hj).1
          case measure => simp [intOf]; omega
        · obtain rfl : k = 90 := by omega
          go_wp2
          go_ret
          exact ⟨_, rfl, by rw [List.length_take, Nat.min_eq_left (by omega)]; exact hown, hb⟩
      · obtain rfl : k = xs.length := by omega
        rw [List.take_length] at hown
        go_wp2
        go_ret
        refine ⟨_, rfl, ?_, hb⟩
        rw [List.take_of_length_le hk9]
        exact hown
end Go.Proofs.YtjdklmglljhjhaaDoor
