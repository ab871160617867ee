/- The contracts of the reference's Now and Live. -/
import Derived.Test.YtpkgbhoifmaagaaT5
namespace Go.Proofs.Ytpkgbhoifmaagaa
open Go.RowKit

section
variable {P : Program}
/-- A whole struct or array out of a block, by an operation that is guarded and wanted. -/
theorem wpList_load_row_g {ops : Array Oper} {rest : List Oper} {o : Oper} {a : Act} {w : World} {Q : Exit → Act → World → Prop} (hgd : Region.wanted o (yielded ops a.tmps) = true) (ty : TypeId) (x : Operand) (ho : o.op = .load ty x)
    (g : Nat) (hx : a.eval x = .pointer (some ⟨g, 0, none⟩)) (t : TypeId) (cs : Array Value) (fr : Nat × Nat) (d : TypeDesc) (hg : w.heap[g]? = some (.cells cs t fr))
    (hu : P.underlying ty = some d) (hd : (match d with | .struct _ | .array _ _ => true | _ => false) = true) (hi : (P.info? ty).map (·.size) = some cs.size)
    (h : wpList P ops Q rest (a.put o.dst (.agg cs)) w) : wpList P ops Q (o :: rest) a w :=
  wpList_step fun _ hK => by rw [if_pos hgd]; exact wp_load_row ty x ho g hx t cs fr d hg hu hd hi (hK _ _ h)
end

theorem box_cells (w : World) (n : Nat) (st : Nat → Nat) (m : Nat) (hm : m < 64) : (w.alloc (.cells (bookArr n st) 38)).cell? ⟨w.heap.size, 1 + m, none⟩ = some (.int .u64 (st m : Int)) := by
  rw [cell_of_row _ _ _ _ _ _ (heap_alloc_new w _), Nat.add_comm, bookArr_get n st m hm]
theorem nowW_zero (st : Nat → Nat) (m : Nat) (hm : m < 64) (h : st m = 0) : nowW st (m : Int) = 0 := by rw [nowW_nat st m hm, h]; rfl

set_option maxHeartbeats 400000 in
theorem RNow_any (n : Nat) (st : Nat → Nat) (hst : ∀ j, st j ≤ lastN) (i : Int) (w : World) :
    Calls Try.prog 24 #[.agg (bookArr n st), .int .i64 i] w fun e w' => e = .returned (.int .u64 ((nowW st i : Nat) : Int)) ∧ Below w.heap.size w w' := by
  have hb := Lib.hid (below_alloc1 w)
  by_cases h0 : 0 ≤ i
  · by_cases h6 : i ≤ 63
    · obtain ⟨m, rfl⟩ := Int.eq_ofNat_of_zero_le h0
      have hm : m < 64 := by omega
      have hm63 : m ≤ 63 := by omega
      have hc := box_cells w n st m hm
      by_cases hz : st m = 0
      · rw [nowW_zero st m hm hz]
        rw [hz] at hc
        clear h6
        go_enter Try.func24, Try.ntmps24
        go_wp2
        go_ret
        exact ⟨rfl, hb.out _⟩
      · rw [nowW_nat st m hm]
        have hr := Lib.hid (RWord_any (st m) m (hst m) hm (by omega))
        have hne : ((st m : Int) == 0) = false := by rw [beq_eq_false_iff_ne]; omega
        clear hz h6
        go_enter Try.func24, Try.ntmps24
        go_wp2_with (go_at_call 9; refine (hr.out _).mono ?_; rintro e w1 ⟨rfl, rfl⟩)
        go_ret
        exact ⟨rfl, hb.out _⟩
    · rw [nowW_out st i (by unfold inB; simp; omega)]
      go_enter Try.func24, Try.ntmps24
      go_wp2
      go_ret
      exact ⟨rfl, hb.out _⟩
  · rw [nowW_out st i (by unfold inB; simp; omega)]
    go_enter Try.func24, Try.ntmps24
    go_wp2
    go_ret
    exact ⟨rfl, hb.out _⟩

/-- The slot that the reference's Live tells; below 0: none. -/
def liveR (st : Nat → Nat) (x : Nat) : Int := if liveN st x then ((x % 256 : Nat) : Int) else -1
theorem liveR_yes (st : Nat → Nat) (x i : Nat) (hi : i < 64) (h0 : st i ≠ 0) (hx : wd (st i) i = x) : liveR st x = (i : Int) := by
  obtain ⟨h1, h2⟩ := live_iff st x i hi h0 hx
  unfold liveR; rw [h1, if_pos rfl, h2]
theorem liveR_no (st : Nat → Nat) (x : Nat) (h : ∀ j, j < 64 → ¬ (st j ≠ 0 ∧ wd (st j) j = x)) : liveR st x = -1 := by
  unfold liveR
  by_cases hl : liveN st x = true
  · obtain ⟨h1, h2, h3⟩ := live_of st x hl
    exact absurd ⟨h2, h3⟩ (h _ h1)
  · rw [if_neg hl]

set_option maxHeartbeats 1600000 in
theorem RLive_any (n : Nat) (st : Nat → Nat) (hst : ∀ j, st j ≤ lastN) (x : Nat) (w : World) :
    Calls Try.prog 23 #[.agg (bookArr n st), .int .u64 (x : Int)] w fun e w' => e = .returned (.int .i64 (liveR st x)) ∧ Below w.heap.size w w' := by
  have hnow := Lib.hid (RNow_any n st hst)
  clear hst
  go_enter Try.func23, Try.ntmps23
  go_wp2
  go_loopw [5] (fun t wr => ∃ i : Nat, i ≤ 64 ∧ t = .int .i64 i ∧ Hid (∀ j, j < i → ¬ (st j ≠ 0 ∧ wd (st j) j = x)) ∧ Hid (Blk wr w.heap.size 38 (bookArr n st) ∧ Below w.heap.size w wr)) (fun t _ => 64 - (intOf t).toNat)
  case atStart => exact ⟨0, by omega, rfl, Lib.hid (fun j hj => by omega), Lib.hid ⟨Blk.new _ _ _, below_alloc1 w _⟩⟩
  case round =>
    obtain ⟨i, hi, rfl, HN, HB⟩ := hrel
    by_cases hlt : i < 64
    · have hc : wr.cell? ⟨w.heap.size, 1 + i, none⟩ = some (.int .u64 (st i : Int)) := by rw [HB.out.1.cell, Nat.add_comm, bookArr_get n st i hlt]
      have hsz : w.heap.size < wr.heap.size := HB.out.1.lt
      by_cases hz : st i = 0
      · rw [hz] at hc
        have HN' := Lib.hid (show ∀ j, j < i + 1 → ¬ (st j ≠ 0 ∧ wd (st j) j = x) from fun j hj => by
          by_cases e : j = i
          · subst e; rintro ⟨h1, _⟩; exact h1 hz
          · exact HN.out j (by omega))
        clear hz
        go_wp2
        go_roundw
        case rel => exact ⟨i + 1, by omega, by go_num, HN', HB⟩
        case measure => simp [intOf]; omega
      · have hne : ((st i : Int) != 0) = true := by rw [bne_iff_ne]; omega
        have hw := nowW_nat st i hlt
        by_cases hx : wd (st i) i = x
        · have hr := Lib.hid (liveR_yes st x i hlt hz hx)
          rw [hx] at hw
          have hw := Lib.hid hw
          clear hz hx
          go_wp2_with (first | (refine wpList_load_row_g rfl 38 _ rfl w.heap.size rfl 38 _ (0, 0) _ HB.out.1 Try.underlying38 rfl (sizeRb _ _) ?_) | (go_at_call 24; refine (hnow.out _ _).mono ?_; rintro e w1 ⟨rfl, hb1⟩; rw [hw.out]))
          go_ret
          exact ⟨by rw [hr.out]; rfl, HB.out.2.trans (hb1.mono HB.out.2.size)⟩
        · have HN' := Lib.hid (show ∀ j, j < i + 1 → ¬ (st j ≠ 0 ∧ wd (st j) j = x) from fun j hj => by
            by_cases e : j = i
            · subst e; rintro ⟨_, h1⟩; exact hx h1
            · exact HN.out j (by omega))
          have hxe : (((wd (st i) i : Nat) : Int) == (x : Int)) = false := by rw [beq_eq_false_iff_ne]; omega
          have hw := Lib.hid hw
          clear hz hx
          go_wp2_with (first | (refine wpList_load_row_g rfl 38 _ rfl w.heap.size rfl 38 _ (0, 0) _ HB.out.1 Try.underlying38 rfl (sizeRb _ _) ?_) | (go_at_call 24; refine (hnow.out _ _).mono ?_; rintro e w1 ⟨rfl, hb1⟩; rw [hw.out]))
          go_roundw
          case rel => exact ⟨i + 1, by omega, by go_num, HN', Lib.hid ⟨HB.out.1.below hb1 hsz, HB.out.2.trans (hb1.mono HB.out.2.size)⟩⟩
          case measure => simp [intOf]; omega
    · obtain rfl : i = 64 := by omega
      have hr := Lib.hid (liveR_no st x HN.out)
      go_wp2
      go_ret
      exact ⟨by rw [hr.out]; rfl, HB.out.2⟩
end Go.Proofs.Ytpkgbhoifmaagaa
