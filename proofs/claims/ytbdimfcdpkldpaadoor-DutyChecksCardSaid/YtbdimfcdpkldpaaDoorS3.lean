/- The contract of the reference's Plain. -/
import Derived.Test.YtbdimfcdpkldpaaDoorZ18
namespace Go.Proofs.YtbdimfcdpkldpaaDoor
open Go.RowKit

theorem cap_loop {t : Int} {k : Nat} (hk : k ≤ 5) (h : 0 < k → (2 : Int) ^ k < t) (h2 : t ≤ 2 ^ (k + 1)) (ht : t ≤ 64) : capN t = 2 ^ (k + 1) := by
  have hc : k = 0 ∨ k = 1 ∨ k = 2 ∨ k = 3 ∨ k = 4 ∨ k = 5 := by omega
  unfold capN
  rcases hc with rfl | rfl | rfl | rfl | rfl | rfl
  all_goals
    simp at h h2 ⊢
    repeat' split
    all_goals omega
def plainC (c t : Int) (x : Int) : Dut := ⟨heldN c, heldN t, 4, x, 8, 4602678819172646912, 4611686018427387904, [], []⟩
set_option maxRecDepth 100000 in
set_option maxHeartbeats 4000000 in
theorem RPlainY_any (c t : Int) (w : World) :
    Calls Tryd.prog 11 #[.int .i64 c, .int .i64 t] w fun e w' => e = .returned (.agg ((plainY c t).cells (.slice none 0 0) (.slice none 0 0))) ∧ Below w.heap.size w w' := by
  have e1 : min (max c 1) 64 = heldN c := rfl
  have e2 : min (max t 1) 64 = heldN t := rfl
  have hr := heldN_range t
  have hz0 := two_new w (.cells (zeroY.cells (.slice none 0 0) (.slice none 0 0)) 27) 27 ((plainC c t 2).cells (.slice none 0 0) (.slice none 0 0))
  have hk0 : Blk ((w.alloc (.cells (zeroY.cells (.slice none 0 0) (.slice none 0 0)) 27)).alloc (.cells ((plainC c t 2).cells (.slice none 0 0) (.slice none 0 0)) 27)) w.heap.size 27 (zeroY.cells (.slice none 0 0) (.slice none 0 0)) := (Blk.new w _ _).alloc _
  have hb0 := below_alloc2 w (.cells (zeroY.cells (.slice none 0 0) (.slice none 0 0)) 27) (.cells ((plainC c t 2).cells (.slice none 0 0) (.slice none 0 0)) 27)
  have HZ0 := Lib.hid hz0
  have HK0 := Lib.hid hk0
  clear hz0 hk0
  go_enter Tryd.func11, Tryd.ntmps11
  go_wp2_with (first
    | (refine wpList_alloc_agg rfl 27 rfl (zeroY.cells (.slice none 0 0) (.slice none 0 0)) zeroYR ?_)
    | rw [e1]
    | rw [e2]
    | (refine wpList_store_row rfl 27 _ _ rfl (w.alloc (.cells (zeroY.cells (.slice none 0 0) (.slice none 0 0)) 27)).heap.size ((plainC c t 2).cells (.slice none 0 0) (.slice none 0 0)) rfl rfl 27 _ (Blk.new _ _ _) (sizeY _ _ _) rfl (oneY _ _ _ _ _ _ _) ?_; rw [World.size_alloc, setRow_two]))
  simp only [Act.put, List.setIfInBounds_toArray, List.set_cons_zero, List.set_cons_succ]
  go_loopw [20] (fun _ wr => ∃ k : Nat, k ≤ 5 ∧ Hid (0 < k → (2 : Int) ^ k < heldN t) ∧ Hid (Blk wr (w.heap.size + 1) 27 ((plainC c t (2 ^ (k + 1))).cells (.slice none 0 0) (.slice none 0 0))) ∧ Hid (Blk wr w.heap.size 27 (zeroY.cells (.slice none 0 0) (.slice none 0 0))) ∧ Below w.heap.size w wr) (fun _ wr => 200 - (match wr.cell? ⟨w.heap.size + 1, 3, none⟩ with | some (.int _ x) => x.toNat | _ => 0))
  case atStart => exact ⟨0, by omega, Lib.hid (fun e => by omega), HZ0, HK0, hb0⟩
  case round =>
    obtain ⟨k, hk, hno, hB, hZ, hb⟩ := hrel
    clear HZ0 HK0 hb0
    obtain ⟨_, q1, _, q3, _⟩ := duty_at hB.out
    have q1' : wr.cell? ⟨w.heap.size + 1, 1, none⟩ = some (.int .i64 (heldN t)) := q1
    have hcase : k = 0 ∨ k = 1 ∨ k = 2 ∨ k = 3 ∨ k = 4 ∨ k = 5 := by omega
    rcases hcase with rfl | rfl | rfl | rfl | rfl | rfl
    · have q3' : wr.cell? ⟨w.heap.size + 1, 3, none⟩ = some (.int .i64 2) := q3
      by_cases hx : 2 < heldN t
      · have f3 := hB.out.frozen 3
        have hB2 := hB.out.set 3 (.int .i64 4)
        have hZ2 := hZ.out.far (p := ⟨w.heap.size + 1, 3, none⟩) (by simp) (.int .i64 4)
        have hb2 := hb.trans ((foot_cell9 wr (w.heap.size + 1) 3 (.int .i64 4)).below hb.size (fun k hk => by omega))
        have HB2 : Hid (Blk _ (w.heap.size + 1) 27 ((plainC c t (2 ^ (1 + 1))).cells (.slice none 0 0) (.slice none 0 0))) := Lib.hid hB2
        have HZ2 := Lib.hid hZ2
        have HC : Hid ((wr.setCell ⟨w.heap.size + 1, 3, none⟩ (.int .i64 4)).cell? ⟨w.heap.size + 1, 3, none⟩ = some (.int .i64 4)) := Lib.hid (hB2.cell 3)
        clear hno hB hZ hB2 hZ2 q1 q3 hr
        go_wp2
        go_roundw
        case rel => exact ⟨1, by omega, Lib.hid (fun _ => hx), HB2, HZ2, hb2⟩
        case measure => rw [HC.out, q3']; simp
      · have hcap : capN (heldN t) = 2 ^ (0 + 1) := cap_loop (by omega) hno.out (by simp; omega) hr.2
        have hfin : plainC c t (2 ^ (0 + 1)) = plainY c t := by unfold plainC plainY; rw [hcap]
        have hBB := hB.out
        rw [hfin] at hBB
        have hZZ := hZ.out
        clear hno hB hZ q1 q3 hr hcap hfin
        go_wp2_with (first
          | (refine wpList_load_row rfl 27 _ rfl (w.heap.size + 1) rfl 27 _ (0, 0) _ hBB Tryd.underlying27 rfl (sizeY _ _ _) ?_)
          | (refine wpList_store_row rfl 27 _ _ rfl w.heap.size ((plainY c t).cells (.slice none 0 0) (.slice none 0 0)) rfl rfl 27 _ hZZ (sizeY _ _ _) rfl (oneY _ _ _ _ _ _ _) ?_))
        refine bodyPost_ret (results_row1 rfl _ _ w.heap.size 27 ((plainY c t).cells (.slice none 0 0) (.slice none 0 0)) (0, 0) _ rfl (hZZ.row _) Tryd.underlying27 rfl (sizeY _ _ _)) rfl ?_
        exact ⟨rfl, hb.trans (foot_row _ (Nat.le_refl _))⟩
    · have q3' : wr.cell? ⟨w.heap.size + 1, 3, none⟩ = some (.int .i64 4) := q3
      by_cases hx : 4 < heldN t
      · have f3 := hB.out.frozen 3
        have hB2 := hB.out.set 3 (.int .i64 8)
        have hZ2 := hZ.out.far (p := ⟨w.heap.size + 1, 3, none⟩) (by simp) (.int .i64 8)
        have hb2 := hb.trans ((foot_cell9 wr (w.heap.size + 1) 3 (.int .i64 8)).below hb.size (fun k hk => by omega))
        have HB2 : Hid (Blk _ (w.heap.size + 1) 27 ((plainC c t (2 ^ (2 + 1))).cells (.slice none 0 0) (.slice none 0 0))) := Lib.hid hB2
        have HZ2 := Lib.hid hZ2
        have HC : Hid ((wr.setCell ⟨w.heap.size + 1, 3, none⟩ (.int .i64 8)).cell? ⟨w.heap.size + 1, 3, none⟩ = some (.int .i64 8)) := Lib.hid (hB2.cell 3)
        clear hno hB hZ hB2 hZ2 q1 q3 hr
        go_wp2
        go_roundw
        case rel => exact ⟨2, by omega, Lib.hid (fun _ => hx), HB2, HZ2, hb2⟩
        case measure => rw [HC.out, q3']; simp
      · have hcap : capN (heldN t) = 2 ^ (1 + 1) := cap_loop (by omega) hno.out (by simp; omega) hr.2
        have hfin : plainC c t (2 ^ (1 + 1)) = plainY c t := by unfold plainC plainY; rw [hcap]
        have hBB := hB.out
        rw [hfin] at hBB
        have hZZ := hZ.out
        clear hno hB hZ q1 q3 hr hcap hfin
        go_wp2_with (first
          | (refine wpList_load_row rfl 27 _ rfl (w.heap.size + 1) rfl 27 _ (0, 0) _ hBB Tryd.underlying27 rfl (sizeY _ _ _) ?_)
          | (refine wpList_store_row rfl 27 _ _ rfl w.heap.size ((plainY c t).cells (.slice none 0 0) (.slice none 0 0)) rfl rfl 27 _ hZZ (sizeY _ _ _) rfl (oneY _ _ _ _ _ _ _) ?_))
        refine bodyPost_ret (results_row1 rfl _ _ w.heap.size 27 ((plainY c t).cells (.slice none 0 0) (.slice none 0 0)) (0, 0) _ rfl (hZZ.row _) Tryd.underlying27 rfl (sizeY _ _ _)) rfl ?_
        exact ⟨rfl, hb.trans (foot_row _ (Nat.le_refl _))⟩
    · have q3' : wr.cell? ⟨w.heap.size + 1, 3, none⟩ = some (.int .i64 8) := q3
      by_cases hx : 8 < heldN t
      · have f3 := hB.out.frozen 3
        have hB2 := hB.out.set 3 (.int .i64 16)
        have hZ2 := hZ.out.far (p := ⟨w.heap.size + 1, 3, none⟩) (by simp) (.int .i64 16)
        have hb2 := hb.trans ((foot_cell9 wr (w.heap.size + 1) 3 (.int .i64 16)).below hb.size (fun k hk => by omega))
        have HB2 : Hid (Blk _ (w.heap.size + 1) 27 ((plainC c t (2 ^ (3 + 1))).cells (.slice none 0 0) (.slice none 0 0))) := Lib.hid hB2
        have HZ2 := Lib.hid hZ2
        have HC : Hid ((wr.setCell ⟨w.heap.size + 1, 3, none⟩ (.int .i64 16)).cell? ⟨w.heap.size + 1, 3, none⟩ = some (.int .i64 16)) := Lib.hid (hB2.cell 3)
        clear hno hB hZ hB2 hZ2 q1 q3 hr
        go_wp2
        go_roundw
        case rel => exact ⟨3, by omega, Lib.hid (fun _ => hx), HB2, HZ2, hb2⟩
        case measure => rw [HC.out, q3']; simp
      · have hcap : capN (heldN t) = 2 ^ (2 + 1) := cap_loop (by omega) hno.out (by simp; omega) hr.2
        have hfin : plainC c t (2 ^ (2 + 1)) = plainY c t := by unfold plainC plainY; rw [hcap]
        have hBB := hB.out
        rw [hfin] at hBB
        have hZZ := hZ.out
        clear hno hB hZ q1 q3 hr hcap hfin
        go_wp2_with (first
          | (refine wpList_load_row rfl 27 _ rfl (w.heap.size + 1) rfl 27 _ (0, 0) _ hBB Tryd.underlying27 rfl (sizeY _ _ _) ?_)
          | (refine wpList_store_row rfl 27 _ _ rfl w.heap.size ((plainY c t).cells (.slice none 0 0) (.slice none 0 0)) rfl rfl 27 _ hZZ (sizeY _ _ _) rfl (oneY _ _ _ _ _ _ _) ?_))
        refine bodyPost_ret (results_row1 rfl _ _ w.heap.size 27 ((plainY c t).cells (.slice none 0 0) (.slice none 0 0)) (0, 0) _ rfl (hZZ.row _) Tryd.underlying27 rfl (sizeY _ _ _)) rfl ?_
        exact ⟨rfl, hb.trans (foot_row _ (Nat.le_refl _))⟩
    · have q3' : wr.cell? ⟨w.heap.size + 1, 3, none⟩ = some (.int .i64 16) := q3
      by_cases hx : 16 < heldN t
      · have f3 := hB.out.frozen 3
        have hB2 := hB.out.set 3 (.int .i64 32)
        have hZ2 := hZ.out.far (p := ⟨w.heap.size + 1, 3, none⟩) (by simp) (.int .i64 32)
        have hb2 := hb.trans ((foot_cell9 wr (w.heap.size + 1) 3 (.int .i64 32)).below hb.size (fun k hk => by omega))
        have HB2 : Hid (Blk _ (w.heap.size + 1) 27 ((plainC c t (2 ^ (4 + 1))).cells (.slice none 0 0) (.slice none 0 0))) := Lib.hid hB2
        have HZ2 := Lib.hid hZ2
        have HC : Hid ((wr.setCell ⟨w.heap.size + 1, 3, none⟩ (.int .i64 32)).cell? ⟨w.heap.size + 1, 3, none⟩ = some (.int .i64 32)) := Lib.hid (hB2.cell 3)
        clear hno hB hZ hB2 hZ2 q1 q3 hr
        go_wp2
        go_roundw
        case rel => exact ⟨4, by omega, Lib.hid (fun _ => hx), HB2, HZ2, hb2⟩
        case measure => rw [HC.out, q3']; simp
      · have hcap : capN (heldN t) = 2 ^ (3 + 1) := cap_loop (by omega) hno.out (by simp; omega) hr.2
        have hfin : plainC c t (2 ^ (3 + 1)) = plainY c t := by unfold plainC plainY; rw [hcap]
        have hBB := hB.out
        rw [hfin] at hBB
        have hZZ := hZ.out
        clear hno hB hZ q1 q3 hr hcap hfin
        go_wp2_with (first
          | (refine wpList_load_row rfl 27 _ rfl (w.heap.size + 1) rfl 27 _ (0, 0) _ hBB Tryd.underlying27 rfl (sizeY _ _ _) ?_)
          | (refine wpList_store_row rfl 27 _ _ rfl w.heap.size ((plainY c t).cells (.slice none 0 0) (.slice none 0 0)) rfl rfl 27 _ hZZ (sizeY _ _ _) rfl (oneY _ _ _ _ _ _ _) ?_))
        refine bodyPost_ret (results_row1 rfl _ _ w.heap.size 27 ((plainY c t).cells (.slice none 0 0) (.slice none 0 0)) (0, 0) _ rfl (hZZ.row _) Tryd.underlying27 rfl (sizeY _ _ _)) rfl ?_
        exact ⟨rfl, hb.trans (foot_row _ (Nat.le_refl _))⟩
    · have q3' : wr.cell? ⟨w.heap.size + 1, 3, none⟩ = some (.int .i64 32) := q3
      by_cases hx : 32 < heldN t
      · have f3 := hB.out.frozen 3
        have hB2 := hB.out.set 3 (.int .i64 64)
        have hZ2 := hZ.out.far (p := ⟨w.heap.size + 1, 3, none⟩) (by simp) (.int .i64 64)
        have hb2 := hb.trans ((foot_cell9 wr (w.heap.size + 1) 3 (.int .i64 64)).below hb.size (fun k hk => by omega))
        have HB2 : Hid (Blk _ (w.heap.size + 1) 27 ((plainC c t (2 ^ (5 + 1))).cells (.slice none 0 0) (.slice none 0 0))) := Lib.hid hB2
        have HZ2 := Lib.hid hZ2
        have HC : Hid ((wr.setCell ⟨w.heap.size + 1, 3, none⟩ (.int .i64 64)).cell? ⟨w.heap.size + 1, 3, none⟩ = some (.int .i64 64)) := Lib.hid (hB2.cell 3)
        clear hno hB hZ hB2 hZ2 q1 q3 hr
        go_wp2
        go_roundw
        case rel => exact ⟨5, by omega, Lib.hid (fun _ => hx), HB2, HZ2, hb2⟩
        case measure => rw [HC.out, q3']; simp
      · have hcap : capN (heldN t) = 2 ^ (4 + 1) := cap_loop (by omega) hno.out (by simp; omega) hr.2
        have hfin : plainC c t (2 ^ (4 + 1)) = plainY c t := by unfold plainC plainY; rw [hcap]
        have hBB := hB.out
        rw [hfin] at hBB
        have hZZ := hZ.out
        clear hno hB hZ q1 q3 hr hcap hfin
        go_wp2_with (first
          | (refine wpList_load_row rfl 27 _ rfl (w.heap.size + 1) rfl 27 _ (0, 0) _ hBB Tryd.underlying27 rfl (sizeY _ _ _) ?_)
          | (refine wpList_store_row rfl 27 _ _ rfl w.heap.size ((plainY c t).cells (.slice none 0 0) (.slice none 0 0)) rfl rfl 27 _ hZZ (sizeY _ _ _) rfl (oneY _ _ _ _ _ _ _) ?_))
        refine bodyPost_ret (results_row1 rfl _ _ w.heap.size 27 ((plainY c t).cells (.slice none 0 0) (.slice none 0 0)) (0, 0) _ rfl (hZZ.row _) Tryd.underlying27 rfl (sizeY _ _ _)) rfl ?_
        exact ⟨rfl, hb.trans (foot_row _ (Nat.le_refl _))⟩
    · have q3' : wr.cell? ⟨w.heap.size + 1, 3, none⟩ = some (.int .i64 64) := q3
      by_cases hx : 64 < heldN t
      · omega
      · have hcap : capN (heldN t) = 2 ^ (5 + 1) := cap_loop (by omega) hno.out (by simp; omega) hr.2
        have hfin : plainC c t (2 ^ (5 + 1)) = plainY c t := by unfold plainC plainY; rw [hcap]
        have hBB := hB.out
        rw [hfin] at hBB
        have hZZ := hZ.out
        clear hno hB hZ q1 q3 hr hcap hfin
        go_wp2_with (first
          | (refine wpList_load_row rfl 27 _ rfl (w.heap.size + 1) rfl 27 _ (0, 0) _ hBB Tryd.underlying27 rfl (sizeY _ _ _) ?_)
          | (refine wpList_store_row rfl 27 _ _ rfl w.heap.size ((plainY c t).cells (.slice none 0 0) (.slice none 0 0)) rfl rfl 27 _ hZZ (sizeY _ _ _) rfl (oneY _ _ _ _ _ _ _) ?_))
        refine bodyPost_ret (results_row1 rfl _ _ w.heap.size 27 ((plainY c t).cells (.slice none 0 0) (.slice none 0 0)) (0, 0) _ rfl (hZZ.row _) Tryd.underlying27 rfl (sizeY _ _ _)) rfl ?_
        exact ⟨rfl, hb.trans (foot_row _ (Nat.le_refl _))⟩
end Go.Proofs.YtbdimfcdpkldpaaDoor
