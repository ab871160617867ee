/- The contracts of deed's Good and Calls. -/
import Derived.Test.YtbdimfcdpkldpaaGreatDoorLD1
import Derived.Test.YtbdimfcdpkldpaaGreatDoorLB
namespace Go.Proofs.YtbdimfcdpkldpaaGreatDoor
open Go.RowKit

set_option maxRecDepth 100000 in
set_option maxHeartbeats 4000000 in
theorem Good_case (d D : Deed) (r : Nat) (hd : d.ok) (ho : isOp d.op = true) (hB : bldD d.op (valsD d) = (D, r)) (hr : r = 0 ∨ r = 5) (w : World) :
    Calls Tryz.prog 108 #[d.val] w fun e w' => e = .returned (.bool (r == 0 && eqD D d)) ∧ Below w.heap.size w w' := by
  have hvals := values_any d hd ho
  have hbuild : ∀ (v : Value) (G : Nat → Prop) (W : World), RV W G v (valsD d).length 1 ((valsD d).map uV) → Calls Tryz.prog 142 #[.int .i64 d.op, v] W fun e w' => e = .returned (.tuple #[.agg D.cells, .int .i64 (r : Int)]) ∧ Below W.heap.size W w' := by
    intro v G W h
    have := build_any d.op ho (valsD d) (by simp [valsD]) v G W h
    rw [hB] at this
    exact this
  have hisop := isOp_any d.op
  rw [ho] at hisop
  have heq := eq_run D d
  clear hB ho hd
  have hblk0 := Blk.new w 109 d.cells
  have hc0 : (w.alloc (.cells d.cells 109)).cell? ⟨w.heap.size, 0, none⟩ = some (.int .i64 d.op) := hblk0.cell 0
  simp only [Deed.val] at hvals ⊢
  go_enter Tryz.func108, Tryz.ntmps108
  go_wp2_with (first | (refine wpList_box_agg rfl 109 _ rfl d.cells rfl ?_) | (go_at_call 141; with_reducible refine (hisop _).mono ?_; rintro e w' ⟨rfl, rfl⟩))
  have hbW := below_alloc1 w (.cells d.cells 109)
  obtain ⟨W, hW⟩ : ∃ W, W = w.alloc (.cells d.cells 109) := ⟨_, rfl⟩
  rw [← hW] at hblk0 hbW ⊢
  have HG : Hid (Blk W.drew w.heap.size 109 d.cells) := Lib.hid hblk0
  have hgb : w.heap.size < W.heap.size := hblk0.lt
  replace hbW : Below w.heap.size w W.drew := hbW.drew
  clear hW hc0 hblk0 hisop
  refine wp_region_held_drew (S := fun w' => Below W.heap.size W.drew w') (by kernel_rfl) (Below.refl _ _) (fun hS0 => ?_)
  refine wpAnyH_take (i := 0) (v := ?_) rfl (by kernel_rfl) (by kernel_rfl) (by kernel_rfl) (fun _ _ _ h => h) (Or.inl ⟨by rfl, ?_⟩) hS0 ?_
  rotate_left
  · intro w1 _; go_simp; with_reducible rfl
  refine wpAnyH_take (i := 1) (v := .int .i64 d.op) rfl (by kernel_rfl) (by kernel_rfl) (by kernel_rfl) (fun _ _ _ h => h) (Or.inl ⟨by rfl, fun w1 hS1 => by have h0 : w1.cell? ⟨w.heap.size, 0, none⟩ = some (.int .i64 d.op) := (HG.out.below hS1 hgb).cell 0; go_simp⟩) hS0 ?_
  refine wpAnyH_take (i := 2) (v := .agg d.cells) rfl (by kernel_rfl) (by kernel_rfl) (by kernel_rfl) (fun _ _ _ h => h) (yields_row rfl 109 _ rfl w.heap.size rfl 109 _ (0, 0) _ (fun w1 hS1 => HG.out.below hS1 hgb) Tryz.underlying109 rfl (sizeD _)) hS0 ?_
  refine wpAnyH_ready (rs := [3, 8]) (by kernel_rfl) (by simp) ?_
  refine AllReadyH.cons rfl (fun K hK => ?_) (AllReadyH.cons rfl (fun K hK => ?_) AllReadyH.nil)
  · go_simp
    refine (hvals _).mono ?_
    rintro e w2 ⟨xv, rfl, hxo, hb2⟩
    dsimp only
    have hv := RV.of_own hxo
    refine hK.out _ _ (Below.trans hS0 (hb2.mono (hS0.size))) (fun hS1 => ?_); clear hK K
    refine wpAnyH_ready (rs := [4, 8]) (by kernel_rfl) (by simp) ?_
    refine AllReadyH.cons rfl (fun K hK => ?_) (AllReadyH.cons rfl (fun K hK => ?_) AllReadyH.nil)
    · go_simp
      refine (hbuild _ _ _ hv).mono ?_
      rintro e w3 ⟨rfl, hb3⟩
      dsimp only
      refine hK.out _ _ (Below.trans hS1 (hb3.mono hS1.size)) (fun hS2 => ?_); clear hK K
      refine wpAnyH_take (i := 5) (v := ?_) rfl (by kernel_rfl) (by kernel_rfl) (by kernel_rfl) (fun _ _ _ h => h) (Or.inl ⟨by rfl, ?_⟩) hS2 ?_
      rotate_left
      · intro w1 _; go_simp; with_reducible rfl
      refine wpAnyH_take (i := 6) (v := ?_) rfl (by kernel_rfl) (by kernel_rfl) (by kernel_rfl) (fun _ _ _ h => h) (Or.inl ⟨by rfl, ?_⟩) hS2 ?_
      rotate_left
      · intro w1 _; go_simp; with_reducible rfl
      refine wpAnyH_take (i := 7) (v := ?_) rfl (by kernel_rfl) (by kernel_rfl) (by kernel_rfl) (fun _ _ _ h => h) (Or.inl ⟨by rfl, ?_⟩) hS2 ?_
      rotate_left
      · intro w1 _; go_simp; with_reducible rfl
      refine wpAnyH_ready (rs := [8]) (by kernel_rfl) (by simp) ?_
      refine AllReadyH.cons rfl (fun K hK => ?_) AllReadyH.nil
      refine step_alloc_agg rfl 109 rfl zeroD.cells zeroR ?_
      have hc : Blk (w3.alloc (.cells zeroD.cells 109)) w3.heap.size 109 zeroD.cells := Blk.new w3 109 zeroD.cells
      have hcW : W.heap.size ≤ w3.heap.size := hS2.size
      refine hK.out _ _ (Below.alloc hS2 hS2.size _) (fun hS3 => ?_); clear hK K
      refine wpAnyH_ready (rs := [9]) (by kernel_rfl) (by simp) ?_
      refine AllReadyH.cons rfl (fun K hK => ?_) AllReadyH.nil
      refine step_store_row rfl 109 _ _ rfl w3.heap.size D.cells rfl rfl 109 zeroD.cells hc (sizeD _) rfl (oneD _) ?_
      have hfin := hc.row D.cells
      refine hK.out _ _ (Below.trans hS3 (foot_row _ hcW)) (fun hS4 => ?_); clear hK K
      refine wpAnyH_take (i := 10) (v := ?_) rfl (by kernel_rfl) (by kernel_rfl) (by kernel_rfl) (fun _ _ _ h => h) (Or.inl ⟨by rfl, ?_⟩) hS4 ?_
      rotate_left
      · intro w1 _; go_simp; with_reducible rfl
      refine wpAnyH_done (by kernel_rfl) ?_ _
      have hgf := HG.out.below hS4 hgb
      have hbf := hbW.trans (Below.mono hS4 (Nat.le_of_lt hgb))
      have hfc : ((w3.alloc (.cells zeroD.cells 109)).setRow w3.heap.size D.cells).heap[w3.heap.size]? = some (.cells D.cells 109 (0, 0)) := hfin
      generalize (w3.alloc (.cells zeroD.cells 109)).setRow w3.heap.size D.cells = wf at *
      generalize w3.heap.size = c at *
      rcases hr with rfl | rfl
      · go_wp2_with (first
          | (refine wpList_load_row_g rfl 109 _ rfl c rfl 109 _ (0, 0) _ hfc Tryz.underlying109 rfl (sizeD _) ?_)
          | (refine wpList_load_row_g rfl 109 _ rfl w.heap.size rfl 109 _ (0, 0) _ hgf Tryz.underlying109 rfl (sizeD _) ?_))
        go_ret
        exact ⟨rfl, hbf⟩
      · go_wp2
        go_ret
        exact ⟨rfl, hbf⟩
    · refine step_alloc_agg rfl 109 rfl zeroD.cells zeroR ?_
      have hc : Blk (w2.alloc (.cells zeroD.cells 109)) w2.heap.size 109 zeroD.cells := Blk.new w2 109 zeroD.cells
      have hcW : W.heap.size ≤ w2.heap.size := hS1.size
      replace hv := hv.keep (w' := w2.alloc (.cells zeroD.cells 109)) (by simp) (fun k hk _ => Below.heap_alloc _ _ _ hk)
      refine hK.out _ _ (Below.alloc hS1 hS1.size _) (fun hS2 => ?_); clear hK K
      refine wpAnyH_ready (rs := [4]) (by kernel_rfl) (by simp) ?_
      refine AllReadyH.cons rfl (fun K hK => ?_) AllReadyH.nil
      go_simp
      refine (hbuild _ _ _ hv).mono ?_
      rintro e w3 ⟨rfl, hb3⟩
      dsimp only
      replace hc := hc.below hb3 hc.lt
      refine hK.out _ _ (Below.trans hS2 (hb3.mono hS2.size)) (fun hS3 => ?_); clear hK K
      refine wpAnyH_take (i := 5) (v := ?_) rfl (by kernel_rfl) (by kernel_rfl) (by kernel_rfl) (fun _ _ _ h => h) (Or.inl ⟨by rfl, ?_⟩) hS3 ?_
      rotate_left
      · intro w1 _; go_simp; with_reducible rfl
      refine wpAnyH_take (i := 6) (v := ?_) rfl (by kernel_rfl) (by kernel_rfl) (by kernel_rfl) (fun _ _ _ h => h) (Or.inl ⟨by rfl, ?_⟩) hS3 ?_
      rotate_left
      · intro w1 _; go_simp; with_reducible rfl
      refine wpAnyH_take (i := 7) (v := ?_) rfl (by kernel_rfl) (by kernel_rfl) (by kernel_rfl) (fun _ _ _ h => h) (Or.inl ⟨by rfl, ?_⟩) hS3 ?_
      rotate_left
      · intro w1 _; go_simp; with_reducible rfl
      refine wpAnyH_ready (rs := [9]) (by kernel_rfl) (by simp) ?_
      refine AllReadyH.cons rfl (fun K hK => ?_) AllReadyH.nil
      refine step_store_row rfl 109 _ _ rfl w2.heap.size D.cells rfl rfl 109 zeroD.cells hc (sizeD _) rfl (oneD _) ?_
      have hfin := hc.row D.cells
      refine hK.out _ _ (Below.trans hS3 (foot_row _ hcW)) (fun hS4 => ?_); clear hK K
      refine wpAnyH_take (i := 10) (v := ?_) rfl (by kernel_rfl) (by kernel_rfl) (by kernel_rfl) (fun _ _ _ h => h) (Or.inl ⟨by rfl, ?_⟩) hS4 ?_
      rotate_left
      · intro w1 _; go_simp; with_reducible rfl
      refine wpAnyH_done (by kernel_rfl) ?_ _
      have hgf := HG.out.below hS4 hgb
      have hbf := hbW.trans (Below.mono hS4 (Nat.le_of_lt hgb))
      have hfc : (w3.setRow w2.heap.size D.cells).heap[w2.heap.size]? = some (.cells D.cells 109 (0, 0)) := hfin
      generalize w3.setRow w2.heap.size D.cells = wf at *
      generalize w2.heap.size = c at *
      rcases hr with rfl | rfl
      · go_wp2_with (first
          | (refine wpList_load_row_g rfl 109 _ rfl c rfl 109 _ (0, 0) _ hfc Tryz.underlying109 rfl (sizeD _) ?_)
          | (refine wpList_load_row_g rfl 109 _ rfl w.heap.size rfl 109 _ (0, 0) _ hgf Tryz.underlying109 rfl (sizeD _) ?_))
        go_ret
        exact ⟨rfl, hbf⟩
      · go_wp2
        go_ret
        exact ⟨rfl, hbf⟩
  · refine step_alloc_agg rfl 109 rfl zeroD.cells zeroR ?_
    have hc : Blk (W.drew.alloc (.cells zeroD.cells 109)) W.heap.size 109 zeroD.cells := Blk.new W.drew 109 zeroD.cells
    have hcW : W.heap.size ≤ W.heap.size := hS0.size
    refine hK.out _ _ (Below.alloc hS0 hS0.size _) (fun hS1 => ?_); clear hK K
    refine wpAnyH_ready (rs := [3]) (by kernel_rfl) (by simp) ?_
    refine AllReadyH.cons rfl (fun K hK => ?_) AllReadyH.nil
    go_simp
    refine (hvals _).mono ?_
    rintro e w2 ⟨xv, rfl, hxo, hb2⟩
    dsimp only
    have hv := RV.of_own hxo
    replace hc := hc.below hb2 hc.lt
    refine hK.out _ _ (Below.trans hS1 (hb2.mono (hS1.size))) (fun hS2 => ?_); clear hK K
    refine wpAnyH_ready (rs := [4]) (by kernel_rfl) (by simp) ?_
    refine AllReadyH.cons rfl (fun K hK => ?_) AllReadyH.nil
    go_simp
    refine (hbuild _ _ _ hv).mono ?_
    rintro e w3 ⟨rfl, hb3⟩
    dsimp only
    replace hc := hc.below hb3 hc.lt
    refine hK.out _ _ (Below.trans hS2 (hb3.mono hS2.size)) (fun hS3 => ?_); clear hK K
    refine wpAnyH_take (i := 5) (v := ?_) rfl (by kernel_rfl) (by kernel_rfl) (by kernel_rfl) (fun _ _ _ h => h) (Or.inl ⟨by rfl, ?_⟩) hS3 ?_
    rotate_left
    · intro w1 _; go_simp; with_reducible rfl
    refine wpAnyH_take (i := 6) (v := ?_) rfl (by kernel_rfl) (by kernel_rfl) (by kernel_rfl) (fun _ _ _ h => h) (Or.inl ⟨by rfl, ?_⟩) hS3 ?_
    rotate_left
    · intro w1 _; go_simp; with_reducible rfl
    refine wpAnyH_take (i := 7) (v := ?_) rfl (by kernel_rfl) (by kernel_rfl) (by kernel_rfl) (fun _ _ _ h => h) (Or.inl ⟨by rfl, ?_⟩) hS3 ?_
    rotate_left
    · intro w1 _; go_simp; with_reducible rfl
    refine wpAnyH_ready (rs := [9]) (by kernel_rfl) (by simp) ?_
    refine AllReadyH.cons rfl (fun K hK => ?_) AllReadyH.nil
    refine step_store_row rfl 109 _ _ rfl W.heap.size D.cells rfl rfl 109 zeroD.cells hc (sizeD _) rfl (oneD _) ?_
    have hfin := hc.row D.cells
    refine hK.out _ _ (Below.trans hS3 (foot_row _ hcW)) (fun hS4 => ?_); clear hK K
    refine wpAnyH_take (i := 10) (v := ?_) rfl (by kernel_rfl) (by kernel_rfl) (by kernel_rfl) (fun _ _ _ h => h) (Or.inl ⟨by rfl, ?_⟩) hS4 ?_
    rotate_left
    · intro w1 _; go_simp; with_reducible rfl
    refine wpAnyH_done (by kernel_rfl) ?_ _
    have hgf := HG.out.below hS4 hgb
    have hbf := hbW.trans (Below.mono hS4 (Nat.le_of_lt hgb))
    have hfc : (w3.setRow W.heap.size D.cells).heap[W.heap.size]? = some (.cells D.cells 109 (0, 0)) := hfin
    generalize w3.setRow W.heap.size D.cells = wf at *
    generalize W.heap.size = c at *
    rcases hr with rfl | rfl
    · go_wp2_with (first
        | (refine wpList_load_row_g rfl 109 _ rfl c rfl 109 _ (0, 0) _ hfc Tryz.underlying109 rfl (sizeD _) ?_)
        | (refine wpList_load_row_g rfl 109 _ rfl w.heap.size rfl 109 _ (0, 0) _ hgf Tryz.underlying109 rfl (sizeD _) ?_))
      go_ret
      exact ⟨rfl, hbf⟩
    · go_wp2
      go_ret
      exact ⟨rfl, hbf⟩

theorem bld_snd (op : Int) (xs : List Nat) : (bldD op xs).2 = 0 ∨ (bldD op xs).2 = 5 := by
  unfold bldD; split
  · exact .inl rfl
  · exact .inr rfl
set_option maxHeartbeats 400000 in
theorem Good_not (d : Deed) (ho : ¬ isOp d.op = true) (w : World) :
    Calls Tryz.prog 108 #[d.val] w fun e w' => e = .returned (.bool false) ∧ Below w.heap.size w w' := by
  have hisop := isOp_any d.op
  rw [show isOp d.op = false by simpa using ho] at hisop
  clear ho
  have hblk0 := Blk.new w 109 d.cells
  have hc0 : (w.alloc (.cells d.cells 109)).cell? ⟨w.heap.size, 0, none⟩ = some (.int .i64 d.op) := hblk0.cell 0
  simp only [Deed.val]
  go_enter Tryz.func108, Tryz.ntmps108
  go_wp2_with (first | (refine wpList_box_agg rfl 109 _ rfl d.cells rfl ?_) | (go_at_call 141; with_reducible refine (hisop _).mono ?_; rintro e w' ⟨rfl, rfl⟩))
  go_ret
  exact ⟨rfl, below_alloc1 _ _⟩
theorem Good_any (d : Deed) (hd : d.ok) (w : World) :
    Calls Tryz.prog 108 #[d.val] w fun e w' => e = .returned (.bool (goodD d)) ∧ Below w.heap.size w w' := by
  rw [← good_same d hd]
  by_cases ho : isOp d.op = true
  · have h := Good_case d (bldD d.op (valsD d)).1 (bldD d.op (valsD d)).2 hd ho rfl (bld_snd _ _) w
    unfold goodC
    rw [ho, Bool.true_and]
    exact h
  · have e : goodC d = false := by unfold goodC; simp [Bool.eq_false_iff.2 ho]
    rw [e]
    exact Good_not d ho w

end Go.Proofs.YtbdimfcdpkldpaaGreatDoor
