/- DeedGood. -/
import Derived.Test.YtbjmdcjoaapmiaaDoorD28
namespace Go.Proofs.YtbjmdcjoaapmiaaDoor
open Go.RowKit

set_option maxRecDepth 100000 in
set_option maxHeartbeats 4000000 in
theorem good_walk_yes (d : Deed) (hd : d.ok) (hg : goodD d = true) (op : Int) (w : World) (hT : Tabs w) :
    Calls Tryd.prog 3 #[d.val, .int .i64 op] w fun e w' => e = .returned (.bool true) ∧ Below w.heap.size w w' := by
  have hgood := Good_any d hd
  have hrgood := RGood_any d
  have hcalls := Calls_any d hd
  have hname := Name_any op
  have hrname := RName_any op
  rw [hg] at hgood hrgood
  rw [show callsD d = (d.op != 1) by unfold callsD; rw [hg]; simp] at hcalls
  unfold sV at hname hrname
  generalize (ByteArray.mk (nameD op).toArray) = S at *
  have HA := Lib.hid awake_any
  have hblk0 := Blk.new w 24 d.cells
  clear hg hd
  simp only [Deed.val] at hgood hrgood hcalls ⊢
  go_enter Tryd.func3, Tryd.ntmps3
  go_wp2_with (first | (refine wpList_box_agg rfl 24 _ rfl d.cells rfl ?_))
  have hbW := below_alloc1 w (.cells d.cells 24)
  obtain ⟨W, hW⟩ : ∃ W, W = w.alloc (.cells d.cells 24) := ⟨_, rfl⟩
  rw [← hW] at hblk0 hbW ⊢
  have HG : Hid (Blk W.drew w.heap.size 24 d.cells) := Lib.hid hblk0
  have hgb : w.heap.size < W.heap.size := hblk0.lt
  replace hbW : Below w.heap.size w W.drew := hbW.drew
  clear hW hblk0
  refine wp_region_held_drew (S := fun w' => Below W.heap.size W.drew w') (by kernel_rfl) (Below.refl _ _) (fun hS0 => ?_)
  refine wpAnyH_take (i := 0) (v := .agg d.cells) rfl (by kernel_rfl) (by kernel_rfl) (by kernel_rfl) (fun _ _ _ h => h) (yields_row (by rfl) 24 _ rfl w.heap.size rfl 24 _ (0, 0) _ (fun w1 hS1 => HG.out.below hS1 hgb) Tryd.underlying24 rfl (sizeD _)) hS0 ?_
  try simp only [List.getElem_toArray, List.getElem_cons_zero, Act.put, List.setIfInBounds_toArray, List.set_cons_zero, List.set_cons_succ]
  refine wpAnyH_take (i := 2) (v := .agg d.cells) rfl (by kernel_rfl) (by kernel_rfl) (by kernel_rfl) (fun _ _ _ h => h) (yields_row (by rfl) 24 _ rfl w.heap.size rfl 24 _ (0, 0) _ (fun w1 hS1 => HG.out.below hS1 hgb) Tryd.underlying24 rfl (sizeD _)) hS0 ?_
  try simp only [List.getElem_toArray, List.getElem_cons_zero, List.getElem_cons_succ, Act.put, List.setIfInBounds_toArray, List.set_cons_zero, List.set_cons_succ]
  refine wpAnyH_ready (rs := [1]) (by kernel_rfl) (by simp) ?_
  refine AllReadyH.cons rfl (fun K hK => ?_) AllReadyH.nil
  go_simp
  refine (hgood _).mono ?_
  rintro e w2 ⟨rfl, hb2⟩
  dsimp only
  refine hK.out _ _ (Below.trans hS0 (hb2.mono hS0.size)) (fun hS1 => ?_); clear hK K
  refine wpAnyH_ready (rs := [3]) (by kernel_rfl) (by simp) ?_
  refine AllReadyH.cons rfl (fun K hK => ?_) AllReadyH.nil
  go_simp
  refine (hrgood _).mono ?_
  rintro e w4 ⟨rfl, hb4⟩
  dsimp only
  refine hK.out _ _ (Below.trans hS1 (hb4.mono hS1.size)) (fun hS2 => ?_); clear hK K
  refine wpAnyH_take (i := 4) (v := .bool false) rfl (by kernel_rfl) (by kernel_rfl) (by kernel_rfl) (fun _ _ _ h => h) (Or.inl ⟨by rfl, fun w1 hS1 => by first | (go_simp; done) | (go_simp; simp)⟩) hS2 ?_
  try simp only [List.getElem_toArray, List.getElem_cons_zero, List.getElem_cons_succ, Act.put, List.setIfInBounds_toArray, List.set_cons_zero, List.set_cons_succ]
  refine wpAnyH_take (i := 5) (v := ?_) rfl (by kernel_rfl) (by kernel_rfl) (by kernel_rfl) (fun _ _ _ h => h) (Or.inl ⟨by rfl, ?_⟩) hS2 ?_
  rotate_left
  · intro w1 _; go_simp; with_reducible rfl
  try simp only [List.getElem_toArray, List.getElem_cons_zero, List.getElem_cons_succ, Act.put, List.setIfInBounds_toArray, List.set_cons_zero, List.set_cons_succ]
  refine wpAnyH_take (i := 6) (v := .agg d.cells) rfl (by kernel_rfl) (by kernel_rfl) (by kernel_rfl) (fun _ _ _ h => h) (yields_row (by rfl) 24 _ rfl w.heap.size rfl 24 _ (0, 0) _ (fun w1 hS1 => HG.out.below hS1 hgb) Tryd.underlying24 rfl (sizeD _)) hS2 ?_
  try simp only [List.getElem_toArray, List.getElem_cons_zero, List.getElem_cons_succ, Act.put, List.setIfInBounds_toArray, List.set_cons_zero, List.set_cons_succ]
  refine wpAnyH_take (i := 8) (v := .agg d.cells) rfl (by kernel_rfl) (by kernel_rfl) (by kernel_rfl) (fun _ _ _ h => h) (yields_row (by rfl) 24 _ rfl w.heap.size rfl 24 _ (0, 0) _ (fun w1 hS1 => HG.out.below hS1 hgb) Tryd.underlying24 rfl (sizeD _)) hS2 ?_
  try simp only [List.getElem_toArray, List.getElem_cons_zero, List.getElem_cons_succ, Act.put, List.setIfInBounds_toArray, List.set_cons_zero, List.set_cons_succ]
  refine wpAnyH_ready (rs := [7]) (by kernel_rfl) (by simp) ?_
  refine AllReadyH.cons rfl (fun K hK => ?_) AllReadyH.nil
  go_simp
  refine (hcalls _).mono ?_
  rintro e w8 ⟨rfl, hb8⟩
  dsimp only
  refine hK.out _ _ (Below.trans hS2 (hb8.mono hS2.size)) (fun hS3 => ?_); clear hK K
  refine wpAnyH_ready (rs := [9]) (by kernel_rfl) (by simp) ?_
  refine AllReadyH.cons rfl (fun K hK => ?_) AllReadyH.nil
  go_simp
  refine (hrgood _).mono ?_
  rintro e w10 ⟨rfl, hb10⟩
  dsimp only
  refine hK.out _ _ (Below.trans hS3 (hb10.mono hS3.size)) (fun hS4 => ?_); clear hK K
  refine wpAnyH_take (i := 10) (v := ?_) rfl (by kernel_rfl) (by kernel_rfl) (by kernel_rfl) (fun _ _ _ h => h) (Or.inl ⟨by rfl, ?_⟩) hS4 ?_
  rotate_left
  · intro w1 _; go_simp; with_reducible rfl
  try simp only [List.getElem_toArray, List.getElem_cons_zero, List.getElem_cons_succ, Act.put, List.setIfInBounds_toArray, List.set_cons_zero, List.set_cons_succ]
  refine wpAnyH_take (i := 11) (v := ?_) rfl (by kernel_rfl) (by kernel_rfl) (by kernel_rfl) (fun _ _ _ h => h) (Or.inl ⟨by rfl, ?_⟩) hS4 ?_
  rotate_left
  · intro w1 _; go_simp; with_reducible rfl
  try simp only [List.getElem_toArray, List.getElem_cons_zero, List.getElem_cons_succ, Act.put, List.setIfInBounds_toArray, List.set_cons_zero, List.set_cons_succ]
  refine wpAnyH_take (i := 12) (v := .int .i64 d.op) rfl (by kernel_rfl) (by kernel_rfl) (by kernel_rfl) (fun _ _ _ h => h) (Or.inl ⟨by rfl, fun w1 hS1 => by have h0 : w1.cell? ⟨w.heap.size, 0, none⟩ = some (.int .i64 d.op) := (HG.out.below hS1 hgb).cell 0; go_simp⟩) hS4 ?_
  try simp only [List.getElem_toArray, List.getElem_cons_zero, List.getElem_cons_succ, Act.put, List.setIfInBounds_toArray, List.set_cons_zero, List.set_cons_succ]
  refine wpAnyH_take (i := 13) (v := .bool (d.op != 1)) rfl (by kernel_rfl) (by kernel_rfl) (by kernel_rfl) (fun _ _ _ h => h) (Or.inl ⟨by rfl, fun w1 hS1 => by first | (go_simp; done) | (go_simp; simp)⟩) hS4 ?_
  try simp only [List.getElem_toArray, List.getElem_cons_zero, List.getElem_cons_succ, Act.put, List.setIfInBounds_toArray, List.set_cons_zero, List.set_cons_succ]
  refine wpAnyH_take (i := 14) (v := ?_) rfl (by kernel_rfl) (by kernel_rfl) (by kernel_rfl) (fun _ _ _ h => h) (Or.inl ⟨by rfl, ?_⟩) hS4 ?_
  rotate_left
  · intro w1 _; go_simp; with_reducible rfl
  try simp only [List.getElem_toArray, List.getElem_cons_zero, List.getElem_cons_succ, Act.put, List.setIfInBounds_toArray, List.set_cons_zero, List.set_cons_succ]
  refine wpAnyH_take (i := 15) (v := .bool false) rfl (by kernel_rfl) (by kernel_rfl) (by kernel_rfl) (fun _ _ _ h => h) (Or.inl ⟨by rfl, fun w1 hS1 => by first | (go_simp; done) | (go_simp; simp)⟩) hS4 ?_
  try simp only [List.getElem_toArray, List.getElem_cons_zero, List.getElem_cons_succ, Act.put, List.setIfInBounds_toArray, List.set_cons_zero, List.set_cons_succ]
  refine wpAnyH_take (i := 16) (v := ?_) rfl (by kernel_rfl) (by kernel_rfl) (by kernel_rfl) (fun _ _ _ h => h) (Or.inl ⟨by rfl, ?_⟩) hS4 ?_
  rotate_left
  · intro w1 _; go_simp; with_reducible rfl
  try simp only [List.getElem_toArray, List.getElem_cons_zero, List.getElem_cons_succ, Act.put, List.setIfInBounds_toArray, List.set_cons_zero, List.set_cons_succ]
  refine wpAnyH_take (i := 17) (v := ?_) rfl (by kernel_rfl) (by kernel_rfl) (by kernel_rfl) (fun _ _ _ h => h) (Or.inl ⟨by rfl, ?_⟩) hS4 ?_
  rotate_left
  · intro w1 _; go_simp; with_reducible rfl
  try simp only [List.getElem_toArray, List.getElem_cons_zero, List.getElem_cons_succ, Act.put, List.setIfInBounds_toArray, List.set_cons_zero, List.set_cons_succ]
  refine wpAnyH_take (i := 18) (v := ?_) rfl (by kernel_rfl) (by kernel_rfl) (by kernel_rfl) (fun _ _ _ h => h) (Or.inl ⟨by rfl, ?_⟩) hS4 ?_
  rotate_left
  · intro w1 _; go_simp; with_reducible rfl
  try simp only [List.getElem_toArray, List.getElem_cons_zero, List.getElem_cons_succ, Act.put, List.setIfInBounds_toArray, List.set_cons_zero, List.set_cons_succ]
  refine wpAnyH_take (i := 20) (v := ?_) rfl (by kernel_rfl) (by kernel_rfl) (by kernel_rfl) (fun _ _ _ h => h) (Or.inl ⟨by rfl, ?_⟩) hS4 ?_
  rotate_left
  · intro w1 _; go_simp; with_reducible rfl
  try simp only [List.getElem_toArray, List.getElem_cons_zero, List.getElem_cons_succ, Act.put, List.setIfInBounds_toArray, List.set_cons_zero, List.set_cons_succ]
  refine wpAnyH_ready (rs := [19]) (by kernel_rfl) (by simp) ?_
  refine AllReadyH.cons rfl (fun K hK => ?_) AllReadyH.nil
  go_simp
  refine (hname _).mono ?_
  rintro e w20 ⟨rfl, hb20⟩
  dsimp only
  refine hK.out _ _ (Below.trans hS4 (hb20.mono hS4.size)) (fun hS5 => ?_); clear hK K
  refine wpAnyH_ready (rs := [21]) (by kernel_rfl) (by simp) ?_
  refine AllReadyH.cons rfl (fun K hK => ?_) AllReadyH.nil
  go_simp
  refine (hrname _).mono ?_
  rintro e w22 ⟨rfl, hb22⟩
  dsimp only
  refine hK.out _ _ (Below.trans hS5 (hb22.mono hS5.size)) (fun hS6 => ?_); clear hK K
  refine wpAnyH_take (i := 22) (v := .bool false) rfl (by kernel_rfl) (by kernel_rfl) (by kernel_rfl) (fun _ _ _ h => h) (Or.inl ⟨by rfl, fun w1 hS1 => by first | (go_simp; done) | (go_simp; simp)⟩) hS6 ?_
  try simp only [List.getElem_toArray, List.getElem_cons_zero, List.getElem_cons_succ, Act.put, List.setIfInBounds_toArray, List.set_cons_zero, List.set_cons_succ]
  refine wpAnyH_take (i := 23) (v := ?_) rfl (by kernel_rfl) (by kernel_rfl) (by kernel_rfl) (fun _ _ _ h => h) (Or.inl ⟨by rfl, ?_⟩) hS6 ?_
  rotate_left
  · intro w1 _; go_simp; with_reducible rfl
  try simp only [List.getElem_toArray, List.getElem_cons_zero, List.getElem_cons_succ, Act.put, List.setIfInBounds_toArray, List.set_cons_zero, List.set_cons_succ]
  refine wpAnyH_done (by kernel_rfl) ?_ _
  have hbf := hbW.trans (Below.mono hS6 (Nat.le_of_lt hgb))
  by_cases h4 : op = 4
  · subst h4
    go_wp2_with (first
      | (go_at_call 13; (with_reducible refine (Waits_any _ _).mono ?_); rintro e wv ⟨rfl, rfl⟩)
      | (go_at_call 14; refine (HA.out _ (hT.below hbf (Nat.le_refl _))).mono ?_; rintro e wz ⟨rfl, hbz⟩))
    go_ret
    exact ⟨rfl, below_pre hbf hbz⟩
  by_cases h6 : op = 6
  · subst h6
    go_wp2_with (first
      | (go_at_call 13; (with_reducible refine (Waits_any _ _).mono ?_); rintro e wv ⟨rfl, rfl⟩)
      | (go_at_call 14; refine (HA.out _ (hT.below hbf (Nat.le_refl _))).mono ?_; rintro e wz ⟨rfl, hbz⟩))
    go_ret
    exact ⟨rfl, below_pre hbf hbz⟩
  by_cases h9 : op = 9
  · subst h9
    go_wp2_with (first
      | (go_at_call 13; (with_reducible refine (Waits_any _ _).mono ?_); rintro e wv ⟨rfl, rfl⟩)
      | (go_at_call 14; refine (HA.out _ (hT.below hbf (Nat.le_refl _))).mono ?_; rintro e wz ⟨rfl, hbz⟩))
    go_ret
    exact ⟨rfl, below_pre hbf hbz⟩
  by_cases h10 : op = 10
  · subst h10
    go_wp2_with (first
      | (go_at_call 13; (with_reducible refine (Waits_any _ _).mono ?_); rintro e wv ⟨rfl, rfl⟩)
      | (go_at_call 14; refine (HA.out _ (hT.below hbf (Nat.le_refl _))).mono ?_; rintro e wz ⟨rfl, hbz⟩))
    go_ret
    exact ⟨rfl, below_pre hbf hbz⟩
  have hw0 : waitsB op = false := by unfold waitsB; simp [h4, h6, h9, h10]
  go_wp2_with (first
    | (go_at_call 13; (with_reducible refine (Waits_any _ _).mono ?_); rintro e wv ⟨rfl, rfl⟩; rw [hw0])
    | (go_at_call 14; refine (HA.out _ (hT.below hbf (Nat.le_refl _))).mono ?_; rintro e wz ⟨rfl, hbz⟩))
  go_ret
  exact ⟨ret_bool (by simp [h4, h6, h9, h10]), below_pre hbf hbz⟩

set_option maxRecDepth 100000 in
set_option maxHeartbeats 4000000 in
theorem good_walk_no (d : Deed) (hd : d.ok) (hg : goodD d = false) (op : Int) (w : World) (hT : Tabs w) :
    Calls Tryd.prog 3 #[d.val, .int .i64 op] w fun e w' => e = .returned (.bool true) ∧ Below w.heap.size w w' := by
  have hgood := Good_any d hd
  have hrgood := RGood_any d
  have hcalls := Calls_any d hd
  have hname := Name_any op
  have hrname := RName_any op
  rw [hg] at hgood hrgood
  rw [show callsD d = false by unfold callsD; rw [hg]; simp] at hcalls
  unfold sV at hname hrname
  generalize (ByteArray.mk (nameD op).toArray) = S at *
  have HA := Lib.hid awake_any
  have hblk0 := Blk.new w 24 d.cells
  clear hg hd
  simp only [Deed.val] at hgood hrgood hcalls ⊢
  go_enter Tryd.func3, Tryd.ntmps3
  go_wp2_with (first | (refine wpList_box_agg rfl 24 _ rfl d.cells rfl ?_))
  have hbW := below_alloc1 w (.cells d.cells 24)
  obtain ⟨W, hW⟩ : ∃ W, W = w.alloc (.cells d.cells 24) := ⟨_, rfl⟩
  rw [← hW] at hblk0 hbW ⊢
  have HG : Hid (Blk W.drew w.heap.size 24 d.cells) := Lib.hid hblk0
  have hgb : w.heap.size < W.heap.size := hblk0.lt
  replace hbW : Below w.heap.size w W.drew := hbW.drew
  clear hW hblk0
  refine wp_region_held_drew (S := fun w' => Below W.heap.size W.drew w') (by kernel_rfl) (Below.refl _ _) (fun hS0 => ?_)
  refine wpAnyH_take (i := 0) (v := .agg d.cells) rfl (by kernel_rfl) (by kernel_rfl) (by kernel_rfl) (fun _ _ _ h => h) (yields_row (by rfl) 24 _ rfl w.heap.size rfl 24 _ (0, 0) _ (fun w1 hS1 => HG.out.below hS1 hgb) Tryd.underlying24 rfl (sizeD _)) hS0 ?_
  try simp only [List.getElem_toArray, List.getElem_cons_zero, Act.put, List.setIfInBounds_toArray, List.set_cons_zero, List.set_cons_succ]
  refine wpAnyH_take (i := 2) (v := .agg d.cells) rfl (by kernel_rfl) (by kernel_rfl) (by kernel_rfl) (fun _ _ _ h => h) (yields_row (by rfl) 24 _ rfl w.heap.size rfl 24 _ (0, 0) _ (fun w1 hS1 => HG.out.below hS1 hgb) Tryd.underlying24 rfl (sizeD _)) hS0 ?_
  try simp only [List.getElem_toArray, List.getElem_cons_zero, List.getElem_cons_succ, Act.put, List.setIfInBounds_toArray, List.set_cons_zero, List.set_cons_succ]
  refine wpAnyH_ready (rs := [1]) (by kernel_rfl) (by simp) ?_
  refine AllReadyH.cons rfl (fun K hK => ?_) AllReadyH.nil
  go_simp
  refine (hgood _).mono ?_
  rintro e w2 ⟨rfl, hb2⟩
  dsimp only
  refine hK.out _ _ (Below.trans hS0 (hb2.mono hS0.size)) (fun hS1 => ?_); clear hK K
  refine wpAnyH_ready (rs := [3]) (by kernel_rfl) (by simp) ?_
  refine AllReadyH.cons rfl (fun K hK => ?_) AllReadyH.nil
  go_simp
  refine (hrgood _).mono ?_
  rintro e w4 ⟨rfl, hb4⟩
  dsimp only
  refine hK.out _ _ (Below.trans hS1 (hb4.mono hS1.size)) (fun hS2 => ?_); clear hK K
  refine wpAnyH_take (i := 4) (v := .bool false) rfl (by kernel_rfl) (by kernel_rfl) (by kernel_rfl) (fun _ _ _ h => h) (Or.inl ⟨by rfl, fun w1 hS1 => by first | (go_simp; done) | (go_simp; simp)⟩) hS2 ?_
  try simp only [List.getElem_toArray, List.getElem_cons_zero, List.getElem_cons_succ, Act.put, List.setIfInBounds_toArray, List.set_cons_zero, List.set_cons_succ]
  refine wpAnyH_take (i := 5) (v := ?_) rfl (by kernel_rfl) (by kernel_rfl) (by kernel_rfl) (fun _ _ _ h => h) (Or.inl ⟨by rfl, ?_⟩) hS2 ?_
  rotate_left
  · intro w1 _; go_simp; with_reducible rfl
  try simp only [List.getElem_toArray, List.getElem_cons_zero, List.getElem_cons_succ, Act.put, List.setIfInBounds_toArray, List.set_cons_zero, List.set_cons_succ]
  refine wpAnyH_take (i := 6) (v := .agg d.cells) rfl (by kernel_rfl) (by kernel_rfl) (by kernel_rfl) (fun _ _ _ h => h) (yields_row (by rfl) 24 _ rfl w.heap.size rfl 24 _ (0, 0) _ (fun w1 hS1 => HG.out.below hS1 hgb) Tryd.underlying24 rfl (sizeD _)) hS2 ?_
  try simp only [List.getElem_toArray, List.getElem_cons_zero, List.getElem_cons_succ, Act.put, List.setIfInBounds_toArray, List.set_cons_zero, List.set_cons_succ]
  refine wpAnyH_take (i := 8) (v := .agg d.cells) rfl (by kernel_rfl) (by kernel_rfl) (by kernel_rfl) (fun _ _ _ h => h) (yields_row (by rfl) 24 _ rfl w.heap.size rfl 24 _ (0, 0) _ (fun w1 hS1 => HG.out.below hS1 hgb) Tryd.underlying24 rfl (sizeD _)) hS2 ?_
  try simp only [List.getElem_toArray, List.getElem_cons_zero, List.getElem_cons_succ, Act.put, List.setIfInBounds_toArray, List.set_cons_zero, List.set_cons_succ]
  refine wpAnyH_ready (rs := [7]) (by kernel_rfl) (by simp) ?_
  refine AllReadyH.cons rfl (fun K hK => ?_) AllReadyH.nil
  go_simp
  refine (hcalls _).mono ?_
  rintro e w8 ⟨rfl, hb8⟩
  dsimp only
  refine hK.out _ _ (Below.trans hS2 (hb8.mono hS2.size)) (fun hS3 => ?_); clear hK K
  refine wpAnyH_ready (rs := [9]) (by kernel_rfl) (by simp) ?_
  refine AllReadyH.cons rfl (fun K hK => ?_) AllReadyH.nil
  go_simp
  refine (hrgood _).mono ?_
  rintro e w10 ⟨rfl, hb10⟩
  dsimp only
  refine hK.out _ _ (Below.trans hS3 (hb10.mono hS3.size)) (fun hS4 => ?_); clear hK K
  refine wpAnyH_take (i := 10) (v := ?_) rfl (by kernel_rfl) (by kernel_rfl) (by kernel_rfl) (fun _ _ _ h => h) (Or.inl ⟨by rfl, ?_⟩) hS4 ?_
  rotate_left
  · intro w1 _; go_simp; with_reducible rfl
  try simp only [List.getElem_toArray, List.getElem_cons_zero, List.getElem_cons_succ, Act.put, List.setIfInBounds_toArray, List.set_cons_zero, List.set_cons_succ]
  refine wpAnyH_take (i := 11) (v := undef) rfl (by kernel_rfl) (by kernel_rfl) (by kernel_rfl) (fun _ _ _ h => h) (Or.inr ⟨by rfl, rfl⟩) hS4 ?_
  try simp only [List.getElem_toArray, List.getElem_cons_zero, List.getElem_cons_succ, Act.put, List.setIfInBounds_toArray, List.set_cons_zero, List.set_cons_succ]
  refine wpAnyH_take (i := 12) (v := undef) rfl (by kernel_rfl) (by kernel_rfl) (by kernel_rfl) (fun _ _ _ h => h) (Or.inr ⟨by rfl, rfl⟩) hS4 ?_
  try simp only [List.getElem_toArray, List.getElem_cons_zero, List.getElem_cons_succ, Act.put, List.setIfInBounds_toArray, List.set_cons_zero, List.set_cons_succ]
  refine wpAnyH_take (i := 13) (v := undef) rfl (by kernel_rfl) (by kernel_rfl) (by kernel_rfl) (fun _ _ _ h => h) (Or.inr ⟨by rfl, rfl⟩) hS4 ?_
  try simp only [List.getElem_toArray, List.getElem_cons_zero, List.getElem_cons_succ, Act.put, List.setIfInBounds_toArray, List.set_cons_zero, List.set_cons_succ]
  refine wpAnyH_take (i := 14) (v := ?_) rfl (by kernel_rfl) (by kernel_rfl) (by kernel_rfl) (fun _ _ _ h => h) (Or.inl ⟨by rfl, ?_⟩) hS4 ?_
  rotate_left
  · intro w1 _; go_simp; with_reducible rfl
  try simp only [List.getElem_toArray, List.getElem_cons_zero, List.getElem_cons_succ, Act.put, List.setIfInBounds_toArray, List.set_cons_zero, List.set_cons_succ]
  refine wpAnyH_take (i := 15) (v := .bool false) rfl (by kernel_rfl) (by kernel_rfl) (by kernel_rfl) (fun _ _ _ h => h) (Or.inl ⟨by rfl, fun w1 hS1 => by first | (go_simp; done) | (go_simp; simp)⟩) hS4 ?_
  try simp only [List.getElem_toArray, List.getElem_cons_zero, List.getElem_cons_succ, Act.put, List.setIfInBounds_toArray, List.set_cons_zero, List.set_cons_succ]
  refine wpAnyH_take (i := 16) (v := ?_) rfl (by kernel_rfl) (by kernel_rfl) (by kernel_rfl) (fun _ _ _ h => h) (Or.inl ⟨by rfl, ?_⟩) hS4 ?_
  rotate_left
  · intro w1 _; go_simp; with_reducible rfl
  try simp only [List.getElem_toArray, List.getElem_cons_zero, List.getElem_cons_succ, Act.put, List.setIfInBounds_toArray, List.set_cons_zero, List.set_cons_succ]
  refine wpAnyH_take (i := 17) (v := ?_) rfl (by kernel_rfl) (by kernel_rfl) (by kernel_rfl) (fun _ _ _ h => h) (Or.inl ⟨by rfl, ?_⟩) hS4 ?_
  rotate_left
  · intro w1 _; go_simp; with_reducible rfl
  try simp only [List.getElem_toArray, List.getElem_cons_zero, List.getElem_cons_succ, Act.put, List.setIfInBounds_toArray, List.set_cons_zero, List.set_cons_succ]
  refine wpAnyH_take (i := 18) (v := ?_) rfl (by kernel_rfl) (by kernel_rfl) (by kernel_rfl) (fun _ _ _ h => h) (Or.inl ⟨by rfl, ?_⟩) hS4 ?_
  rotate_left
  · intro w1 _; go_simp; with_reducible rfl
  try simp only [List.getElem_toArray, List.getElem_cons_zero, List.getElem_cons_succ, Act.put, List.setIfInBounds_toArray, List.set_cons_zero, List.set_cons_succ]
  refine wpAnyH_take (i := 20) (v := ?_) rfl (by kernel_rfl) (by kernel_rfl) (by kernel_rfl) (fun _ _ _ h => h) (Or.inl ⟨by rfl, ?_⟩) hS4 ?_
  rotate_left
  · intro w1 _; go_simp; with_reducible rfl
  try simp only [List.getElem_toArray, List.getElem_cons_zero, List.getElem_cons_succ, Act.put, List.setIfInBounds_toArray, List.set_cons_zero, List.set_cons_succ]
  refine wpAnyH_ready (rs := [19]) (by kernel_rfl) (by simp) ?_
  refine AllReadyH.cons rfl (fun K hK => ?_) AllReadyH.nil
  go_simp
  refine (hname _).mono ?_
  rintro e w20 ⟨rfl, hb20⟩
  dsimp only
  refine hK.out _ _ (Below.trans hS4 (hb20.mono hS4.size)) (fun hS5 => ?_); clear hK K
  refine wpAnyH_ready (rs := [21]) (by kernel_rfl) (by simp) ?_
  refine AllReadyH.cons rfl (fun K hK => ?_) AllReadyH.nil
  go_simp
  refine (hrname _).mono ?_
  rintro e w22 ⟨rfl, hb22⟩
  dsimp only
  refine hK.out _ _ (Below.trans hS5 (hb22.mono hS5.size)) (fun hS6 => ?_); clear hK K
  refine wpAnyH_take (i := 22) (v := .bool false) rfl (by kernel_rfl) (by kernel_rfl) (by kernel_rfl) (fun _ _ _ h => h) (Or.inl ⟨by rfl, fun w1 hS1 => by first | (go_simp; done) | (go_simp; simp)⟩) hS6 ?_
  try simp only [List.getElem_toArray, List.getElem_cons_zero, List.getElem_cons_succ, Act.put, List.setIfInBounds_toArray, List.set_cons_zero, List.set_cons_succ]
  refine wpAnyH_take (i := 23) (v := ?_) rfl (by kernel_rfl) (by kernel_rfl) (by kernel_rfl) (fun _ _ _ h => h) (Or.inl ⟨by rfl, ?_⟩) hS6 ?_
  rotate_left
  · intro w1 _; go_simp; with_reducible rfl
  try simp only [List.getElem_toArray, List.getElem_cons_zero, List.getElem_cons_succ, Act.put, List.setIfInBounds_toArray, List.set_cons_zero, List.set_cons_succ]
  refine wpAnyH_done (by kernel_rfl) ?_ _
  have hbf := hbW.trans (Below.mono hS6 (Nat.le_of_lt hgb))
  by_cases h4 : op = 4
  · subst h4
    go_wp2_with (first
      | (go_at_call 13; (with_reducible refine (Waits_any _ _).mono ?_); rintro e wv ⟨rfl, rfl⟩)
      | (go_at_call 14; refine (HA.out _ (hT.below hbf (Nat.le_refl _))).mono ?_; rintro e wz ⟨rfl, hbz⟩))
    go_ret
    exact ⟨rfl, below_pre hbf hbz⟩
  by_cases h6 : op = 6
  · subst h6
    go_wp2_with (first
      | (go_at_call 13; (with_reducible refine (Waits_any _ _).mono ?_); rintro e wv ⟨rfl, rfl⟩)
      | (go_at_call 14; refine (HA.out _ (hT.below hbf (Nat.le_refl _))).mono ?_; rintro e wz ⟨rfl, hbz⟩))
    go_ret
    exact ⟨rfl, below_pre hbf hbz⟩
  by_cases h9 : op = 9
  · subst h9
    go_wp2_with (first
      | (go_at_call 13; (with_reducible refine (Waits_any _ _).mono ?_); rintro e wv ⟨rfl, rfl⟩)
      | (go_at_call 14; refine (HA.out _ (hT.below hbf (Nat.le_refl _))).mono ?_; rintro e wz ⟨rfl, hbz⟩))
    go_ret
    exact ⟨rfl, below_pre hbf hbz⟩
  by_cases h10 : op = 10
  · subst h10
    go_wp2_with (first
      | (go_at_call 13; (with_reducible refine (Waits_any _ _).mono ?_); rintro e wv ⟨rfl, rfl⟩)
      | (go_at_call 14; refine (HA.out _ (hT.below hbf (Nat.le_refl _))).mono ?_; rintro e wz ⟨rfl, hbz⟩))
    go_ret
    exact ⟨rfl, below_pre hbf hbz⟩
  have hw0 : waitsB op = false := by unfold waitsB; simp [h4, h6, h9, h10]
  go_wp2_with (first
    | (go_at_call 13; (with_reducible refine (Waits_any _ _).mono ?_); rintro e wv ⟨rfl, rfl⟩; rw [hw0])
    | (go_at_call 14; refine (HA.out _ (hT.below hbf (Nat.le_refl _))).mono ?_; rintro e wz ⟨rfl, hbz⟩))
  go_ret
  exact ⟨ret_bool (by simp [h4, h6, h9, h10]), below_pre hbf hbz⟩

theorem good_walk (d : Deed) (hd : d.ok) (op : Int) (w : World) (hT : Tabs w) :
    Calls Tryd.prog 3 #[d.val, .int .i64 op] w fun e w' => e = .returned (.bool true) ∧ Below w.heap.size w w' := by
  by_cases h : goodD d = true
  · exact good_walk_yes d hd h op w hT
  · exact good_walk_no d hd (by simpa using h) op w hT
end Go.Proofs.YtbjmdcjoaapmiaaDoor
