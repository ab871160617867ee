/- The contracts of duty's Same and of the reference's Plain. -/
import Derived.Test.YtbdimfcdpkldpaaDoorS1
import Derived.Test.YtbdimfcdpkldpaaDoorZ18
namespace Go.Proofs.YtbdimfcdpkldpaaDoor
open Go.RowKit


set_option maxRecDepth 100000 in
set_option maxHeartbeats 4000000 in
theorem SameY_0 (a b : Dut) (ha : a.ok) (hb : b.ok) (_hsh : ∀ p ∈ a.progs, p.length ≤ 100000) (_hmx : a.progs.length ≤ 100000) (_hmx2 : a.starts.length ≤ 100000) (pp ps qp qs : Option Addr) (cp cs dp ds : Nat) (G G' : Nat → Prop) (w : World) (h : DV w G (.slice pp a.progs.length cp) (.slice ps a.starts.length cs) a) (h' : DV w G' (.slice qp b.progs.length dp) (.slice qs b.starts.length ds) b) (h1 : false = true ↔ numsY a = numsY b) :
    Calls Tryd.prog 8 #[.agg (a.cells (.slice pp a.progs.length cp) (.slice ps a.starts.length cs)), .agg (b.cells (.slice qp b.progs.length dp) (.slice qs b.starts.length ds))] w fun e w' => e = .returned (.bool false) ∧ Below w.heap.size w w' := by
  have hA : Blk ((w.alloc (.cells (a.cells (.slice pp a.progs.length cp) (.slice ps a.starts.length cs)) 27)).alloc (.cells (b.cells (.slice qp b.progs.length dp) (.slice qs b.starts.length ds)) 27)) w.heap.size 27 (a.cells (.slice pp a.progs.length cp) (.slice ps a.starts.length cs)) := (Blk.new w _ _).alloc _
  have hB : Blk ((w.alloc (.cells (a.cells (.slice pp a.progs.length cp) (.slice ps a.starts.length cs)) 27)).alloc (.cells (b.cells (.slice qp b.progs.length dp) (.slice qs b.starts.length ds)) 27)) (w.heap.size + 1) 27 (b.cells (.slice qp b.progs.length dp) (.slice qs b.starts.length ds)) := two_new w _ _ _
  have hbw := below_alloc2 w (.cells (a.cells (.slice pp a.progs.length cp) (.slice ps a.starts.length cs)) 27) (.cells (b.cells (.slice qp b.progs.length dp) (.slice qs b.starts.length ds)) 27)
  have HDa := Lib.hid (h.later hbw)
  have HDb := Lib.hid (h'.later hbw)
  clear h h'
  have H1 := Lib.hid h1
  clear h1
  go_enter Tryd.func8, Tryd.ntmps8
  go_wp2_with (first
    | (refine wpList_box_agg rfl 27 _ rfl (a.cells (.slice pp a.progs.length cp) (.slice ps a.starts.length cs)) rfl ?_)
    | (refine wpList_box_agg rfl 27 _ rfl (b.cells (.slice qp b.progs.length dp) (.slice qs b.starts.length ds)) rfl ?_))
  try simp only [World.size_alloc]
  obtain ⟨W, hW⟩ : ∃ W, W = (w.alloc (.cells (a.cells (.slice pp a.progs.length cp) (.slice ps a.starts.length cs)) 27)).alloc (.cells (b.cells (.slice qp b.progs.length dp) (.slice qs b.starts.length ds)) 27) := ⟨_, rfl⟩
  rw [← hW] at hA hB hbw HDa HDb ⊢
  have hA0 : Blk W.drew w.heap.size 27 (a.cells (.slice pp a.progs.length cp) (.slice ps a.starts.length cs)) := hA
  have hB0 : Blk W.drew (w.heap.size + 1) 27 (b.cells (.slice qp b.progs.length dp) (.slice qs b.starts.length ds)) := hB
  have hb0 : Below w.heap.size w W.drew := hbw.drew
  have hDa := Lib.hid HDa.out.drew
  have hDb := Lib.hid HDb.out.drew
  clear hW hA hB hbw HDa HDb
  refine wp_region_held_drew (S := fun w' => Below W.drew.heap.size W.drew w') (by kernel_rfl) (Below.refl _ _) (fun hS0 => ?_)
  refine wpAnyH_take (i := 0) (v := .agg (a.cells (.slice pp a.progs.length cp) (.slice ps a.starts.length cs))) rfl (by kernel_rfl) (by kernel_rfl) (by kernel_rfl) (fun _ _ _ h => h) (yields_row rfl 27 _ rfl w.heap.size rfl 27 _ (0, 0) _ (fun w1 hS1 => Blk.below hA0 hS1 hA0.lt) Tryd.underlying27 rfl (sizeY _ _ _)) hS0 ?_
  try simp only [List.getElem_toArray, List.getElem_cons_zero, Act.put, List.setIfInBounds_toArray, List.set_cons_zero, List.set_cons_succ]
  refine wpAnyH_take (i := 2) (v := .agg (b.cells (.slice qp b.progs.length dp) (.slice qs b.starts.length ds))) rfl (by kernel_rfl) (by kernel_rfl) (by kernel_rfl) (fun _ _ _ h => h) (yields_row rfl 27 _ rfl (w.heap.size + 1) rfl 27 _ (0, 0) _ (fun w1 hS1 => Blk.below hB0 hS1 hB0.lt) Tryd.underlying27 rfl (sizeY _ _ _)) hS0 ?_
  try simp only [List.getElem_toArray, List.getElem_cons_zero, List.getElem_cons_succ, Act.put, List.setIfInBounds_toArray, List.set_cons_zero, List.set_cons_succ]
  refine wpAnyH_ready (rs := [1]) (by kernel_rfl) (by simp) ?_
  refine AllReadyH.cons rfl (fun K hK => ?_) AllReadyH.nil
  go_simp
  refine (HeadOf_any a ha pp ps _ cp _ cs _).mono ?_
  rintro e v1 ⟨⟨g1, rfl, hg1, _⟩, hv1⟩
  dsimp only
  have hr1 := blk_rv (n := 7) hg1 (numsA_list a) rfl (by decide)
  refine hK.out _ _ (Below.trans hS0 (hv1.mono (hS0).size)) (fun hS1 => ?_); clear hK K
  refine wpAnyH_ready (rs := [3]) (by kernel_rfl) (by simp) ?_
  refine AllReadyH.cons rfl (fun K hK => ?_) AllReadyH.nil
  go_simp
  refine (HeadOf_any b hb qp qs _ dp _ ds _).mono ?_
  rintro e v2 ⟨⟨g2, rfl, hg2, _⟩, hv2⟩
  dsimp only
  have hr1b := RV.below hr1 hv2 (fun k hk _ => hk)
  have hr2 := blk_rv (n := 7) hg2 (numsA_list b) rfl (by decide)
  refine hK.out _ _ (Below.trans hS1 (hv2.mono (hS1).size)) (fun hS2 => ?_); clear hK K
  refine wpAnyH_ready (rs := [4]) (by kernel_rfl) (by simp) ?_
  refine AllReadyH.cons rfl (fun K hK => ?_) AllReadyH.nil
  go_simp
  refine (EqualU_any (some ⟨g1, 0, none⟩) (some ⟨g2, 0, none⟩) 7 7 (numsY a) (numsY b) (by show 7 ≤ 100000; decide) _ _ _ hr1b hr2 false (by first | exact H1.out | simpa using H1.out)).mono ?_
  rintro e v3 ⟨rfl, hv3⟩
  dsimp only
  refine hK.out _ _ (Below.trans hS2 (hv3.mono (hS2).size)) (fun hS3 => ?_); clear hK K
  refine wpAnyH_take (i := 5) (v := ?_) rfl (by kernel_rfl) (by kernel_rfl) (by kernel_rfl) (fun _ _ _ h => h) (Or.inl ⟨by rfl, ?_⟩) hS3 ?_
  rotate_left
  · intro w1 _; go_simp; with_reducible rfl
  try simp only [List.getElem_toArray, List.getElem_cons_zero, List.getElem_cons_succ, Act.put, List.setIfInBounds_toArray, List.set_cons_zero, List.set_cons_succ]
  refine wpAnyH_take (i := 6) (v := undef) rfl (by kernel_rfl) (by kernel_rfl) (by kernel_rfl) (fun _ _ _ h => h) (Or.inr ⟨by rfl, rfl⟩) hS3 ?_
  try simp only [List.getElem_toArray, List.getElem_cons_zero, List.getElem_cons_succ, Act.put, List.setIfInBounds_toArray, List.set_cons_zero, List.set_cons_succ]
  refine wpAnyH_take (i := 7) (v := undef) rfl (by kernel_rfl) (by kernel_rfl) (by kernel_rfl) (fun _ _ _ h => h) (Or.inr ⟨by rfl, rfl⟩) hS3 ?_
  try simp only [List.getElem_toArray, List.getElem_cons_zero, List.getElem_cons_succ, Act.put, List.setIfInBounds_toArray, List.set_cons_zero, List.set_cons_succ]
  refine wpAnyH_take (i := 8) (v := undef) rfl (by kernel_rfl) (by kernel_rfl) (by kernel_rfl) (fun _ _ _ h => h) (Or.inr ⟨by rfl, rfl⟩) hS3 ?_
  try simp only [List.getElem_toArray, List.getElem_cons_zero, List.getElem_cons_succ, Act.put, List.setIfInBounds_toArray, List.set_cons_zero, List.set_cons_succ]
  refine wpAnyH_take (i := 9) (v := undef) rfl (by kernel_rfl) (by kernel_rfl) (by kernel_rfl) (fun _ _ _ h => h) (Or.inr ⟨by rfl, rfl⟩) hS3 ?_
  try simp only [List.getElem_toArray, List.getElem_cons_zero, List.getElem_cons_succ, Act.put, List.setIfInBounds_toArray, List.set_cons_zero, List.set_cons_succ]
  refine wpAnyH_take (i := 10) (v := undef) rfl (by kernel_rfl) (by kernel_rfl) (by kernel_rfl) (fun _ _ _ h => h) (Or.inr ⟨by rfl, rfl⟩) hS3 ?_
  try simp only [List.getElem_toArray, List.getElem_cons_zero, List.getElem_cons_succ, Act.put, List.setIfInBounds_toArray, List.set_cons_zero, List.set_cons_succ]
  refine wpAnyH_take (i := 11) (v := ?_) rfl (by kernel_rfl) (by kernel_rfl) (by kernel_rfl) (fun _ _ _ h => h) (Or.inl ⟨by rfl, ?_⟩) hS3 ?_
  rotate_left
  · intro w1 _; go_simp; with_reducible rfl
  try simp only [List.getElem_toArray, List.getElem_cons_zero, List.getElem_cons_succ, Act.put, List.setIfInBounds_toArray, List.set_cons_zero, List.set_cons_succ]
  refine wpAnyH_take (i := 12) (v := ?_) rfl (by kernel_rfl) (by kernel_rfl) (by kernel_rfl) (fun _ _ _ h => h) (Or.inl ⟨by rfl, ?_⟩) hS3 ?_
  rotate_left
  · intro w1 _; go_simp; with_reducible rfl
  try simp only [List.getElem_toArray, List.getElem_cons_zero, List.getElem_cons_succ, Act.put, List.setIfInBounds_toArray, List.set_cons_zero, List.set_cons_succ]
  refine wpAnyH_take (i := 13) (v := undef) rfl (by kernel_rfl) (by kernel_rfl) (by kernel_rfl) (fun _ _ _ h => h) (Or.inr ⟨by rfl, rfl⟩) hS3 ?_
  try simp only [List.getElem_toArray, List.getElem_cons_zero, List.getElem_cons_succ, Act.put, List.setIfInBounds_toArray, List.set_cons_zero, List.set_cons_succ]
  refine wpAnyH_take (i := 14) (v := undef) rfl (by kernel_rfl) (by kernel_rfl) (by kernel_rfl) (fun _ _ _ h => h) (Or.inr ⟨by rfl, rfl⟩) hS3 ?_
  try simp only [List.getElem_toArray, List.getElem_cons_zero, List.getElem_cons_succ, Act.put, List.setIfInBounds_toArray, List.set_cons_zero, List.set_cons_succ]
  refine wpAnyH_take (i := 15) (v := undef) rfl (by kernel_rfl) (by kernel_rfl) (by kernel_rfl) (fun _ _ _ h => h) (Or.inr ⟨by rfl, rfl⟩) hS3 ?_
  try simp only [List.getElem_toArray, List.getElem_cons_zero, List.getElem_cons_succ, Act.put, List.setIfInBounds_toArray, List.set_cons_zero, List.set_cons_succ]
  refine wpAnyH_take (i := 16) (v := undef) rfl (by kernel_rfl) (by kernel_rfl) (by kernel_rfl) (fun _ _ _ h => h) (Or.inr ⟨by rfl, rfl⟩) hS3 ?_
  try simp only [List.getElem_toArray, List.getElem_cons_zero, List.getElem_cons_succ, Act.put, List.setIfInBounds_toArray, List.set_cons_zero, List.set_cons_succ]
  refine wpAnyH_take (i := 17) (v := undef) rfl (by kernel_rfl) (by kernel_rfl) (by kernel_rfl) (fun _ _ _ h => h) (Or.inr ⟨by rfl, rfl⟩) hS3 ?_
  try simp only [List.getElem_toArray, List.getElem_cons_zero, List.getElem_cons_succ, Act.put, List.setIfInBounds_toArray, List.set_cons_zero, List.set_cons_succ]
  refine wpAnyH_take (i := 18) (v := ?_) rfl (by kernel_rfl) (by kernel_rfl) (by kernel_rfl) (fun _ _ _ h => h) (Or.inl ⟨by rfl, ?_⟩) hS3 ?_
  rotate_left
  · intro w1 _; go_simp; with_reducible rfl
  try simp only [List.getElem_toArray, List.getElem_cons_zero, List.getElem_cons_succ, Act.put, List.setIfInBounds_toArray, List.set_cons_zero, List.set_cons_succ]
  refine wpAnyH_take (i := 19) (v := ?_) rfl (by kernel_rfl) (by kernel_rfl) (by kernel_rfl) (fun _ _ _ h => h) (Or.inl ⟨by rfl, ?_⟩) hS3 ?_
  rotate_left
  · intro w1 _; go_simp; with_reducible rfl
  try simp only [List.getElem_toArray, List.getElem_cons_zero, List.getElem_cons_succ, Act.put, List.setIfInBounds_toArray, List.set_cons_zero, List.set_cons_succ]
  refine wpAnyH_done (by kernel_rfl) ?_ _
  go_wp2
  go_ret
  exact ⟨rfl, hb0.trans (Below.mono (hS3 : Below W.drew.heap.size W.drew _) hb0.size)⟩

set_option maxRecDepth 100000 in
set_option maxHeartbeats 4000000 in
theorem SameY_1 (a b : Dut) (ha : a.ok) (hb : b.ok) (hsh : ∀ p ∈ a.progs, p.length ≤ 100000) (hmx : a.progs.length ≤ 100000) (_hmx2 : a.starts.length ≤ 100000) (pp ps qp qs : Option Addr) (cp cs dp ds : Nat) (G G' : Nat → Prop) (w : World) (h : DV w G (.slice pp a.progs.length cp) (.slice ps a.starts.length cs) a) (h' : DV w G' (.slice qp b.progs.length dp) (.slice qs b.starts.length ds) b) (h1 : true = true ↔ numsY a = numsY b) (h2 : false = true ↔ a.progs = b.progs) :
    Calls Tryd.prog 8 #[.agg (a.cells (.slice pp a.progs.length cp) (.slice ps a.starts.length cs)), .agg (b.cells (.slice qp b.progs.length dp) (.slice qs b.starts.length ds))] w fun e w' => e = .returned (.bool false) ∧ Below w.heap.size w w' := by
  have hA : Blk ((w.alloc (.cells (a.cells (.slice pp a.progs.length cp) (.slice ps a.starts.length cs)) 27)).alloc (.cells (b.cells (.slice qp b.progs.length dp) (.slice qs b.starts.length ds)) 27)) w.heap.size 27 (a.cells (.slice pp a.progs.length cp) (.slice ps a.starts.length cs)) := (Blk.new w _ _).alloc _
  have hB : Blk ((w.alloc (.cells (a.cells (.slice pp a.progs.length cp) (.slice ps a.starts.length cs)) 27)).alloc (.cells (b.cells (.slice qp b.progs.length dp) (.slice qs b.starts.length ds)) 27)) (w.heap.size + 1) 27 (b.cells (.slice qp b.progs.length dp) (.slice qs b.starts.length ds)) := two_new w _ _ _
  have hbw := below_alloc2 w (.cells (a.cells (.slice pp a.progs.length cp) (.slice ps a.starts.length cs)) 27) (.cells (b.cells (.slice qp b.progs.length dp) (.slice qs b.starts.length ds)) 27)
  have HDa := Lib.hid (h.later hbw)
  have HDb := Lib.hid (h'.later hbw)
  clear h h'
  have H1 := Lib.hid h1
  have H2 := Lib.hid h2
  clear h1 h2
  go_enter Tryd.func8, Tryd.ntmps8
  go_wp2_with (first
    | (refine wpList_box_agg rfl 27 _ rfl (a.cells (.slice pp a.progs.length cp) (.slice ps a.starts.length cs)) rfl ?_)
    | (refine wpList_box_agg rfl 27 _ rfl (b.cells (.slice qp b.progs.length dp) (.slice qs b.starts.length ds)) rfl ?_))
  try simp only [World.size_alloc]
  obtain ⟨W, hW⟩ : ∃ W, W = (w.alloc (.cells (a.cells (.slice pp a.progs.length cp) (.slice ps a.starts.length cs)) 27)).alloc (.cells (b.cells (.slice qp b.progs.length dp) (.slice qs b.starts.length ds)) 27) := ⟨_, rfl⟩
  rw [← hW] at hA hB hbw HDa HDb ⊢
  have hA0 : Blk W.drew w.heap.size 27 (a.cells (.slice pp a.progs.length cp) (.slice ps a.starts.length cs)) := hA
  have hB0 : Blk W.drew (w.heap.size + 1) 27 (b.cells (.slice qp b.progs.length dp) (.slice qs b.starts.length ds)) := hB
  have hb0 : Below w.heap.size w W.drew := hbw.drew
  have hDa := Lib.hid HDa.out.drew
  have hDb := Lib.hid HDb.out.drew
  clear hW hA hB hbw HDa HDb
  refine wp_region_held_drew (S := fun w' => Below W.drew.heap.size W.drew w') (by kernel_rfl) (Below.refl _ _) (fun hS0 => ?_)
  refine wpAnyH_take (i := 0) (v := .agg (a.cells (.slice pp a.progs.length cp) (.slice ps a.starts.length cs))) rfl (by kernel_rfl) (by kernel_rfl) (by kernel_rfl) (fun _ _ _ h => h) (yields_row rfl 27 _ rfl w.heap.size rfl 27 _ (0, 0) _ (fun w1 hS1 => Blk.below hA0 hS1 hA0.lt) Tryd.underlying27 rfl (sizeY _ _ _)) hS0 ?_
  try simp only [List.getElem_toArray, List.getElem_cons_zero, Act.put, List.setIfInBounds_toArray, List.set_cons_zero, List.set_cons_succ]
  refine wpAnyH_take (i := 2) (v := .agg (b.cells (.slice qp b.progs.length dp) (.slice qs b.starts.length ds))) rfl (by kernel_rfl) (by kernel_rfl) (by kernel_rfl) (fun _ _ _ h => h) (yields_row rfl 27 _ rfl (w.heap.size + 1) rfl 27 _ (0, 0) _ (fun w1 hS1 => Blk.below hB0 hS1 hB0.lt) Tryd.underlying27 rfl (sizeY _ _ _)) hS0 ?_
  try simp only [List.getElem_toArray, List.getElem_cons_zero, List.getElem_cons_succ, Act.put, List.setIfInBounds_toArray, List.set_cons_zero, List.set_cons_succ]
  refine wpAnyH_ready (rs := [1]) (by kernel_rfl) (by simp) ?_
  refine AllReadyH.cons rfl (fun K hK => ?_) AllReadyH.nil
  go_simp
  refine (HeadOf_any a ha pp ps _ cp _ cs _).mono ?_
  rintro e v1 ⟨⟨g1, rfl, hg1, _⟩, hv1⟩
  dsimp only
  have hr1 := blk_rv (n := 7) hg1 (numsA_list a) rfl (by decide)
  refine hK.out _ _ (Below.trans hS0 (hv1.mono (hS0).size)) (fun hS1 => ?_); clear hK K
  refine wpAnyH_ready (rs := [3]) (by kernel_rfl) (by simp) ?_
  refine AllReadyH.cons rfl (fun K hK => ?_) AllReadyH.nil
  go_simp
  refine (HeadOf_any b hb qp qs _ dp _ ds _).mono ?_
  rintro e v2 ⟨⟨g2, rfl, hg2, _⟩, hv2⟩
  dsimp only
  have hr1b := RV.below hr1 hv2 (fun k hk _ => hk)
  have hr2 := blk_rv (n := 7) hg2 (numsA_list b) rfl (by decide)
  refine hK.out _ _ (Below.trans hS1 (hv2.mono (hS1).size)) (fun hS2 => ?_); clear hK K
  refine wpAnyH_ready (rs := [4]) (by kernel_rfl) (by simp) ?_
  refine AllReadyH.cons rfl (fun K hK => ?_) AllReadyH.nil
  go_simp
  refine (EqualU_any (some ⟨g1, 0, none⟩) (some ⟨g2, 0, none⟩) 7 7 (numsY a) (numsY b) (by show 7 ≤ 100000; decide) _ _ _ hr1b hr2 true (by first | exact H1.out | simpa using H1.out)).mono ?_
  rintro e v3 ⟨rfl, hv3⟩
  dsimp only
  refine hK.out _ _ (Below.trans hS2 (hv3.mono (hS2).size)) (fun hS3 => ?_); clear hK K
  refine wpAnyH_take (i := 5) (v := ?_) rfl (by kernel_rfl) (by kernel_rfl) (by kernel_rfl) (fun _ _ _ h => h) (Or.inl ⟨by rfl, ?_⟩) hS3 ?_
  rotate_left
  · intro w1 _; go_simp; with_reducible rfl
  try simp only [List.getElem_toArray, List.getElem_cons_zero, List.getElem_cons_succ, Act.put, List.setIfInBounds_toArray, List.set_cons_zero, List.set_cons_succ]
  refine wpAnyH_take (i := 6) (v := ?_) rfl (by kernel_rfl) (by kernel_rfl) (by kernel_rfl) (fun _ _ _ h => h) (Or.inl ⟨by rfl, ?_⟩) hS3 ?_
  rotate_left
  · intro w1 _; go_simp; with_reducible rfl
  try simp only [List.getElem_toArray, List.getElem_cons_zero, List.getElem_cons_succ, Act.put, List.setIfInBounds_toArray, List.set_cons_zero, List.set_cons_succ]
  refine wpAnyH_take (i := 7) (v := .slice pp a.progs.length cp) rfl (by kernel_rfl) (by kernel_rfl) (by kernel_rfl) (fun _ _ _ h => h) (Or.inl ⟨by rfl, fun w1 hS1 => by have h0 : w1.cell? ⟨w.heap.size, 7, none⟩ = some (.slice pp a.progs.length cp) := Blk.cell (Blk.below hA0 hS1 hA0.lt) 7; go_simp⟩) hS3 ?_
  try simp only [List.getElem_toArray, List.getElem_cons_zero, List.getElem_cons_succ, Act.put, List.setIfInBounds_toArray, List.set_cons_zero, List.set_cons_succ]
  refine wpAnyH_take (i := 8) (v := ?_) rfl (by kernel_rfl) (by kernel_rfl) (by kernel_rfl) (fun _ _ _ h => h) (Or.inl ⟨by rfl, ?_⟩) hS3 ?_
  rotate_left
  · intro w1 _; go_simp; with_reducible rfl
  try simp only [List.getElem_toArray, List.getElem_cons_zero, List.getElem_cons_succ, Act.put, List.setIfInBounds_toArray, List.set_cons_zero, List.set_cons_succ]
  refine wpAnyH_take (i := 9) (v := .slice qp b.progs.length dp) rfl (by kernel_rfl) (by kernel_rfl) (by kernel_rfl) (fun _ _ _ h => h) (Or.inl ⟨by rfl, fun w1 hS1 => by have h0 : w1.cell? ⟨w.heap.size + 1, 7, none⟩ = some (.slice qp b.progs.length dp) := Blk.cell (Blk.below hB0 hS1 hB0.lt) 7; go_simp⟩) hS3 ?_
  try simp only [List.getElem_toArray, List.getElem_cons_zero, List.getElem_cons_succ, Act.put, List.setIfInBounds_toArray, List.set_cons_zero, List.set_cons_succ]
  refine wpAnyH_ready (rs := [10]) (by kernel_rfl) (by simp) ?_
  refine AllReadyH.cons rfl (fun K hK => ?_) AllReadyH.nil
  go_simp
  refine (EqualP_any pp qp cp dp a.progs b.progs hmx hsh G G' _ (hDa.out.progs.later hS3) (hDb.out.progs.later hS3) false (by first | exact H2.out | simpa using H2.out)).mono ?_
  rintro e v4 ⟨rfl, hv4⟩
  dsimp only
  refine hK.out _ _ (Below.trans hS3 (hv4.mono (hS3).size)) (fun hS4 => ?_); clear hK K
  refine wpAnyH_take (i := 11) (v := ?_) rfl (by kernel_rfl) (by kernel_rfl) (by kernel_rfl) (fun _ _ _ h => h) (Or.inl ⟨by rfl, ?_⟩) hS4 ?_
  rotate_left
  · intro w1 _; go_simp; with_reducible rfl
  try simp only [List.getElem_toArray, List.getElem_cons_zero, List.getElem_cons_succ, Act.put, List.setIfInBounds_toArray, List.set_cons_zero, List.set_cons_succ]
  refine wpAnyH_take (i := 12) (v := ?_) rfl (by kernel_rfl) (by kernel_rfl) (by kernel_rfl) (fun _ _ _ h => h) (Or.inl ⟨by rfl, ?_⟩) hS4 ?_
  rotate_left
  · intro w1 _; go_simp; with_reducible rfl
  try simp only [List.getElem_toArray, List.getElem_cons_zero, List.getElem_cons_succ, Act.put, List.setIfInBounds_toArray, List.set_cons_zero, List.set_cons_succ]
  refine wpAnyH_take (i := 13) (v := undef) rfl (by kernel_rfl) (by kernel_rfl) (by kernel_rfl) (fun _ _ _ h => h) (Or.inr ⟨by rfl, rfl⟩) hS4 ?_
  try simp only [List.getElem_toArray, List.getElem_cons_zero, List.getElem_cons_succ, Act.put, List.setIfInBounds_toArray, List.set_cons_zero, List.set_cons_succ]
  refine wpAnyH_take (i := 14) (v := undef) rfl (by kernel_rfl) (by kernel_rfl) (by kernel_rfl) (fun _ _ _ h => h) (Or.inr ⟨by rfl, rfl⟩) hS4 ?_
  try simp only [List.getElem_toArray, List.getElem_cons_zero, List.getElem_cons_succ, Act.put, List.setIfInBounds_toArray, List.set_cons_zero, List.set_cons_succ]
  refine wpAnyH_take (i := 15) (v := undef) rfl (by kernel_rfl) (by kernel_rfl) (by kernel_rfl) (fun _ _ _ h => h) (Or.inr ⟨by rfl, rfl⟩) hS4 ?_
  try simp only [List.getElem_toArray, List.getElem_cons_zero, List.getElem_cons_succ, Act.put, List.setIfInBounds_toArray, List.set_cons_zero, List.set_cons_succ]
  refine wpAnyH_take (i := 16) (v := undef) rfl (by kernel_rfl) (by kernel_rfl) (by kernel_rfl) (fun _ _ _ h => h) (Or.inr ⟨by rfl, rfl⟩) hS4 ?_
  try simp only [List.getElem_toArray, List.getElem_cons_zero, List.getElem_cons_succ, Act.put, List.setIfInBounds_toArray, List.set_cons_zero, List.set_cons_succ]
  refine wpAnyH_take (i := 17) (v := undef) rfl (by kernel_rfl) (by kernel_rfl) (by kernel_rfl) (fun _ _ _ h => h) (Or.inr ⟨by rfl, rfl⟩) hS4 ?_
  try simp only [List.getElem_toArray, List.getElem_cons_zero, List.getElem_cons_succ, Act.put, List.setIfInBounds_toArray, List.set_cons_zero, List.set_cons_succ]
  refine wpAnyH_take (i := 18) (v := ?_) rfl (by kernel_rfl) (by kernel_rfl) (by kernel_rfl) (fun _ _ _ h => h) (Or.inl ⟨by rfl, ?_⟩) hS4 ?_
  rotate_left
  · intro w1 _; go_simp; with_reducible rfl
  try simp only [List.getElem_toArray, List.getElem_cons_zero, List.getElem_cons_succ, Act.put, List.setIfInBounds_toArray, List.set_cons_zero, List.set_cons_succ]
  refine wpAnyH_take (i := 19) (v := ?_) rfl (by kernel_rfl) (by kernel_rfl) (by kernel_rfl) (fun _ _ _ h => h) (Or.inl ⟨by rfl, ?_⟩) hS4 ?_
  rotate_left
  · intro w1 _; go_simp; with_reducible rfl
  try simp only [List.getElem_toArray, List.getElem_cons_zero, List.getElem_cons_succ, Act.put, List.setIfInBounds_toArray, List.set_cons_zero, List.set_cons_succ]
  refine wpAnyH_done (by kernel_rfl) ?_ _
  go_wp2
  go_ret
  exact ⟨rfl, hb0.trans (Below.mono (hS4 : Below W.drew.heap.size W.drew _) hb0.size)⟩

set_option maxRecDepth 100000 in
set_option maxHeartbeats 4000000 in
theorem SameY_2 (a b : Dut) (ha : a.ok) (hb : b.ok) (hsh : ∀ p ∈ a.progs, p.length ≤ 100000) (hmx : a.progs.length ≤ 100000) (hmx2 : a.starts.length ≤ 100000) (pp ps qp qs : Option Addr) (cp cs dp ds : Nat) (G G' : Nat → Prop) (w : World) (h : DV w G (.slice pp a.progs.length cp) (.slice ps a.starts.length cs) a) (h' : DV w G' (.slice qp b.progs.length dp) (.slice qs b.starts.length ds) b) (h1 : true = true ↔ numsY a = numsY b) (h2 : true = true ↔ a.progs = b.progs) (R3 : Bool) (h3 : R3 = true ↔ a.starts = b.starts) :
    Calls Tryd.prog 8 #[.agg (a.cells (.slice pp a.progs.length cp) (.slice ps a.starts.length cs)), .agg (b.cells (.slice qp b.progs.length dp) (.slice qs b.starts.length ds))] w fun e w' => e = .returned (.bool R3) ∧ Below w.heap.size w w' := by
  have hA : Blk ((w.alloc (.cells (a.cells (.slice pp a.progs.length cp) (.slice ps a.starts.length cs)) 27)).alloc (.cells (b.cells (.slice qp b.progs.length dp) (.slice qs b.starts.length ds)) 27)) w.heap.size 27 (a.cells (.slice pp a.progs.length cp) (.slice ps a.starts.length cs)) := (Blk.new w _ _).alloc _
  have hB : Blk ((w.alloc (.cells (a.cells (.slice pp a.progs.length cp) (.slice ps a.starts.length cs)) 27)).alloc (.cells (b.cells (.slice qp b.progs.length dp) (.slice qs b.starts.length ds)) 27)) (w.heap.size + 1) 27 (b.cells (.slice qp b.progs.length dp) (.slice qs b.starts.length ds)) := two_new w _ _ _
  have hbw := below_alloc2 w (.cells (a.cells (.slice pp a.progs.length cp) (.slice ps a.starts.length cs)) 27) (.cells (b.cells (.slice qp b.progs.length dp) (.slice qs b.starts.length ds)) 27)
  have HDa := Lib.hid (h.later hbw)
  have HDb := Lib.hid (h'.later hbw)
  clear h h'
  have H1 := Lib.hid h1
  have H2 := Lib.hid h2
  have H3 := Lib.hid h3
  clear h1 h2 h3
  go_enter Tryd.func8, Tryd.ntmps8
  go_wp2_with (first
    | (refine wpList_box_agg rfl 27 _ rfl (a.cells (.slice pp a.progs.length cp) (.slice ps a.starts.length cs)) rfl ?_)
    | (refine wpList_box_agg rfl 27 _ rfl (b.cells (.slice qp b.progs.length dp) (.slice qs b.starts.length ds)) rfl ?_))
  try simp only [World.size_alloc]
  obtain ⟨W, hW⟩ : ∃ W, W = (w.alloc (.cells (a.cells (.slice pp a.progs.length cp) (.slice ps a.starts.length cs)) 27)).alloc (.cells (b.cells (.slice qp b.progs.length dp) (.slice qs b.starts.length ds)) 27) := ⟨_, rfl⟩
  rw [← hW] at hA hB hbw HDa HDb ⊢
  have hA0 : Blk W.drew w.heap.size 27 (a.cells (.slice pp a.progs.length cp) (.slice ps a.starts.length cs)) := hA
  have hB0 : Blk W.drew (w.heap.size + 1) 27 (b.cells (.slice qp b.progs.length dp) (.slice qs b.starts.length ds)) := hB
  have hb0 : Below w.heap.size w W.drew := hbw.drew
  have hDa := Lib.hid HDa.out.drew
  have hDb := Lib.hid HDb.out.drew
  clear hW hA hB hbw HDa HDb
  refine wp_region_held_drew (S := fun w' => Below W.drew.heap.size W.drew w') (by kernel_rfl) (Below.refl _ _) (fun hS0 => ?_)
  refine wpAnyH_take (i := 0) (v := .agg (a.cells (.slice pp a.progs.length cp) (.slice ps a.starts.length cs))) rfl (by kernel_rfl) (by kernel_rfl) (by kernel_rfl) (fun _ _ _ h => h) (yields_row rfl 27 _ rfl w.heap.size rfl 27 _ (0, 0) _ (fun w1 hS1 => Blk.below hA0 hS1 hA0.lt) Tryd.underlying27 rfl (sizeY _ _ _)) hS0 ?_
  try simp only [List.getElem_toArray, List.getElem_cons_zero, Act.put, List.setIfInBounds_toArray, List.set_cons_zero, List.set_cons_succ]
  refine wpAnyH_take (i := 2) (v := .agg (b.cells (.slice qp b.progs.length dp) (.slice qs b.starts.length ds))) rfl (by kernel_rfl) (by kernel_rfl) (by kernel_rfl) (fun _ _ _ h => h) (yields_row rfl 27 _ rfl (w.heap.size + 1) rfl 27 _ (0, 0) _ (fun w1 hS1 => Blk.below hB0 hS1 hB0.lt) Tryd.underlying27 rfl (sizeY _ _ _)) hS0 ?_
  try simp only [List.getElem_toArray, List.getElem_cons_zero, List.getElem_cons_succ, Act.put, List.setIfInBounds_toArray, List.set_cons_zero, List.set_cons_succ]
  refine wpAnyH_ready (rs := [1]) (by kernel_rfl) (by simp) ?_
  refine AllReadyH.cons rfl (fun K hK => ?_) AllReadyH.nil
  go_simp
  refine (HeadOf_any a ha pp ps _ cp _ cs _).mono ?_
  rintro e v1 ⟨⟨g1, rfl, hg1, _⟩, hv1⟩
  dsimp only
  have hr1 := blk_rv (n := 7) hg1 (numsA_list a) rfl (by decide)
  refine hK.out _ _ (Below.trans hS0 (hv1.mono (hS0).size)) (fun hS1 => ?_); clear hK K
  refine wpAnyH_ready (rs := [3]) (by kernel_rfl) (by simp) ?_
  refine AllReadyH.cons rfl (fun K hK => ?_) AllReadyH.nil
  go_simp
  refine (HeadOf_any b hb qp qs _ dp _ ds _).mono ?_
  rintro e v2 ⟨⟨g2, rfl, hg2, _⟩, hv2⟩
  dsimp only
  have hr1b := RV.below hr1 hv2 (fun k hk _ => hk)
  have hr2 := blk_rv (n := 7) hg2 (numsA_list b) rfl (by decide)
  refine hK.out _ _ (Below.trans hS1 (hv2.mono (hS1).size)) (fun hS2 => ?_); clear hK K
  refine wpAnyH_ready (rs := [4]) (by kernel_rfl) (by simp) ?_
  refine AllReadyH.cons rfl (fun K hK => ?_) AllReadyH.nil
  go_simp
  refine (EqualU_any (some ⟨g1, 0, none⟩) (some ⟨g2, 0, none⟩) 7 7 (numsY a) (numsY b) (by show 7 ≤ 100000; decide) _ _ _ hr1b hr2 true (by first | exact H1.out | simpa using H1.out)).mono ?_
  rintro e v3 ⟨rfl, hv3⟩
  dsimp only
  refine hK.out _ _ (Below.trans hS2 (hv3.mono (hS2).size)) (fun hS3 => ?_); clear hK K
  refine wpAnyH_take (i := 5) (v := ?_) rfl (by kernel_rfl) (by kernel_rfl) (by kernel_rfl) (fun _ _ _ h => h) (Or.inl ⟨by rfl, ?_⟩) hS3 ?_
  rotate_left
  · intro w1 _; go_simp; with_reducible rfl
  try simp only [List.getElem_toArray, List.getElem_cons_zero, List.getElem_cons_succ, Act.put, List.setIfInBounds_toArray, List.set_cons_zero, List.set_cons_succ]
  refine wpAnyH_take (i := 6) (v := ?_) rfl (by kernel_rfl) (by kernel_rfl) (by kernel_rfl) (fun _ _ _ h => h) (Or.inl ⟨by rfl, ?_⟩) hS3 ?_
  rotate_left
  · intro w1 _; go_simp; with_reducible rfl
  try simp only [List.getElem_toArray, List.getElem_cons_zero, List.getElem_cons_succ, Act.put, List.setIfInBounds_toArray, List.set_cons_zero, List.set_cons_succ]
  refine wpAnyH_take (i := 7) (v := .slice pp a.progs.length cp) rfl (by kernel_rfl) (by kernel_rfl) (by kernel_rfl) (fun _ _ _ h => h) (Or.inl ⟨by rfl, fun w1 hS1 => by have h0 : w1.cell? ⟨w.heap.size, 7, none⟩ = some (.slice pp a.progs.length cp) := Blk.cell (Blk.below hA0 hS1 hA0.lt) 7; go_simp⟩) hS3 ?_
  try simp only [List.getElem_toArray, List.getElem_cons_zero, List.getElem_cons_succ, Act.put, List.setIfInBounds_toArray, List.set_cons_zero, List.set_cons_succ]
  refine wpAnyH_take (i := 8) (v := ?_) rfl (by kernel_rfl) (by kernel_rfl) (by kernel_rfl) (fun _ _ _ h => h) (Or.inl ⟨by rfl, ?_⟩) hS3 ?_
  rotate_left
  · intro w1 _; go_simp; with_reducible rfl
  try simp only [List.getElem_toArray, List.getElem_cons_zero, List.getElem_cons_succ, Act.put, List.setIfInBounds_toArray, List.set_cons_zero, List.set_cons_succ]
  refine wpAnyH_take (i := 9) (v := .slice qp b.progs.length dp) rfl (by kernel_rfl) (by kernel_rfl) (by kernel_rfl) (fun _ _ _ h => h) (Or.inl ⟨by rfl, fun w1 hS1 => by have h0 : w1.cell? ⟨w.heap.size + 1, 7, none⟩ = some (.slice qp b.progs.length dp) := Blk.cell (Blk.below hB0 hS1 hB0.lt) 7; go_simp⟩) hS3 ?_
  try simp only [List.getElem_toArray, List.getElem_cons_zero, List.getElem_cons_succ, Act.put, List.setIfInBounds_toArray, List.set_cons_zero, List.set_cons_succ]
  refine wpAnyH_ready (rs := [10]) (by kernel_rfl) (by simp) ?_
  refine AllReadyH.cons rfl (fun K hK => ?_) AllReadyH.nil
  go_simp
  refine (EqualP_any pp qp cp dp a.progs b.progs hmx hsh G G' _ (hDa.out.progs.later hS3) (hDb.out.progs.later hS3) true (by first | exact H2.out | simpa using H2.out)).mono ?_
  rintro e v4 ⟨rfl, hv4⟩
  dsimp only
  refine hK.out _ _ (Below.trans hS3 (hv4.mono (hS3).size)) (fun hS4 => ?_); clear hK K
  refine wpAnyH_take (i := 11) (v := ?_) rfl (by kernel_rfl) (by kernel_rfl) (by kernel_rfl) (fun _ _ _ h => h) (Or.inl ⟨by rfl, ?_⟩) hS4 ?_
  rotate_left
  · intro w1 _; go_simp; with_reducible rfl
  try simp only [List.getElem_toArray, List.getElem_cons_zero, List.getElem_cons_succ, Act.put, List.setIfInBounds_toArray, List.set_cons_zero, List.set_cons_succ]
  refine wpAnyH_take (i := 12) (v := ?_) rfl (by kernel_rfl) (by kernel_rfl) (by kernel_rfl) (fun _ _ _ h => h) (Or.inl ⟨by rfl, ?_⟩) hS4 ?_
  rotate_left
  · intro w1 _; go_simp; with_reducible rfl
  try simp only [List.getElem_toArray, List.getElem_cons_zero, List.getElem_cons_succ, Act.put, List.setIfInBounds_toArray, List.set_cons_zero, List.set_cons_succ]
  refine wpAnyH_take (i := 13) (v := ?_) rfl (by kernel_rfl) (by kernel_rfl) (by kernel_rfl) (fun _ _ _ h => h) (Or.inl ⟨by rfl, ?_⟩) hS4 ?_
  rotate_left
  · intro w1 _; go_simp; with_reducible rfl
  try simp only [List.getElem_toArray, List.getElem_cons_zero, List.getElem_cons_succ, Act.put, List.setIfInBounds_toArray, List.set_cons_zero, List.set_cons_succ]
  refine wpAnyH_take (i := 14) (v := .slice ps a.starts.length cs) rfl (by kernel_rfl) (by kernel_rfl) (by kernel_rfl) (fun _ _ _ h => h) (Or.inl ⟨by rfl, fun w1 hS1 => by have h0 : w1.cell? ⟨w.heap.size, 8, none⟩ = some (.slice ps a.starts.length cs) := Blk.cell (Blk.below hA0 hS1 hA0.lt) 8; go_simp⟩) hS4 ?_
  try simp only [List.getElem_toArray, List.getElem_cons_zero, List.getElem_cons_succ, Act.put, List.setIfInBounds_toArray, List.set_cons_zero, List.set_cons_succ]
  refine wpAnyH_take (i := 15) (v := ?_) rfl (by kernel_rfl) (by kernel_rfl) (by kernel_rfl) (fun _ _ _ h => h) (Or.inl ⟨by rfl, ?_⟩) hS4 ?_
  rotate_left
  · intro w1 _; go_simp; with_reducible rfl
  try simp only [List.getElem_toArray, List.getElem_cons_zero, List.getElem_cons_succ, Act.put, List.setIfInBounds_toArray, List.set_cons_zero, List.set_cons_succ]
  refine wpAnyH_take (i := 16) (v := .slice qs b.starts.length ds) rfl (by kernel_rfl) (by kernel_rfl) (by kernel_rfl) (fun _ _ _ h => h) (Or.inl ⟨by rfl, fun w1 hS1 => by have h0 : w1.cell? ⟨w.heap.size + 1, 8, none⟩ = some (.slice qs b.starts.length ds) := Blk.cell (Blk.below hB0 hS1 hB0.lt) 8; go_simp⟩) hS4 ?_
  try simp only [List.getElem_toArray, List.getElem_cons_zero, List.getElem_cons_succ, Act.put, List.setIfInBounds_toArray, List.set_cons_zero, List.set_cons_succ]
  refine wpAnyH_ready (rs := [17]) (by kernel_rfl) (by simp) ?_
  refine AllReadyH.cons rfl (fun K hK => ?_) AllReadyH.nil
  go_simp
  refine (EqualS_any ps qs cs ds a.starts b.starts hmx2 G G' _ (hDa.out.starts.later hS4) (hDb.out.starts.later hS4) R3 (by first | exact H3.out | simpa using H3.out)).mono ?_
  rintro e v5 ⟨rfl, hv5⟩
  dsimp only
  refine hK.out _ _ (Below.trans hS4 (hv5.mono (hS4).size)) (fun hS5 => ?_); clear hK K
  refine wpAnyH_take (i := 18) (v := ?_) rfl (by kernel_rfl) (by kernel_rfl) (by kernel_rfl) (fun _ _ _ h => h) (Or.inl ⟨by rfl, ?_⟩) hS5 ?_
  rotate_left
  · intro w1 _; go_simp; with_reducible rfl
  try simp only [List.getElem_toArray, List.getElem_cons_zero, List.getElem_cons_succ, Act.put, List.setIfInBounds_toArray, List.set_cons_zero, List.set_cons_succ]
  refine wpAnyH_take (i := 19) (v := ?_) rfl (by kernel_rfl) (by kernel_rfl) (by kernel_rfl) (fun _ _ _ h => h) (Or.inl ⟨by rfl, ?_⟩) hS5 ?_
  rotate_left
  · intro w1 _; go_simp; with_reducible rfl
  try simp only [List.getElem_toArray, List.getElem_cons_zero, List.getElem_cons_succ, Act.put, List.setIfInBounds_toArray, List.set_cons_zero, List.set_cons_succ]
  refine wpAnyH_done (by kernel_rfl) ?_ _
  go_wp2
  go_ret
  exact ⟨rfl, hb0.trans (Below.mono (hS5 : Below W.drew.heap.size W.drew _) hb0.size)⟩

theorem SameY_any (a b : Dut) (ha : a.ok) (hb : b.ok) (hsh : ∀ p ∈ a.progs, p.length ≤ 100000) (hmx : a.progs.length ≤ 100000) (hmx2 : a.starts.length ≤ 100000) (vp vs vp' vs' : Value) (G G' : Nat → Prop) (w : World) (h : DV w G vp vs a) (h' : DV w G' vp' vs' b) :
    Calls Tryd.prog 8 #[.agg (a.cells vp vs), .agg (b.cells vp' vs')] w fun e w' => (∃ r : Bool, e = .returned (.bool r) ∧ (r = true ↔ a = b)) ∧ Below w.heap.size w w' := by
  obtain ⟨pp, cp, rfl, _, _⟩ := h.progs.shape
  obtain ⟨ps, cs, rfl, _, _⟩ := h.starts.shape
  obtain ⟨qp, dp, rfl, _, _⟩ := h'.progs.shape
  obtain ⟨qs, ds, rfl, _, _⟩ := h'.starts.shape
  have hno : ∀ {e : Ending} {w' : World}, ¬ a = b → (e = .returned (.bool false) ∧ Below w.heap.size w w') → (∃ r : Bool, e = .returned (.bool r) ∧ (r = true ↔ a = b)) ∧ Below w.heap.size w w' := fun hn hh => ⟨⟨false, hh.1, by simp [hn]⟩, hh.2⟩
  by_cases h1 : numsY a = numsY b
  · by_cases h2 : a.progs = b.progs
    · obtain ⟨r, hr⟩ : ∃ r : Bool, r = true ↔ a.starts = b.starts := by
        by_cases hc : a.starts = b.starts
        · exact ⟨true, by simp [hc]⟩
        · exact ⟨false, by simp [hc]⟩
      refine (SameY_2 a b ha hb hsh hmx hmx2 pp ps qp qs cp cs dp ds G G' w h h' (by simp [h1]) (by simp [h2]) r hr).mono ?_
      rintro e w' ⟨he, hbb⟩
      refine ⟨⟨r, he, ?_⟩, hbb⟩
      rw [hr, ← sameY_iff]
      have := (numsY_inj ha hb).1 h1
      exact ⟨fun h => ⟨this, h2, h⟩, fun h => h.2.2⟩
    · exact (SameY_1 a b ha hb hsh hmx hmx2 pp ps qp qs cp cs dp ds G G' w h h' (by simp [h1]) (by simp [h2])).mono fun _ _ hh => hno (fun e => h2 (by rw [e])) hh
  · exact (SameY_0 a b ha hb hsh hmx hmx2 pp ps qp qs cp cs dp ds G G' w h h' (by simp [h1])).mono fun _ _ hh => hno (fun e => h1 (by rw [e])) hh

end Go.Proofs.YtbdimfcdpkldpaaDoor
