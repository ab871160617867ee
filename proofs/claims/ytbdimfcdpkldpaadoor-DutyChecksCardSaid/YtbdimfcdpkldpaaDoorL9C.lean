/- DutyChecks. -/
import Derived.Test.YtbdimfcdpkldpaaDoorS2
import Derived.Test.YtbdimfcdpkldpaaDoorS3
import Derived.Test.YtbdimfcdpkldpaaDoorZ4
namespace Go.Proofs.YtbdimfcdpkldpaaDoor
open Go.RowKit

set_option maxRecDepth 100000 in
set_option maxHeartbeats 8000000 in
theorem checks_walk (a b : Dut) (ha : a.ok) (hb : b.ok) (va vs vb vt : Value) (c t : Int) (w : World) (h : DV w (fun k => k < w.heap.size) va vs a) (h' : DV w (fun k => k < w.heap.size) vb vt b) (hT : Tabs w) :
    Calls Tryd.prog 3 #[.agg (a.cells va vs), .agg (b.cells vb vt), .int .i64 c, .int .i64 t] w fun e w' => e = .returned (.bool true) ∧ Below w.heap.size w w' := by
  have hb2 := below_alloc2 w (.cells (a.cells va vs) 27) (.cells (b.cells vb vt) 27)
  have hA2 : Blk ((w.alloc (.cells (a.cells va vs) 27)).alloc (.cells (b.cells vb vt) 27)) w.heap.size 27 (a.cells va vs) := (Blk.new w _ _).alloc _
  have hB2 : Blk ((w.alloc (.cells (a.cells va vs) 27)).alloc (.cells (b.cells vb vt) 27)) (w.heap.size + 1) 27 (b.cells vb vt) := two_new w _ _ _
  have hfa := fun W (hW : DV W (fun k => k < w.heap.size) va vs a) (hs : w.heap.size ≤ W.heap.size) => FewY_any a va vs (fun k => k < w.heap.size) W (fun k hk => Nat.lt_of_lt_of_le hk hs) hW
  have hfb := fun W (hW : DV W (fun k => k < w.heap.size) vb vt b) (hs : w.heap.size ≤ W.heap.size) => FewY_any b vb vt (fun k => k < w.heap.size) W (fun k hk => Nat.lt_of_lt_of_le hk hs) hW
  have hDa2 := h.later hb2
  have hDb2 := h'.later hb2
  obtain ⟨hx1, hx2, hx3⟩ := fewY_small a
  have hokX := fewY_ok ha
  have hokY := fewY_ok hb
  generalize fewY a = X at *
  generalize fewY b = Y at *
  have hpl := fun W => PlainY_any c t W
  have hrpl := fun W => RPlainY_any c t W
  have hzd := fun W => zeroDV W (fun k => k < w.heap.size) (plainY c t) rfl rfl
  have hokP := plainY_ok c t
  have hckP := fun W => CheckY_any (plainY c t) hokP _ _ _ W (hzd W)
  rw [plainY_check c t] at hckP
  obtain ⟨P, hP⟩ : ∃ P, plainY c t = P := ⟨_, rfl⟩
  have hpp : P.progs = [] := by rw [← hP]; rfl
  have hps : P.starts = [] := by rw [← hP]; rfl
  rw [hP] at hpl hrpl hckP hokP hzd
  clear hP
  have hsP := fun W => (RSameY_any P P hokP hokP (by rw [hpp]; exact (fun p hp => nomatch hp)) (by rw [hpp]; decide) (by rw [hps]; decide) _ _ _ _ _ _ W (hzd W) (hzd W)).mono (fun e w' (hh : (∃ r : Bool, e = .returned (.bool r) ∧ (r = true ↔ P = P)) ∧ Below W.heap.size W w') => (by
      obtain ⟨⟨r, he, hr⟩, hb⟩ := hh
      rw [hr.2 rfl] at he
      exact (⟨he, hb⟩ : e = .returned (.bool true) ∧ Below W.heap.size W w')))
  clear hzd hpp hps hokP
  obtain ⟨R, hR⟩ : ∃ R : Bool, R = true ↔ X = Y := by
    by_cases hc : X = Y
    · exact ⟨true, by simp [hc]⟩
    · exact ⟨false, by simp [hc]⟩
  have hl3 : ∀ p ∈ X.progs, p.length ≤ 100000 := fun p hp => by have := hx3 p hp; omega
  have hl1 : X.progs.length ≤ 100000 := by omega
  have hl2 : X.starts.length ≤ 100000 := by omega
  clear hx1 hx2 hx3
  have hsm := fun W (G G' : Nat → Prop) v1 v2 v3 v4 (h1 : DV W G v1 v2 X) (h2 : DV W G' v3 v4 Y) => (SameY_any X Y hokX hokY hl3 hl1 hl2 v1 v2 v3 v4 G G' W h1 h2).mono (fun e w' (hh : (∃ r : Bool, e = .returned (.bool r) ∧ (r = true ↔ X = Y)) ∧ Below W.heap.size W w') => (by
      obtain ⟨⟨r, he, hr⟩, hb⟩ := hh
      rw [show r = R from Bool.eq_iff_iff.2 (hr.trans hR.symm)] at he
      exact (⟨he, hb⟩ : e = .returned (.bool R) ∧ Below W.heap.size W w')))
  have hrsm := fun W (G G' : Nat → Prop) v1 v2 v3 v4 (h1 : DV W G v1 v2 X) (h2 : DV W G' v3 v4 Y) => (RSameY_any X Y hokX hokY hl3 hl1 hl2 v1 v2 v3 v4 G G' W h1 h2).mono (fun e w' (hh : (∃ r : Bool, e = .returned (.bool r) ∧ (r = true ↔ X = Y)) ∧ Below W.heap.size W w') => (by
      obtain ⟨⟨r, he, hr⟩, hb⟩ := hh
      rw [show r = R from Bool.eq_iff_iff.2 (hr.trans hR.symm)] at he
      exact (⟨he, hb⟩ : e = .returned (.bool R) ∧ Below W.heap.size W w')))
  have hss := fun W (G : Nat → Prop) v1 v2 (h1 : DV W G v1 v2 X) => (SameY_any X X hokX hokX hl3 hl1 hl2 v1 v2 v1 v2 G G W h1 h1).mono (fun e w' (hh : (∃ r : Bool, e = .returned (.bool r) ∧ (r = true ↔ X = X)) ∧ Below W.heap.size W w') => (by
      obtain ⟨⟨r, he, hr⟩, hb⟩ := hh
      rw [hr.2 rfl] at he
      exact (⟨he, hb⟩ : e = .returned (.bool true) ∧ Below W.heap.size W w')))
  have hck := fun W (G : Nat → Prop) v1 v2 (h1 : DV W G v1 v2 X) => CheckY_any X hokX v1 v2 G W h1
  have hrck := fun W (G : Nat → Prop) v1 v2 (h1 : DV W G v1 v2 X) => RCheckY_any X hokX v1 v2 G W h1
  generalize checkY X = CK at *
  have HL0 := Lib.hid hl1
  have HTB := Lib.hid hT
  have HGa : Hid (∀ k, (k < w.heap.size ∨ ((w.alloc (.cells (a.cells va vs) 27)).alloc (.cells (b.cells vb vt) 27)).heap.size + 2 ≤ k) → ¬ k = w.heap.size) := Lib.hid (fun k hk e => by simp at hk; omega)
  have HGb : Hid (∀ k, (k < w.heap.size ∨ ((w.alloc (.cells (a.cells va vs) 27)).alloc (.cells (b.cells vb vt) 27)).heap.size + 2 ≤ k) → ¬ k = w.heap.size + 1) := Lib.hid (fun k hk e => by simp at hk; omega)
  have HGc : Hid (∀ k, k < w.heap.size → ¬ k = w.heap.size) := Lib.hid (fun k hk e => by omega)
  have HGd : Hid (∀ k B, w.heap.size + 2 ≤ B → (k < w.heap.size ∨ B + 2 ≤ k) → ¬ k = w.heap.size + 1) := Lib.hid (fun k B hB hk e => by omega)
  have HSZ : Hid (w.heap.size + 2 ≤ ((w.alloc (.cells (a.cells va vs) 27)).alloc (.cells (b.cells vb vt) 27)).heap.size) := Lib.hid (by simp)
  clear h h' hT ha hb hokX hokY hR hl1 hl2 hl3
  go_enter Tryd.func3, Tryd.ntmps3
  go_wp2_with (first
    | (refine wpList_box_agg rfl 27 _ rfl (a.cells va vs) rfl ?_)
    | (refine wpList_box_agg rfl 27 _ rfl (b.cells vb vt) rfl ?_)
    | (refine wpList_load_row rfl 27 _ rfl w.heap.size rfl 27 _ (0, 0) _ hA2 Tryd.underlying27 rfl (sizeY _ _ _) ?_)
    | (go_at_call 4; (with_reducible refine (hfa _ hDa2 hb2.size).mono ?_); clear hfa; rintro e w1 ⟨⟨vp1, vs1, rfl, hX1⟩, hb1⟩; have hA1 := hA2.below hb1 hA2.lt; have hB1 := hB2.below hb1 hB2.lt; have hDb1 := hDb2.later hb1; have hb01 := below_pre hb2 hb1; obtain ⟨pp, cp, rfl, _, _⟩ := hX1.progs.shape; obtain ⟨ps, cs, rfl, _, _⟩ := hX1.starts.shape; have hA3 := hA1.row (X.cells (.slice pp X.progs.length cp) (.slice ps X.starts.length cs)); have hf3 := foot_setRow w1 w.heap.size (X.cells (.slice pp X.progs.length cp) (.slice ps X.starts.length cs)); have hB3 := Blk.foot hB1 hf3 (by omega); have hX3 := DV.foot hX1 hf3 HGa.out; have hDb3 := DV.foot hDb1 hf3 HGc.out; have hb3 := hb01.trans (foot_row (w := w1) (X.cells (.slice pp X.progs.length cp) (.slice ps X.starts.length cs)) (Nat.le_refl w.heap.size)); have hsz3 := Lib.hid (Nat.le_trans HSZ.out (Nat.le_trans hb1.size hf3.size)); clear hX1 hf3 hDb1 hb01)
    | (refine wpList_store_row rfl 27 _ _ rfl w.heap.size (X.cells (.slice pp X.progs.length cp) (.slice ps X.starts.length cs)) rfl rfl 27 _ hA1 (sizeY _ _ _) rfl (oneY _ _ _ _ _ _ _) ?_)
    | (refine wpList_load_row rfl 27 _ rfl (w.heap.size + 1) rfl 27 _ (0, 0) _ hB3 Tryd.underlying27 rfl (sizeY _ _ _) ?_)
    | (go_at_call 4; (with_reducible refine (hfb _ hDb3 hb3.size).mono ?_); clear hfb; rintro e w4 ⟨⟨vp4, vs4, rfl, hY4⟩, hb4⟩; have hA4 := hA3.below hb4 hA3.lt; have hB4 := hB3.below hb4 hB3.lt; have hX4 := hX3.later hb4; have hb04 := below_pre hb3 hb4; obtain ⟨qp, dp, rfl, _, _⟩ := hY4.progs.shape; obtain ⟨qs, ds, rfl, _, _⟩ := hY4.starts.shape; have hB5 := hB4.row (Y.cells (.slice qp Y.progs.length dp) (.slice qs Y.starts.length ds)); have hf5 := foot_setRow w4 (w.heap.size + 1) (Y.cells (.slice qp Y.progs.length dp) (.slice qs Y.starts.length ds)); have hA5 := Blk.foot hA4 hf5 (by omega); have hX5 := DV.foot hX4 hf5 HGb.out; have hY5 := DV.foot hY4 hf5 (fun k hk => HGd.out k _ hsz3.out hk); have hb5 := hb04.trans (foot_row (w := w4) (Y.cells (.slice qp Y.progs.length dp) (.slice qs Y.starts.length ds)) (by omega : w.heap.size ≤ w.heap.size + 1)); clear hX4 hY4 hf5 hb04)
    | (refine wpList_store_row rfl 27 _ _ rfl (w.heap.size + 1) (Y.cells (.slice qp Y.progs.length dp) (.slice qs Y.starts.length ds)) rfl rfl 27 _ hB4 (sizeY _ _ _) rfl (oneY _ _ _ _ _ _ _) ?_)
    | (go_at_call 5; (with_reducible refine (hpl _).mono ?_); clear hpl; rintro e w6 ⟨rfl, hb6⟩; have hA6 := hA5.below hb6 hA5.lt; have hB6 := hB5.below hb6 hB5.lt; have hX6 := hX5.later hb6; have hY6 := hY5.later hb6; have hb06 := below_pre hb5 hb6; have ha7 := below_alloc1 w6 (.cells (P.cells (.slice none 0 0) (.slice none 0 0)) 27); have hA7 := hA6.below ha7 hA6.lt; have hB7 := hB6.below ha7 hB6.lt; have hX7 := hX6.later ha7; have hY7 := hY6.later ha7; have hb07 := below_pre hb06 ha7; have hN7 := Blk.new w6 27 (P.cells (.slice none 0 0) (.slice none 0 0)))
    | (refine wpList_alloc_agg rfl 27 rfl (zeroY.cells (.slice none 0 0) (.slice none 0 0)) zeroYR ?_)
    | (refine wpList_store_row rfl 27 _ _ rfl w6.heap.size (P.cells (.slice none 0 0) (.slice none 0 0)) rfl rfl 27 _ (heap_alloc_new w6 _) (sizeY _ _ _) rfl (oneY _ _ _ _ _ _ _) ?_; rw [World.setRow_alloc_new]))
  try simp only [World.size_alloc]
  obtain ⟨W, hW⟩ : ∃ W, W = w6.alloc (.cells (P.cells (.slice none 0 0) (.slice none 0 0)) 27) := ⟨_, rfl⟩
  rw [← hW] at hA7 hB7 hN7 hX7 hY7 hb07 ⊢
  have hA0 : Blk W.drew w.heap.size 27 (X.cells (.slice pp X.progs.length cp) (.slice ps X.starts.length cs)) := hA7
  have hB0 : Blk W.drew (w.heap.size + 1) 27 (Y.cells (.slice qp Y.progs.length dp) (.slice qs Y.starts.length ds)) := hB7
  have hN0 : Blk W.drew w6.heap.size 27 (P.cells (.slice none 0 0) (.slice none 0 0)) := hN7
  have hDX := Lib.hid hX7.drew
  have hDY := Lib.hid hY7.drew
  have hb0 : Below w.heap.size w W.drew := hb07.drew
  clear hW hA7 hB7 hN7 hX7 hY7 hb07 ha7 hA6 hB6 hX6 hY6 hb06 hA5 hB5 hX5 hY5 hb5 hb6 hA4 hB4 hb4 hA3 hB3 hX3 hDb3 hb3 hA1 hB1 hb1 hA2 hB2 hDa2 hDb2 hb2 HGa HGb HGc HGd HSZ hsz3
  refine wp_region_held_drew (S := fun w' => Below W.drew.heap.size W.drew w') (by kernel_rfl) (Below.refl _ _) (fun hS0 => ?_)
  refine wpAnyH_take (i := 0) (v := .agg (X.cells (.slice pp X.progs.length cp) (.slice ps X.starts.length cs))) rfl (by kernel_rfl) (by kernel_rfl) (by kernel_rfl) (fun _ _ _ h => h) (yields_row (by rfl) 27 _ rfl w.heap.size rfl 27 _ (0, 0) _ (fun w1 hS1 => Blk.below hA0 hS1 hA0.lt) Tryd.underlying27 rfl (sizeY _ _ _)) hS0 ?_
  try simp only [List.getElem_toArray, List.getElem_cons_zero, Act.put, List.setIfInBounds_toArray, List.set_cons_zero, List.set_cons_succ]
  refine wpAnyH_take (i := 2) (v := .agg (X.cells (.slice pp X.progs.length cp) (.slice ps X.starts.length cs))) rfl (by kernel_rfl) (by kernel_rfl) (by kernel_rfl) (fun _ _ _ h => h) (yields_row (by rfl) 27 _ rfl w.heap.size rfl 27 _ (0, 0) _ (fun w1 hS1 => Blk.below hA0 hS1 hA0.lt) Tryd.underlying27 rfl (sizeY _ _ _)) hS0 ?_
  try simp only [List.getElem_toArray, List.getElem_cons_zero, List.getElem_cons_succ, Act.put, List.setIfInBounds_toArray, List.set_cons_zero, List.set_cons_succ]
  refine wpAnyH_ready (rs := [1]) (by kernel_rfl) (by simp) ?_
  refine AllReadyH.cons rfl (fun K hK => ?_) AllReadyH.nil
  go_simp
  refine (hck _ _ _ _ (hDX.out.later hS0)).mono ?_
  rintro e v1 ⟨rfl, hv1⟩
  dsimp only
  refine hK.out _ _ (Below.trans hS0 (hv1.mono (hS0).size)) (fun hS1 => ?_); clear hK K
  refine wpAnyH_ready (rs := [3]) (by kernel_rfl) (by simp) ?_
  refine AllReadyH.cons rfl (fun K hK => ?_) AllReadyH.nil
  go_simp
  refine (hrck _ _ _ _ (hDX.out.later hS1)).mono ?_
  rintro e v2 ⟨rfl, hv2⟩
  dsimp only
  refine hK.out _ _ (Below.trans hS1 (hv2.mono (hS1).size)) (fun hS2 => ?_); clear hK K
  refine wpAnyH_take (i := 4) (v := .bool false) rfl (by kernel_rfl) (by kernel_rfl) (by kernel_rfl) (fun _ _ _ h => h) (Or.inl ⟨by rfl, fun w1 hS1 => by first | (go_simp; done) | (go_simp; simp)⟩) hS2 ?_
  try simp only [List.getElem_toArray, List.getElem_cons_zero, List.getElem_cons_succ, Act.put, List.setIfInBounds_toArray, List.set_cons_zero, List.set_cons_succ]
  refine wpAnyH_take (i := 5) (v := ?_) rfl (by kernel_rfl) (by kernel_rfl) (by kernel_rfl) (fun _ _ _ h => h) (Or.inl ⟨by rfl, ?_⟩) hS2 ?_
  rotate_left
  · intro w1 _; go_simp; with_reducible rfl
  try simp only [List.getElem_toArray, List.getElem_cons_zero, List.getElem_cons_succ, Act.put, List.setIfInBounds_toArray, List.set_cons_zero, List.set_cons_succ]
  refine wpAnyH_take (i := 6) (v := .agg (X.cells (.slice pp X.progs.length cp) (.slice ps X.starts.length cs))) rfl (by kernel_rfl) (by kernel_rfl) (by kernel_rfl) (fun _ _ _ h => h) (yields_row (by rfl) 27 _ rfl w.heap.size rfl 27 _ (0, 0) _ (fun w1 hS1 => Blk.below hA0 hS1 hA0.lt) Tryd.underlying27 rfl (sizeY _ _ _)) hS2 ?_
  try simp only [List.getElem_toArray, List.getElem_cons_zero, List.getElem_cons_succ, Act.put, List.setIfInBounds_toArray, List.set_cons_zero, List.set_cons_succ]
  refine wpAnyH_take (i := 7) (v := .agg (Y.cells (.slice qp Y.progs.length dp) (.slice qs Y.starts.length ds))) rfl (by kernel_rfl) (by kernel_rfl) (by kernel_rfl) (fun _ _ _ h => h) (yields_row (by rfl) 27 _ rfl (w.heap.size + 1) rfl 27 _ (0, 0) _ (fun w1 hS1 => Blk.below hB0 hS1 hB0.lt) Tryd.underlying27 rfl (sizeY _ _ _)) hS2 ?_
  try simp only [List.getElem_toArray, List.getElem_cons_zero, List.getElem_cons_succ, Act.put, List.setIfInBounds_toArray, List.set_cons_zero, List.set_cons_succ]
  refine wpAnyH_take (i := 9) (v := .agg (X.cells (.slice pp X.progs.length cp) (.slice ps X.starts.length cs))) rfl (by kernel_rfl) (by kernel_rfl) (by kernel_rfl) (fun _ _ _ h => h) (yields_row (by rfl) 27 _ rfl w.heap.size rfl 27 _ (0, 0) _ (fun w1 hS1 => Blk.below hA0 hS1 hA0.lt) Tryd.underlying27 rfl (sizeY _ _ _)) hS2 ?_
  try simp only [List.getElem_toArray, List.getElem_cons_zero, List.getElem_cons_succ, Act.put, List.setIfInBounds_toArray, List.set_cons_zero, List.set_cons_succ]
  refine wpAnyH_take (i := 10) (v := .agg (Y.cells (.slice qp Y.progs.length dp) (.slice qs Y.starts.length ds))) rfl (by kernel_rfl) (by kernel_rfl) (by kernel_rfl) (fun _ _ _ h => h) (yields_row (by rfl) 27 _ rfl (w.heap.size + 1) rfl 27 _ (0, 0) _ (fun w1 hS1 => Blk.below hB0 hS1 hB0.lt) Tryd.underlying27 rfl (sizeY _ _ _)) hS2 ?_
  try simp only [List.getElem_toArray, List.getElem_cons_zero, List.getElem_cons_succ, Act.put, List.setIfInBounds_toArray, List.set_cons_zero, List.set_cons_succ]
  refine wpAnyH_ready (rs := [8]) (by kernel_rfl) (by simp) ?_
  refine AllReadyH.cons rfl (fun K hK => ?_) AllReadyH.nil
  go_simp
  refine (hsm _ _ _ _ _ _ _ (hDX.out.later hS2) (hDY.out.later hS2)).mono ?_
  rintro e v3 ⟨rfl, hv3⟩
  dsimp only
  refine hK.out _ _ (Below.trans hS2 (hv3.mono (hS2).size)) (fun hS3 => ?_); clear hK K
  refine wpAnyH_ready (rs := [11]) (by kernel_rfl) (by simp) ?_
  refine AllReadyH.cons rfl (fun K hK => ?_) AllReadyH.nil
  go_simp
  refine (hrsm _ _ _ _ _ _ _ (hDX.out.later hS3) (hDY.out.later hS3)).mono ?_
  rintro e v4 ⟨rfl, hv4⟩
  dsimp only
  refine hK.out _ _ (Below.trans hS3 (hv4.mono (hS3).size)) (fun hS4 => ?_); clear hK K
  refine wpAnyH_take (i := 12) (v := .bool false) rfl (by kernel_rfl) (by kernel_rfl) (by kernel_rfl) (fun _ _ _ h => h) (Or.inl ⟨by rfl, fun w1 hS1 => by first | (go_simp; done) | (go_simp; simp)⟩) hS4 ?_
  try simp only [List.getElem_toArray, List.getElem_cons_zero, List.getElem_cons_succ, Act.put, List.setIfInBounds_toArray, List.set_cons_zero, List.set_cons_succ]
  refine wpAnyH_take (i := 13) (v := ?_) rfl (by kernel_rfl) (by kernel_rfl) (by kernel_rfl) (fun _ _ _ h => h) (Or.inl ⟨by rfl, ?_⟩) hS4 ?_
  rotate_left
  · intro w1 _; go_simp; with_reducible rfl
  try simp only [List.getElem_toArray, List.getElem_cons_zero, List.getElem_cons_succ, Act.put, List.setIfInBounds_toArray, List.set_cons_zero, List.set_cons_succ]
  refine wpAnyH_take (i := 14) (v := ?_) rfl (by kernel_rfl) (by kernel_rfl) (by kernel_rfl) (fun _ _ _ h => h) (Or.inl ⟨by rfl, ?_⟩) hS4 ?_
  rotate_left
  · intro w1 _; go_simp; with_reducible rfl
  try simp only [List.getElem_toArray, List.getElem_cons_zero, List.getElem_cons_succ, Act.put, List.setIfInBounds_toArray, List.set_cons_zero, List.set_cons_succ]
  refine wpAnyH_take (i := 15) (v := .agg (X.cells (.slice pp X.progs.length cp) (.slice ps X.starts.length cs))) rfl (by kernel_rfl) (by kernel_rfl) (by kernel_rfl) (fun _ _ _ h => h) (yields_row (by rfl) 27 _ rfl w.heap.size rfl 27 _ (0, 0) _ (fun w1 hS1 => Blk.below hA0 hS1 hA0.lt) Tryd.underlying27 rfl (sizeY _ _ _)) hS4 ?_
  try simp only [List.getElem_toArray, List.getElem_cons_zero, List.getElem_cons_succ, Act.put, List.setIfInBounds_toArray, List.set_cons_zero, List.set_cons_succ]
  refine wpAnyH_take (i := 16) (v := .agg (X.cells (.slice pp X.progs.length cp) (.slice ps X.starts.length cs))) rfl (by kernel_rfl) (by kernel_rfl) (by kernel_rfl) (fun _ _ _ h => h) (yields_row (by rfl) 27 _ rfl w.heap.size rfl 27 _ (0, 0) _ (fun w1 hS1 => Blk.below hA0 hS1 hA0.lt) Tryd.underlying27 rfl (sizeY _ _ _)) hS4 ?_
  try simp only [List.getElem_toArray, List.getElem_cons_zero, List.getElem_cons_succ, Act.put, List.setIfInBounds_toArray, List.set_cons_zero, List.set_cons_succ]
  refine wpAnyH_ready (rs := [17]) (by kernel_rfl) (by simp) ?_
  refine AllReadyH.cons rfl (fun K hK => ?_) AllReadyH.nil
  go_simp
  refine (hss _ _ _ _ (hDX.out.later hS4)).mono ?_
  rintro e v5 ⟨rfl, hv5⟩
  dsimp only
  refine hK.out _ _ (Below.trans hS4 (hv5.mono (hS4).size)) (fun hS5 => ?_); clear hK K
  refine wpAnyH_take (i := 18) (v := ?_) rfl (by kernel_rfl) (by kernel_rfl) (by kernel_rfl) (fun _ _ _ h => h) (Or.inl ⟨by rfl, ?_⟩) hS5 ?_
  rotate_left
  · intro w1 _; go_simp; with_reducible rfl
  try simp only [List.getElem_toArray, List.getElem_cons_zero, List.getElem_cons_succ, Act.put, List.setIfInBounds_toArray, List.set_cons_zero, List.set_cons_succ]
  refine wpAnyH_take (i := 19) (v := ?_) rfl (by kernel_rfl) (by kernel_rfl) (by kernel_rfl) (fun _ _ _ h => h) (Or.inl ⟨by rfl, ?_⟩) hS5 ?_
  rotate_left
  · intro w1 _; go_simp; with_reducible rfl
  try simp only [List.getElem_toArray, List.getElem_cons_zero, List.getElem_cons_succ, Act.put, List.setIfInBounds_toArray, List.set_cons_zero, List.set_cons_succ]
  refine wpAnyH_take (i := 20) (v := ?_) rfl (by kernel_rfl) (by kernel_rfl) (by kernel_rfl) (fun _ _ _ h => h) (Or.inl ⟨by rfl, ?_⟩) hS5 ?_
  rotate_left
  · intro w1 _; go_simp; with_reducible rfl
  try simp only [List.getElem_toArray, List.getElem_cons_zero, List.getElem_cons_succ, Act.put, List.setIfInBounds_toArray, List.set_cons_zero, List.set_cons_succ]
  refine wpAnyH_ready (rs := [21]) (by kernel_rfl) (by simp) ?_
  refine AllReadyH.cons rfl (fun K hK => ?_) AllReadyH.nil
  go_simp
  refine (awakeY_any _ (HTB.out.below (hb0.trans (Below.mono hS5 hb0.size)) (Nat.le_refl _))).mono ?_
  rintro e v6 ⟨rfl, hv6⟩
  dsimp only
  refine hK.out _ _ (Below.trans hS5 (hv6.mono (hS5).size)) (fun hS6 => ?_); clear hK K
  refine wpAnyH_take (i := 22) (v := ?_) rfl (by kernel_rfl) (by kernel_rfl) (by kernel_rfl) (fun _ _ _ h => h) (Or.inl ⟨by rfl, ?_⟩) hS6 ?_
  rotate_left
  · intro w1 _; go_simp; with_reducible rfl
  try simp only [List.getElem_toArray, List.getElem_cons_zero, List.getElem_cons_succ, Act.put, List.setIfInBounds_toArray, List.set_cons_zero, List.set_cons_succ]
  refine wpAnyH_take (i := 23) (v := ?_) rfl (by kernel_rfl) (by kernel_rfl) (by kernel_rfl) (fun _ _ _ h => h) (Or.inl ⟨by rfl, ?_⟩) hS6 ?_
  rotate_left
  · intro w1 _; go_simp; with_reducible rfl
  try simp only [List.getElem_toArray, List.getElem_cons_zero, List.getElem_cons_succ, Act.put, List.setIfInBounds_toArray, List.set_cons_zero, List.set_cons_succ]
  refine wpAnyH_done (by kernel_rfl) ?_ _
  go_wp2
  have hN1 : Blk v6.drew w6.heap.size 27 (P.cells (.slice none 0 0) (.slice none 0 0)) := (Blk.below hN0 hS6 hN0.lt : Blk v6 w6.heap.size 27 (P.cells (.slice none 0 0) (.slice none 0 0)))
  have hbV : Below w.heap.size w v6.drew := (hb0.trans (Below.mono (hS6 : Below W.drew.heap.size W.drew _) hb0.size)).drew
  clear hA0 hB0 hN0 hDX hDY hS0 hS1 hS2 hS3 hS4 hS5 hS6 hv1 hv2 hv3 hv4 hv5 hv6 hb0
  refine wp_region_held_drew (S := fun w' => Below v6.drew.heap.size v6.drew w') (by kernel_rfl) (Below.refl _ _) (fun hT0 => ?_)
  refine wpAnyH_take (i := 0) (v := .agg (P.cells (.slice none 0 0) (.slice none 0 0))) rfl (by kernel_rfl) (by kernel_rfl) (by kernel_rfl) (fun _ _ _ h => h) (yields_row (by rfl) 27 _ rfl w6.heap.size rfl 27 _ (0, 0) _ (fun w1 hT1 => Blk.below hN1 hT1 hN1.lt) Tryd.underlying27 rfl (sizeY _ _ _)) hT0 ?_
  try simp only [List.getElem_toArray, List.getElem_cons_zero, Act.put, List.setIfInBounds_toArray, List.set_cons_zero, List.set_cons_succ]
  refine wpAnyH_take (i := 1) (v := ?_) rfl (by kernel_rfl) (by kernel_rfl) (by kernel_rfl) (fun _ _ _ h => h) (Or.inl ⟨by rfl, ?_⟩) hT0 ?_
  rotate_left
  · intro w1 _; go_simp; with_reducible rfl
  try simp only [List.getElem_toArray, List.getElem_cons_zero, List.getElem_cons_succ, Act.put, List.setIfInBounds_toArray, List.set_cons_zero, List.set_cons_succ]
  refine wpAnyH_take (i := 2) (v := ?_) rfl (by kernel_rfl) (by kernel_rfl) (by kernel_rfl) (fun _ _ _ h => h) (Or.inl ⟨by rfl, ?_⟩) hT0 ?_
  rotate_left
  · intro w1 _; go_simp; with_reducible rfl
  try simp only [List.getElem_toArray, List.getElem_cons_zero, List.getElem_cons_succ, Act.put, List.setIfInBounds_toArray, List.set_cons_zero, List.set_cons_succ]
  refine wpAnyH_ready (rs := [3]) (by kernel_rfl) (by simp) ?_
  refine AllReadyH.cons rfl (fun K hK => ?_) AllReadyH.nil
  go_simp
  refine (hrpl _).mono ?_
  rintro e v7 ⟨rfl, hv7⟩
  dsimp only
  refine hK.out _ _ (Below.trans hT0 (hv7.mono (hT0).size)) (fun hT1 => ?_); clear hK K
  refine wpAnyH_ready (rs := [4]) (by kernel_rfl) (by simp) ?_
  refine AllReadyH.cons rfl (fun K hK => ?_) AllReadyH.nil
  go_simp
  refine (hsP _).mono ?_
  rintro e v8 ⟨rfl, hv8⟩
  dsimp only
  refine hK.out _ _ (Below.trans hT1 (hv8.mono (hT1).size)) (fun hT2 => ?_); clear hK K
  refine wpAnyH_take (i := 5) (v := ?_) rfl (by kernel_rfl) (by kernel_rfl) (by kernel_rfl) (fun _ _ _ h => h) (Or.inl ⟨by rfl, ?_⟩) hT2 ?_
  rotate_left
  · intro w1 _; go_simp; with_reducible rfl
  try simp only [List.getElem_toArray, List.getElem_cons_zero, List.getElem_cons_succ, Act.put, List.setIfInBounds_toArray, List.set_cons_zero, List.set_cons_succ]
  refine wpAnyH_take (i := 6) (v := .agg (P.cells (.slice none 0 0) (.slice none 0 0))) rfl (by kernel_rfl) (by kernel_rfl) (by kernel_rfl) (fun _ _ _ h => h) (yields_row (by rfl) 27 _ rfl w6.heap.size rfl 27 _ (0, 0) _ (fun w1 hT1 => Blk.below hN1 hT1 hN1.lt) Tryd.underlying27 rfl (sizeY _ _ _)) hT2 ?_
  try simp only [List.getElem_toArray, List.getElem_cons_zero, List.getElem_cons_succ, Act.put, List.setIfInBounds_toArray, List.set_cons_zero, List.set_cons_succ]
  refine wpAnyH_ready (rs := [7]) (by kernel_rfl) (by simp) ?_
  refine AllReadyH.cons rfl (fun K hK => ?_) AllReadyH.nil
  go_simp
  refine (hckP _).mono ?_
  rintro e v9 ⟨rfl, hv9⟩
  dsimp only
  refine hK.out _ _ (Below.trans hT2 (hv9.mono (hT2).size)) (fun hT3 => ?_); clear hK K
  refine wpAnyH_take (i := 8) (v := ?_) rfl (by kernel_rfl) (by kernel_rfl) (by kernel_rfl) (fun _ _ _ h => h) (Or.inl ⟨by rfl, ?_⟩) hT3 ?_
  rotate_left
  · intro w1 _; go_simp; with_reducible rfl
  try simp only [List.getElem_toArray, List.getElem_cons_zero, List.getElem_cons_succ, Act.put, List.setIfInBounds_toArray, List.set_cons_zero, List.set_cons_succ]
  refine wpAnyH_take (i := 9) (v := ?_) rfl (by kernel_rfl) (by kernel_rfl) (by kernel_rfl) (fun _ _ _ h => h) (Or.inl ⟨by rfl, ?_⟩) hT3 ?_
  rotate_left
  · intro w1 _; go_simp; with_reducible rfl
  try simp only [List.getElem_toArray, List.getElem_cons_zero, List.getElem_cons_succ, Act.put, List.setIfInBounds_toArray, List.set_cons_zero, List.set_cons_succ]
  refine wpAnyH_take (i := 10) (v := ?_) rfl (by kernel_rfl) (by kernel_rfl) (by kernel_rfl) (fun _ _ _ h => h) (Or.inl ⟨by rfl, ?_⟩) hT3 ?_
  rotate_left
  · intro w1 _; go_simp; with_reducible rfl
  try simp only [List.getElem_toArray, List.getElem_cons_zero, List.getElem_cons_succ, Act.put, List.setIfInBounds_toArray, List.set_cons_zero, List.set_cons_succ]
  refine wpAnyH_done (by kernel_rfl) ?_ _
  go_wp2
  go_ret
  exact ⟨rfl, hbV.trans (Below.mono (hT3 : Below v6.drew.heap.size v6.drew _) hbV.size)⟩
end Go.Proofs.YtbdimfcdpkldpaaDoor
