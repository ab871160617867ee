/- Texts merged: D33. -/
import Derived.Test.YtbjmdcjoaapmiaaDoorDZ
namespace Go.Proofs.YtbjmdcjoaapmiaaDoor
open Go.RowKit
open Wire (WrAt RdAt RdOut)

set_option maxRecDepth 100000 in
set_option maxHeartbeats 4000000 in
theorem bytes_bad (d : Deed) (hd : d.ok) (hg : ¬ goodD d = true) (w : World) (hT : Tabs w) :
    Calls Tryd.prog 6 #[d.val] w fun e w' => e = .returned (.bool true) ∧ Below w.heap.size w w' := by
  have hrgood := RGood_any d
  have hgood := Good_any d hd
  rw [show goodD d = false by simpa using hg] at hrgood hgood
  have HP : Hid (∀ {B b most : Nat} {v : Value} {l : List UInt8} (w : World), WrAt w B b most v (some l) → Calls Tryd.prog 20 #[.pointer (some ⟨b, 0, none⟩), .agg d.cells] w fun e w' => e = .returned (.tuple #[]) ∧ WrK w w' B b most l) := Lib.hid (fun w h => Put_bad d hd hg w h)
  have HLL : Hid (([] : List UInt8).length ≤ 5000) := Lib.hid (by decide)
  have hblk0 := Blk.new w 24 d.cells
  have hb0 := below_alloc1 w (.cells d.cells 24)
  have HA := Lib.hid awake_any
  have hnew : ∀ w, Calls Tryd.prog 19 #[.int .i64 40] w fun e w' => e = .returned (.pointer (some ⟨w.heap.size, 0, none⟩)) ∧ WrAt w' w.heap.size w.heap.size 40 (.slice none 0 0) (some []) ∧ Below w.heap.size w w' := fun w => Wire.New_any 40 w
  clear hg hd
  simp only [Deed.val] at hrgood hgood ⊢
  go_enter Tryd.func6, Tryd.ntmps6
  go_wp2_with (first
    | (refine wpList_box_agg rfl 24 _ rfl d.cells rfl ?_)
    | (go_at_call 19; (with_reducible refine (hnew _).mono ?_); rintro e w1 ⟨rfl, hW1, hb1⟩; have hblk1 := hblk0.below hb1 hblk0.lt; have hbw1 := below_pre hb0 hb1; rw [show (w.alloc (.cells d.cells 24)).heap.size = w.heap.size + 1 by simp] at hW1; have hne : w.heap.size ≠ w.heap.size + 1 := (by omega))
    | (refine wpList_load_row_g rfl 24 _ rfl w.heap.size rfl 24 _ (0, 0) _ hblkC Tryd.underlying24 rfl (sizeD _) ?_)
    | (refine wpList_load_row rfl 24 _ rfl w.heap.size rfl 24 _ (0, 0) _ hblkC Tryd.underlying24 rfl (sizeD _) ?_)
    | (refine wpList_load_row rfl 24 _ rfl w.heap.size rfl 24 _ (0, 0) _ hblk1 Tryd.underlying24 rfl (sizeD _) ?_)
    | (go_at_call 20; (with_reducible refine (HP.out _ hW1).mono ?_); rintro e w2 ⟨rfl, v2, hW2, hF2⟩; have hs1 : w.heap.size + 1 ≤ w1.heap.size := (by have := hb1.size; simpa using this); have hbB := hF2.below (Nat.le_refl _) hs1; have hbw2 := hbw1.trans (hbB.mono (by omega)); have hblk2 := hF2.blk hblk1 hne (by decide))
    | (go_at_call 21; (with_reducible refine (Wire.WDone_some _ _ HLL.out hW2).mono ?_); rintro e w3 ⟨x, rfl, hx3, hb3⟩; have hbw3 := below_pre hbw2 hb3; have hblkC := hblk2.below hb3 hblk2.lt; have hrx := (RV.of_own hx3).mono (G' := fun b => b < w3.heap.size) (fun k hk _ => hk); obtain ⟨px, cx, rfl, _⟩ := id hrx; clear hblk1)
    | (go_at_call 14; (with_reducible refine (HA.out _ (hT.below hbw3 (Nat.le_refl _))).mono ?_); rintro e w4 ⟨rfl, hb4⟩; replace hbw3 := below_pre hbw3 hb4; replace hblkC := hblkC.below hb4 hblkC.lt; replace hrx := hrx.below hb4 (fun k hk _ => hk))
    | (go_at_call 9; (with_reducible refine (hrgood _).mono ?_); clear hrgood; rintro e w5 ⟨rfl, hb5⟩; replace hbw3 := below_pre hbw3 hb5; replace hblkC := hblkC.below hb5 hblkC.lt; replace hrx := hrx.below hb5 (fun k hk _ => hk))
    | (go_at_call 8; (with_reducible refine (hgood _).mono ?_); clear hgood; rintro e w6 ⟨rfl, hb6⟩; replace hbw3 := below_pre hbw3 hb6))
  go_ret
  exact ⟨rfl, hbw3⟩

set_option maxRecDepth 100000 in
set_option maxHeartbeats 4000000 in
theorem bytes_good (d : Deed) (hd : d.ok) (hg : goodD d = true) (w : World) (hT : Tabs w) :
    Calls Tryd.prog 6 #[d.val] w fun e w' => e = .returned (.bool true) ∧ Below w.heap.size w w' := by
  have hrgood := RGood_any d
  rw [hg] at hrgood
  have hlen := bytesD_40 d hd (good_op hg)
  have HP : Hid (∀ {B b : Nat} {v : Value} (w : World), WrAt w B b 40 v (some []) → Calls Tryd.prog 20 #[.pointer (some ⟨b, 0, none⟩), .agg d.cells] w fun e w' => e = .returned (.tuple #[]) ∧ WrK w w' B b 40 (bytesD d)) := Lib.hid (fun w h => Put_good d hd hg (by simp) (by decide) w h)
  have hrbytes := RBytes_any d hd hg
  have hget := get_bytes d hd hg
  generalize bytesD d = L at *
  have HLL : Hid (L.length ≤ 5000) := Lib.hid (by omega)
  have HL4 : Hid (L.length ≤ 4000) := Lib.hid (by omega)
  obtain ⟨TX, hTX⟩ : ∃ TX : ByteArray, TX = ⟨L.toArray⟩ := ⟨_, rfl⟩
  have HTX := Lib.hid hTX
  have hge : ∀ r w, RdAt w r (.ok L) → Calls Tryd.prog 23 #[.pointer (some ⟨r, 0, none⟩)] w fun e w' => e = .returned (.tuple #[.agg d.cells, .int .i64 0]) ∧ RdOut w w' r (.ok []) := fun r w h => by
    have := Get_any r (.ok L) w h
    rw [hget] at this
    exact this
  have hblk0 := Blk.new w 24 d.cells
  have hb0 := below_alloc1 w (.cells d.cells 24)
  have HA := Lib.hid awake_any
  have hnew : ∀ w, Calls Tryd.prog 19 #[.int .i64 40] w fun e w' => e = .returned (.pointer (some ⟨w.heap.size, 0, none⟩)) ∧ WrAt w' w.heap.size w.heap.size 40 (.slice none 0 0) (some []) ∧ Below w.heap.size w w' := fun w => Wire.New_any 40 w
  clear hg hd hget hTX
  simp only [Deed.val] at hrgood hrbytes ⊢
  go_enter Tryd.func6, Tryd.ntmps6
  go_wp2_with (first
    | (refine wpList_box_agg rfl 24 _ rfl d.cells rfl ?_)
    | (go_at_call 19; (with_reducible refine (hnew _).mono ?_); rintro e w1 ⟨rfl, hW1, hb1⟩; have hblk1 := hblk0.below hb1 hblk0.lt; have hbw1 := below_pre hb0 hb1; rw [show (w.alloc (.cells d.cells 24)).heap.size = w.heap.size + 1 by simp] at hW1; have hne : w.heap.size ≠ w.heap.size + 1 := (by omega))
    | (refine wpList_load_row_g rfl 24 _ rfl w.heap.size rfl 24 _ (0, 0) _ hblkC Tryd.underlying24 rfl (sizeD _) ?_)
    | (refine wpList_load_row rfl 24 _ rfl w.heap.size rfl 24 _ (0, 0) _ hblkC Tryd.underlying24 rfl (sizeD _) ?_)
    | (refine wpList_load_row rfl 24 _ rfl w.heap.size rfl 24 _ (0, 0) _ hblk1 Tryd.underlying24 rfl (sizeD _) ?_)
    | (go_at_call 20; (with_reducible refine (HP.out _ hW1).mono ?_); rintro e w2 ⟨rfl, v2, hW2, hF2⟩; have hs1 : w.heap.size + 1 ≤ w1.heap.size := (by have := hb1.size; simpa using this); have hbB := hF2.below (Nat.le_refl _) hs1; have hbw2 := hbw1.trans (hbB.mono (by omega)); have hblk2 := hF2.blk hblk1 hne (by decide))
    | (go_at_call 21; (with_reducible refine (Wire.WDone_some _ _ HLL.out hW2).mono ?_); rintro e w3 ⟨x, rfl, hx3, hb3⟩; have hbw3 := below_pre hbw2 hb3; have hblkC := hblk2.below hb3 hblk2.lt; have hrx := (RV.of_own hx3).mono (G' := fun b => b < w3.heap.size) (fun k hk _ => hk); obtain ⟨px, cx, rfl, _⟩ := id hrx; clear hblk1)
    | (go_at_call 14; (with_reducible refine (HA.out _ (hT.below hbw3 (Nat.le_refl _))).mono ?_); rintro e w4 ⟨rfl, hb4⟩; replace hbw3 := below_pre hbw3 hb4; replace hblkC := hblkC.below hb4 hblkC.lt; replace hrx := hrx.below hb4 (fun k hk _ => hk))
    | (go_at_call 9; (with_reducible refine (hrgood _).mono ?_); clear hrgood; rintro e w5 ⟨rfl, hb5⟩; replace hbw3 := below_pre hbw3 hb5; replace hblkC := hblkC.below hb5 hblkC.lt; replace hrx := hrx.below hb5 (fun k hk _ => hk))
    | (go_at_call 22; (with_reducible refine (Wire.Read_any _ _ L HL4.out _ hrx).mono ?_); rintro e w6 ⟨⟨r, rfl, hr6, hrd6⟩, hb6⟩; have hbw6 := below_pre hbw3 hb6; have hblk6 := hblkC.below hb6 hblkC.lt; have hrx6 := hrx.below hb6 (fun k hk _ => hk); have hgr : w.heap.size < r := (by have := hblkC.lt; omega))
    | (go_at_call 23; (with_reducible refine (hge _ _ hrd6).mono ?_); rintro e w7 ⟨rfl, hrd7⟩; have hbw7 := hbw6.trans (hrd7.2.below (B := w.heap.size) hbw6.size (fun k (hk : k = r) => by omega)); have hblk7 := hblk6.foot hrd7.2 (show ¬ w.heap.size = r by omega); have hrx7 := hrx6.foot hrd7.2 (fun k (hk : k < w3.heap.size) (e : k = r) => by have := hb4.size; have := hb5.size; omega))
    | (refine wpList_alloc_agg rfl 24 rfl zeroD.cells zeroR ?_)
    | (refine wpList_store_row rfl 24 _ _ rfl w7.heap.size d.cells rfl rfl 24 _ (heap_alloc_new w7 _) (sizeD _) rfl (oneD _) ?_; rw [World.setRow_alloc_new]; have hbx := Blk.new w7 24 d.cells; have hblk8 := hblk7.alloc (.cells d.cells 24); have hbw8 : Below w.heap.size w (w7.alloc (.cells d.cells 24)) := hbw7.alloc hbw7.size _; have hrx8 := hrx7.keep (w' := w7.alloc (.cells d.cells 24)) (by simp) (fun k hk _ => Below.heap_alloc _ _ _ hk); have hrd8 := hrd7.1.below (below_alloc1 w7 (.cells d.cells 24)) (Nat.le_refl _)))
  obtain ⟨W, hW⟩ : ∃ W, W = w7.alloc (.cells d.cells 24) := ⟨_, rfl⟩
  rw [← hW] at hbx hblk8 hbw8 hrx8 hrd8 ⊢
  generalize w7.heap.size = gx at *
  have HG : Hid (Blk W.drew w.heap.size 24 d.cells) := Lib.hid hblk8
  have HX : Hid (Blk W.drew gx 24 d.cells) := Lib.hid hbx
  have hgb : w.heap.size < W.heap.size := hblk8.lt
  have hgx : gx < W.heap.size := hbx.lt
  have HBW : Hid (Below w.heap.size w W.drew) := Lib.hid hbw8.drew
  have HRD : Hid (RdAt W.drew r (.ok [])) := Lib.hid (hrd8.below (B := W.heap.size) ((Below.refl _ W).drew) (Nat.le_refl _))
  have HCV : Hid (∀ w1, Below W.heap.size W.drew w1 → (convert 38 9 (.slice px L.length cx)).run Tryd.prog w1 = .ok (.string TX) w1) := Lib.hid (fun w1 h1 => by
    have hr := (RV.drew hrx8).below h1 (fun k hk _ => hk)
    have := Wire.text_rv (P := Tryd.prog) 38 5 9 Tryd.underlying38 Tryd.underlying5 Tryd.underlying9 hr
    rw [← HTX.out] at this
    exact this)
  clear hW hbx hblk8 hbw8 hrx8 hrd8
  have hdone : ∀ W, RdAt W r (.ok []) → Calls Tryd.prog 25 #[.pointer (some ⟨r, 0, none⟩)] W fun e w' => e = .returned (.int .i64 0) ∧ W = w' := fun W h => Wire.RDone_any r (.ok []) W h
  refine wp_region_held_drew (S := fun w' => Below W.heap.size W.drew w') (by kernel_rfl) (Below.refl _ _) (fun hS0 => ?_)
  refine wpAnyH_take (i := 0) (v := ?_) rfl (by kernel_rfl) (by kernel_rfl) (by kernel_rfl) (fun _ _ _ h => h) (Or.inl ⟨by rfl, ?_⟩) hS0 ?_
  rotate_left
  · intro w1 _; go_simp; with_reducible rfl
  try simp only [List.getElem_toArray, List.getElem_cons_zero, Act.put, List.setIfInBounds_toArray, List.set_cons_zero, List.set_cons_succ]
  refine wpAnyH_take (i := 1) (v := .string TX) rfl (by kernel_rfl) (by kernel_rfl) (by kernel_rfl) (fun _ _ _ h => h) (Or.inl ⟨by rfl, fun w1 hS1 => by have hcv := HCV.out w1 hS1; go_simp⟩) hS0 ?_
  try simp only [List.getElem_toArray, List.getElem_cons_zero, List.getElem_cons_succ, Act.put, List.setIfInBounds_toArray, List.set_cons_zero, List.set_cons_succ]
  refine wpAnyH_take (i := 2) (v := .agg d.cells) rfl (by kernel_rfl) (by kernel_rfl) (by kernel_rfl) (fun _ _ _ h => h) (yields_row (by rfl) 24 _ rfl w.heap.size rfl 24 _ (0, 0) _ (fun w1 hS1 => HG.out.below hS1 hgb) Tryd.underlying24 rfl (sizeD _)) hS0 ?_
  try simp only [List.getElem_toArray, List.getElem_cons_zero, List.getElem_cons_succ, Act.put, List.setIfInBounds_toArray, List.set_cons_zero, List.set_cons_succ]
  refine wpAnyH_ready (rs := [3]) (by kernel_rfl) (by simp) ?_
  refine AllReadyH.cons rfl (fun K hK => ?_) AllReadyH.nil
  go_simp
  refine (hrbytes _).mono ?_
  rintro e w5 ⟨v5, rfl, hown5, hb5⟩
  dsimp only
  have hr5 := RV.of_own hown5
  obtain ⟨p5, c5, rfl, _⟩ := id hr5
  have hcv5 := Wire.text_rv (P := Tryd.prog) 38 5 9 Tryd.underlying38 Tryd.underlying5 Tryd.underlying9 hr5
  rw [← HTX.out] at hcv5
  refine hK.out _ _ (Below.trans hS0 (hb5.mono hS0.size)) (fun hS1 => ?_); clear hK K
  refine wpAnyH_ready (rs := [4]) (by kernel_rfl) (by simp) ?_
  refine AllReadyH.cons rfl (fun K hK => ?_) AllReadyH.nil
  go_simp
  refine hK.out _ _ (hS1) (fun hS2 => ?_); clear hK K
  refine wpAnyH_take (i := 5) (v := .bool true) rfl (by kernel_rfl) (by kernel_rfl) (by kernel_rfl) (fun _ _ _ h => h) (Or.inl ⟨by rfl, fun w1 hS1 => by first | (go_simp; done) | (go_simp; simp)⟩) hS2 ?_
  try simp only [List.getElem_toArray, List.getElem_cons_zero, List.getElem_cons_succ, Act.put, List.setIfInBounds_toArray, List.set_cons_zero, List.set_cons_succ]
  refine wpAnyH_take (i := 6) (v := ?_) rfl (by kernel_rfl) (by kernel_rfl) (by kernel_rfl) (fun _ _ _ h => h) (Or.inl ⟨by rfl, ?_⟩) hS2 ?_
  rotate_left
  · intro w1 _; go_simp; with_reducible rfl
  try simp only [List.getElem_toArray, List.getElem_cons_zero, List.getElem_cons_succ, Act.put, List.setIfInBounds_toArray, List.set_cons_zero, List.set_cons_succ]
  refine wpAnyH_take (i := 7) (v := .agg d.cells) rfl (by kernel_rfl) (by kernel_rfl) (by kernel_rfl) (fun _ _ _ h => h) (yields_row (by rfl) 24 _ rfl gx rfl 24 _ (0, 0) _ (fun w1 hS1 => HX.out.below hS1 hgx) Tryd.underlying24 rfl (sizeD _)) hS2 ?_
  try simp only [List.getElem_toArray, List.getElem_cons_zero, List.getElem_cons_succ, Act.put, List.setIfInBounds_toArray, List.set_cons_zero, List.set_cons_succ]
  refine wpAnyH_take (i := 8) (v := .agg d.cells) rfl (by kernel_rfl) (by kernel_rfl) (by kernel_rfl) (fun _ _ _ h => h) (yields_row (by rfl) 24 _ rfl w.heap.size rfl 24 _ (0, 0) _ (fun w1 hS1 => HG.out.below hS1 hgb) Tryd.underlying24 rfl (sizeD _)) hS2 ?_
  try simp only [List.getElem_toArray, List.getElem_cons_zero, List.getElem_cons_succ, Act.put, List.setIfInBounds_toArray, List.set_cons_zero, List.set_cons_succ]
  refine wpAnyH_take (i := 9) (v := .bool true) rfl (by kernel_rfl) (by kernel_rfl) (by kernel_rfl) (fun _ _ _ h => h) (Or.inl ⟨by rfl, fun w1 _ => by rw [exec_eq _ _ _ rfl d d rfl rfl, (eqD_iff d d).2 rfl]⟩) hS2 ?_
  try simp only [List.getElem_toArray, List.getElem_cons_zero, List.getElem_cons_succ, Act.put, List.setIfInBounds_toArray, List.set_cons_zero, List.set_cons_succ]
  refine wpAnyH_take (i := 10) (v := ?_) rfl (by kernel_rfl) (by kernel_rfl) (by kernel_rfl) (fun _ _ _ h => h) (Or.inl ⟨by rfl, ?_⟩) hS2 ?_
  rotate_left
  · intro w1 _; go_simp; with_reducible rfl
  try simp only [List.getElem_toArray, List.getElem_cons_zero, List.getElem_cons_succ, Act.put, List.setIfInBounds_toArray, List.set_cons_zero, List.set_cons_succ]
  refine wpAnyH_take (i := 11) (v := ?_) rfl (by kernel_rfl) (by kernel_rfl) (by kernel_rfl) (fun _ _ _ h => h) (Or.inl ⟨by rfl, ?_⟩) hS2 ?_
  rotate_left
  · intro w1 _; go_simp; with_reducible rfl
  try simp only [List.getElem_toArray, List.getElem_cons_zero, List.getElem_cons_succ, Act.put, List.setIfInBounds_toArray, List.set_cons_zero, List.set_cons_succ]
  refine wpAnyH_take (i := 12) (v := ?_) rfl (by kernel_rfl) (by kernel_rfl) (by kernel_rfl) (fun _ _ _ h => h) (Or.inl ⟨by rfl, ?_⟩) hS2 ?_
  rotate_left
  · intro w1 _; go_simp; with_reducible rfl
  try simp only [List.getElem_toArray, List.getElem_cons_zero, List.getElem_cons_succ, Act.put, List.setIfInBounds_toArray, List.set_cons_zero, List.set_cons_succ]
  refine wpAnyH_take (i := 13) (v := .bool true) rfl (by kernel_rfl) (by kernel_rfl) (by kernel_rfl) (fun _ _ _ h => h) (Or.inl ⟨by rfl, fun w1 hS1 => by first | (go_simp; done) | (go_simp; simp)⟩) hS2 ?_
  try simp only [List.getElem_toArray, List.getElem_cons_zero, List.getElem_cons_succ, Act.put, List.setIfInBounds_toArray, List.set_cons_zero, List.set_cons_succ]
  refine wpAnyH_take (i := 14) (v := ?_) rfl (by kernel_rfl) (by kernel_rfl) (by kernel_rfl) (fun _ _ _ h => h) (Or.inl ⟨by rfl, ?_⟩) hS2 ?_
  rotate_left
  · intro w1 _; go_simp; with_reducible rfl
  try simp only [List.getElem_toArray, List.getElem_cons_zero, List.getElem_cons_succ, Act.put, List.setIfInBounds_toArray, List.set_cons_zero, List.set_cons_succ]
  refine wpAnyH_take (i := 15) (v := ?_) rfl (by kernel_rfl) (by kernel_rfl) (by kernel_rfl) (fun _ _ _ h => h) (Or.inl ⟨by rfl, ?_⟩) hS2 ?_
  rotate_left
  · intro w1 _; go_simp; with_reducible rfl
  try simp only [List.getElem_toArray, List.getElem_cons_zero, List.getElem_cons_succ, Act.put, List.setIfInBounds_toArray, List.set_cons_zero, List.set_cons_succ]
  refine wpAnyH_take (i := 16) (v := ?_) rfl (by kernel_rfl) (by kernel_rfl) (by kernel_rfl) (fun _ _ _ h => h) (Or.inl ⟨by rfl, ?_⟩) hS2 ?_
  rotate_left
  · intro w1 _; go_simp; with_reducible rfl
  try simp only [List.getElem_toArray, List.getElem_cons_zero, List.getElem_cons_succ, Act.put, List.setIfInBounds_toArray, List.set_cons_zero, List.set_cons_succ]
  refine wpAnyH_ready (rs := [17]) (by kernel_rfl) (by simp) ?_
  refine AllReadyH.cons rfl (fun K hK => ?_) AllReadyH.nil
  go_simp
  refine (hdone _ (HRD.out.below hS2 (Nat.le_refl _))).mono ?_
  rintro e w6 ⟨rfl, rfl⟩
  dsimp only
  refine hK.out _ _ (hS2) (fun hS3 => ?_); clear hK K
  refine wpAnyH_take (i := 18) (v := .bool true) rfl (by kernel_rfl) (by kernel_rfl) (by kernel_rfl) (fun _ _ _ h => h) (Or.inl ⟨by rfl, fun w1 hS1 => by first | (go_simp; done) | (go_simp; simp)⟩) hS3 ?_
  try simp only [List.getElem_toArray, List.getElem_cons_zero, List.getElem_cons_succ, Act.put, List.setIfInBounds_toArray, List.set_cons_zero, List.set_cons_succ]
  refine wpAnyH_take (i := 19) (v := ?_) rfl (by kernel_rfl) (by kernel_rfl) (by kernel_rfl) (fun _ _ _ h => h) (Or.inl ⟨by rfl, ?_⟩) hS3 ?_
  rotate_left
  · intro w1 _; go_simp; with_reducible rfl
  try simp only [List.getElem_toArray, List.getElem_cons_zero, List.getElem_cons_succ, Act.put, List.setIfInBounds_toArray, List.set_cons_zero, List.set_cons_succ]
  refine wpAnyH_take (i := 20) (v := ?_) rfl (by kernel_rfl) (by kernel_rfl) (by kernel_rfl) (fun _ _ _ h => h) (Or.inl ⟨by rfl, ?_⟩) hS3 ?_
  rotate_left
  · intro w1 _; go_simp; with_reducible rfl
  try simp only [List.getElem_toArray, List.getElem_cons_zero, List.getElem_cons_succ, Act.put, List.setIfInBounds_toArray, List.set_cons_zero, List.set_cons_succ]
  refine wpAnyH_done (by kernel_rfl) ?_ _
  have hbf := HBW.out.trans (Below.mono hS3 HBW.out.size)
  go_wp2
  go_ret
  exact ⟨rfl, hbf⟩

theorem bytes_walk (d : Deed) (hd : d.ok) (w : World) (hT : Tabs w) :
    Calls Tryd.prog 6 #[d.val] w fun e w' => e = .returned (.bool true) ∧ Below w.heap.size w w' := by
  by_cases h : goodD d = true
  · exact bytes_good d hd h w hT
  · exact bytes_bad d hd h w hT
end Go.Proofs.YtbjmdcjoaapmiaaDoor
