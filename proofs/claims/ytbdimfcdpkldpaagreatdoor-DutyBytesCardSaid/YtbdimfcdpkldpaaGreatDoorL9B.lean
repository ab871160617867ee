/- DutyBytes. -/
import Derived.Test.YtbdimfcdpkldpaaGreatDoorEA
import Derived.Test.YtbdimfcdpkldpaaGreatDoorEB
import Derived.Test.YtbdimfcdpkldpaaGreatDoorZ6S
import Derived.OrdersHeld
import Derived.Deep.RegionHeld
namespace Go.Proofs.YtbdimfcdpkldpaaGreatDoor
open Go.RowKit
open Wire (bV)

theorem DV.low9 {W : World} {G : Nat → Prop} {a b : Value} {X : Dut} (hd : DV W G a b X) : DV W (fun k => k < W.heap.size) a b X := ⟨by
  obtain ⟨us, hl, hr, he⟩ := hd.progs
  exact ⟨us, hl, RV.mono hr (fun k hk _ => hk), fun k u ps hu hp => RV.mono (he k u ps hu hp) (fun k hk _ => hk)⟩, RV.mono hd.starts (fun k hk _ => hk)⟩
theorem told2_parts {w : World} {B : Nat} {e : Ending} {R : Dut × Nat} (h : Told2 w B e R) : ∃ (p q : Option Addr) (c c' : Nat), e = .returned (.tuple #[.agg (R.1.cells (.slice p R.1.progs.length c) (.slice q R.1.starts.length c')), .int .i64 (R.2 : Int)]) ∧ DV w (fun k => B ≤ k) (.slice p R.1.progs.length c) (.slice q R.1.starts.length c') R.1 := by
  obtain ⟨vp, vs, he, hd⟩ := h
  obtain ⟨p, c, rfl, _, _⟩ := hd.progs.shape
  obtain ⟨q, c', rfl, _, _⟩ := hd.starts.shape
  exact ⟨p, q, c, c', he, hd⟩

set_option maxRecDepth 100000 in
set_option maxHeartbeats 8000000 in
theorem dbytes_walk (d : Dut) (hd : d.ok) (vp vs : Value) (w : World) (h : DV w (fun k => k < w.heap.size) vp vs d) (hT : Tabs w) :
    Calls Tryz.prog 5 #[.agg (d.cells vp vs)] w fun e w' => e = .returned (.bool true) ∧ Below w.heap.size w w' := by
  have hb0 := below_alloc1 w (.cells (d.cells vp vs) 27)
  have hk0 := Blk.new w 27 (d.cells vp vs)
  have hfew := fun W (hW : DV W (fun k => k < w.heap.size) vp vs d) (hs : w.heap.size ≤ W.heap.size) => FewY_any d vp vs (fun k => k < w.heap.size) W (fun k hk => Nat.lt_of_lt_of_le hk hs) hW
  have hD0 := h.later hb0
  obtain ⟨hsm1, hsm2, hsm3⟩ := fewY_small d
  have hok := fewY_ok hd
  generalize fewY d = D at *
  have hG : ∀ k, (k < w.heap.size ∨ (w.alloc (.cells (d.cells vp vs) 27)).heap.size + 2 ≤ k) → ¬ k = w.heap.size := fun k hk e => by
    simp at hk
    omega
  have hrc := fun W vp' vs' (G : Nat → Prop) (hW : DV W G vp' vs' D) => RCheckY_any D hok vp' vs' G W hW
  have haw := fun W (hTW : Tabs W) => awakeY_any W hTW
  have HTB := Lib.hid hT
  have HGG := Lib.hid hG
  clear hG h hd hT
  by_cases h0 : checkY D = 0
  · have henc := fun W vp' vs' (hW : DV W (fun k => k < W.heap.size) vp' vs' D) => EncodeY_good D hok h0 vp' vs' _ W (fun _ hk => hk) hW
    have hrb := fun W vp' vs' (hW : DV W (fun k => k < W.heap.size) vp' vs' D) => RBytesY_any D hok h0 vp' vs' _ W (fun _ hk => hk) hW
    have hlen := bytesY_len hok h0
    have hdb := decY_bytes hok h0
    have HDC := Lib.hid (fun (x : Value) (G : Nat → Prop) (W : World) (hr : RV W G x (bytesY D).length 1 ((bytesY D).map bV)) => (show Calls Tryz.prog 16 #[x] W fun e w' => Told2 w' (W.heap.size + 1) e (D, 0) ∧ Below W.heap.size W w' from by
      have := DecodeY_any x (bytesY D) (by omega) G W hr
      rw [hdb] at this
      exact this))
    have hsame := fun W p q c c' p' q' c0 c0' (G G' : Nat → Prop) (h1 : DV W G (.slice p D.progs.length c) (.slice q D.starts.length c') D) (h2 : DV W G' (.slice p' D.progs.length c0) (.slice q' D.starts.length c0') D) =>
      (RSameY_any D D hok hok (fun p hp => by have := hsm3 p hp; omega) (by omega) (by omega) _ _ _ _ G G' W h1 h2).mono (fun e w' (hh : (∃ r : Bool, e = .returned (.bool r) ∧ (r = true ↔ D = D)) ∧ Below W.heap.size W w') => (by
        obtain ⟨⟨r, he, hr⟩, hb⟩ := hh
        rw [hr.2 rfl] at he
        exact (⟨he, hb⟩ : e = .returned (.bool true) ∧ Below W.heap.size W w')))
    rw [h0] at hrc
    generalize bytesY D = T at *
    obtain ⟨TX, hTX⟩ : ∃ TX : ByteArray, TX = ⟨T.toArray⟩ := ⟨_, rfl⟩
    have HTX := Lib.hid hTX
    have HRB0 := Lib.hid hrb
    clear hTX h0 hlen hdb hok hsm1 hsm2 hsm3 hrb
    go_enter Tryz.func5, Tryz.ntmps5
    go_wp2_with (first
      | (refine wpList_box_agg rfl 27 _ rfl (d.cells vp vs) rfl ?_)
      | (refine wpList_load_row rfl 27 _ rfl w.heap.size rfl 27 _ (0, 0) _ hk0 Tryz.underlying27 rfl (sizeY _ _ _) ?_)
      | (go_at_call 7; (with_reducible refine (hfew _ hD0 (by simp)).mono ?_); clear hfew; rintro e w1 ⟨⟨vp1, vs1, rfl, hD1⟩, hb1⟩; have hk1 := hk0.below hb1 hk0.lt; have hb01 := below_pre hb0 hb1; obtain ⟨pp, cp, rfl, _, _⟩ := hD1.progs.shape; obtain ⟨ps, cs, rfl, _, _⟩ := hD1.starts.shape; have hk2 := hk1.row (D.cells (.slice pp D.progs.length cp) (.slice ps D.starts.length cs)); have hD2 := DV.low9 (DV.foot hD1 (foot_setRow w1 w.heap.size (D.cells (.slice pp D.progs.length cp) (.slice ps D.starts.length cs))) HGG.out); have hb2 := hb01.trans (foot_row (w := w1) (D.cells (.slice pp D.progs.length cp) (.slice ps D.starts.length cs)) (Nat.le_refl w.heap.size)); clear hD1)
      | (refine wpList_store_row rfl 27 _ _ rfl w.heap.size (D.cells (.slice pp D.progs.length cp) (.slice ps D.starts.length cs)) rfl rfl 27 _ hk1 (sizeY _ _ _) rfl (oneY _ _ _ _ _ _ _) ?_)
      | (refine wpList_load_row rfl 27 _ rfl w.heap.size rfl 27 _ (0, 0) _ hk2 Tryz.underlying27 rfl (sizeY _ _ _) ?_)
      | (go_at_call 15; (with_reducible refine (henc _ _ _ hD2).mono ?_); clear henc; rintro e w3 ⟨⟨x1, rfl, hown3⟩, hb3⟩; obtain ⟨px, cx, rfl, _⟩ := id (RV.of_own hown3); have hX3 : RV w3 (fun _ => True) _ _ 1 _ := RV.mono (RV.of_own hown3) (fun _ _ _ => trivial); clear hown3; have hk3 := hk2.below hb3 hk2.lt; have hD3 := hD2.later hb3; have hb03 := below_pre hb2 hb3)
      | (refine wpList_load_row rfl 27 _ rfl w.heap.size rfl 27 _ (0, 0) _ hk3 Tryz.underlying27 rfl (sizeY _ _ _) ?_)
      | (go_at_call 11; (with_reducible refine (hrc _ _ _ _ hD3).mono ?_); clear hrc; rintro e w4 ⟨rfl, hb4⟩; have hk4 := hk3.below hb4 hk3.lt; have hD4 := hD3.later hb4; have hb04 := below_pre hb03 hb4; have hX4 := RV.below hX3 hb4 (fun _ hk _ => hk))
      | (go_at_call 10; (with_reducible refine (haw _ (HTB.out.below hb04 (Nat.le_refl _))).mono ?_); clear haw; rintro e w5 ⟨rfl, hb5⟩; have hk5 := hk4.below hb5 hk4.lt; have hD5 := hD4.later hb5; have hb05 := below_pre hb04 hb5; have hX5 := RV.below hX4 hb5 (fun _ hk _ => hk))
      | (go_at_call 16; (with_reducible refine (HDC.out _ _ _ hX5).mono ?_); rintro e w7 ⟨htold, hb7⟩; obtain ⟨xp, xq, xc, xc', rfl, hY7⟩ := told2_parts htold; clear htold; have hk7 := hk5.below hb7 hk5.lt; have hD7 := hD5.later hb7; have hX7 := RV.below hX5 hb7 (fun _ hk _ => hk); have hb07 := below_pre hb05 hb7; have ha8 := below_alloc1 w7 (.cells (D.cells (.slice xp D.progs.length xc) (.slice xq D.starts.length xc')) 27); have hk8 := hk7.below ha8 hk7.lt; have hD8 := hD7.later ha8; have hY8 := hY7.later ha8; have hX8 := RV.below hX7 ha8 (fun _ hk _ => hk); have hb08 := below_pre hb07 ha8; have hN8 := Blk.new w7 27 (D.cells (.slice xp D.progs.length xc) (.slice xq D.starts.length xc')))
      | (refine wpList_alloc_agg rfl 27 rfl (zeroY.cells (.slice none 0 0) (.slice none 0 0)) zeroYR ?_)
      | (refine wpList_store_row rfl 27 _ _ rfl w7.heap.size (D.cells (.slice xp D.progs.length xc) (.slice xq D.starts.length xc')) rfl rfl 27 _ (heap_alloc_new w7 _) (sizeY _ _ _) rfl (oneY _ _ _ _ _ _ _) ?_; rw [World.setRow_alloc_new]))
    obtain ⟨W, hW⟩ : ∃ W, W = w7.alloc (.cells (D.cells (.slice xp D.progs.length xc) (.slice xq D.starts.length xc')) 27) := ⟨_, rfl⟩
    rw [← hW] at hk8 hD8 hY8 hX8 hb08 hN8 ⊢
    clear hW
    have hKW : Blk W.drew w.heap.size 27 (D.cells (.slice pp D.progs.length cp) (.slice ps D.starts.length cs)) := hk8
    have hNW : Blk W.drew w7.heap.size 27 (D.cells (.slice xp D.progs.length xc) (.slice xq D.starts.length xc')) := hN8
    have HBW : Hid (Below w.heap.size w W.drew) := Lib.hid hb08.drew
    have HDW : Hid (∀ w1, Below W.heap.size W.drew w1 → DV w1 (fun k => k < w1.heap.size) (.slice pp D.progs.length cp) (.slice ps D.starts.length cs) D) := Lib.hid (fun w1 h1 => DV.low9 (DV.later (w := W.drew) hD8.drew h1))
    have HXW : Hid (∀ w1, Below W.heap.size W.drew w1 → DV w1 (fun k => k < w1.heap.size) (.slice xp D.progs.length xc) (.slice xq D.starts.length xc') D) := Lib.hid (fun w1 h1 => DV.low9 (DV.later (w := W.drew) hY8.drew h1))
    have HRB := Lib.hid (fun (w1 : World) (_ : w.heap.size ≤ w1.heap.size) (h1 : DV w1 (fun k => k < w1.heap.size) (.slice pp D.progs.length cp) (.slice ps D.starts.length cs) D) => HRB0.out w1 _ _ h1)
    have HCV : Hid (∀ w1, Below W.heap.size W.drew w1 → (convert 38 9 (.slice px T.length cx)).run Tryz.prog w1 = .ok (.string TX) w1) := Lib.hid (fun w1 h1 => by
      have hr := RV.below (RV.drew hX8) h1 (fun k hk _ => hk)
      have := Wire.text_rv (P := Tryz.prog) 38 5 9 Tryz.underlying38 Tryz.underlying5 Tryz.underlying9 hr
      rw [← HTX.out] at this
      exact this)
    refine wp_region_held_drew (S := fun w' => Below W.heap.size W.drew w') (by kernel_rfl) (Below.refl _ _) (fun hS0 => ?_)
    refine wpAnyH_take (i := 0) (v := ?_) rfl (by kernel_rfl) (by kernel_rfl) (by kernel_rfl) (fun _ _ _ h => h) (Or.inl ⟨by rfl, ?_⟩) hS0 ?_
    rotate_left
    · intro w1 _; go_simp; with_reducible rfl
    try simp only [List.getElem_toArray, List.getElem_cons_zero, Act.put, List.setIfInBounds_toArray, List.set_cons_zero, List.set_cons_succ]
    refine wpAnyH_take (i := 1) (v := .string TX) rfl (by kernel_rfl) (by kernel_rfl) (by kernel_rfl) (fun _ _ _ h => h) (Or.inl ⟨by rfl, fun w1 hS1 => by have hcv := HCV.out w1 hS1; go_simp⟩) hS0 ?_
    try simp only [List.getElem_toArray, List.getElem_cons_zero, List.getElem_cons_succ, Act.put, List.setIfInBounds_toArray, List.set_cons_zero, List.set_cons_succ]
    refine wpAnyH_take (i := 2) (v := .agg (D.cells (.slice pp D.progs.length cp) (.slice ps D.starts.length cs))) rfl (by kernel_rfl) (by kernel_rfl) (by kernel_rfl) (fun _ _ _ h => h) (yields_row rfl 27 _ rfl w.heap.size rfl 27 _ (0, 0) _ (fun w1 hS1 => Blk.below (B := W.heap.size) hKW hS1 hKW.lt) Tryz.underlying27 rfl (sizeY _ _ _)) hS0 ?_
    try simp only [List.getElem_toArray, List.getElem_cons_zero, List.getElem_cons_succ, Act.put, List.setIfInBounds_toArray, List.set_cons_zero, List.set_cons_succ]
    refine wpAnyH_ready (rs := [3]) (by kernel_rfl) (by simp) ?_
    refine AllReadyH.cons rfl (fun K hK => ?_) AllReadyH.nil
    go_simp
    have hzz := Below.size hS0
    have hzw := Nat.le_trans HBW.out.size hzz
    refine (HRB.out _ hzw (HDW.out _ hS0)).mono ?_
    rintro e w5 ⟨⟨v5, rfl, hown5⟩, hb5⟩
    dsimp only
    have hr5 := RV.of_own hown5
    obtain ⟨p5, c5, rfl, _⟩ := id hr5
    have hcv5 := Wire.text_rv (P := Tryz.prog) 38 5 9 Tryz.underlying38 Tryz.underlying5 Tryz.underlying9 hr5
    rw [← HTX.out] at hcv5
    refine hK.out _ _ (Below.trans hS0 (hb5.mono hzz)) (fun hS1 => ?_); clear hK K
    refine wpAnyH_ready (rs := [4]) (by kernel_rfl) (by simp) ?_
    refine AllReadyH.cons rfl (fun K hK => ?_) AllReadyH.nil
    go_simp
    refine hK.out _ _ (hS1) (fun hS2 => ?_); clear hK K
    refine wpAnyH_take (i := 5) (v := .bool true) rfl (by kernel_rfl) (by kernel_rfl) (by kernel_rfl) (fun _ _ _ h => h) (Or.inl ⟨by rfl, fun w1 hS1 => by first | (go_simp; done) | (go_simp; simp)⟩) hS2 ?_
    try simp only [List.getElem_toArray, List.getElem_cons_zero, List.getElem_cons_succ, Act.put, List.setIfInBounds_toArray, List.set_cons_zero, List.set_cons_succ]
    refine wpAnyH_take (i := 6) (v := ?_) rfl (by kernel_rfl) (by kernel_rfl) (by kernel_rfl) (fun _ _ _ h => h) (Or.inl ⟨by rfl, ?_⟩) hS2 ?_
    rotate_left
    · intro w1 _; go_simp; with_reducible rfl
    try simp only [List.getElem_toArray, List.getElem_cons_zero, List.getElem_cons_succ, Act.put, List.setIfInBounds_toArray, List.set_cons_zero, List.set_cons_succ]
    refine wpAnyH_take (i := 7) (v := .agg (D.cells (.slice xp D.progs.length xc) (.slice xq D.starts.length xc'))) rfl (by kernel_rfl) (by kernel_rfl) (by kernel_rfl) (fun _ _ _ h => h) (yields_row rfl 27 _ rfl w7.heap.size rfl 27 _ (0, 0) _ (fun w1 hS1 => Blk.below (B := W.heap.size) hNW hS1 hNW.lt) Tryz.underlying27 rfl (sizeY _ _ _)) hS2 ?_
    try simp only [List.getElem_toArray, List.getElem_cons_zero, List.getElem_cons_succ, Act.put, List.setIfInBounds_toArray, List.set_cons_zero, List.set_cons_succ]
    refine wpAnyH_take (i := 8) (v := .agg (D.cells (.slice pp D.progs.length cp) (.slice ps D.starts.length cs))) rfl (by kernel_rfl) (by kernel_rfl) (by kernel_rfl) (fun _ _ _ h => h) (yields_row rfl 27 _ rfl w.heap.size rfl 27 _ (0, 0) _ (fun w1 hS1 => Blk.below (B := W.heap.size) hKW hS1 hKW.lt) Tryz.underlying27 rfl (sizeY _ _ _)) hS2 ?_
    try simp only [List.getElem_toArray, List.getElem_cons_zero, List.getElem_cons_succ, Act.put, List.setIfInBounds_toArray, List.set_cons_zero, List.set_cons_succ]
    refine wpAnyH_ready (rs := [9]) (by kernel_rfl) (by simp) ?_
    refine AllReadyH.cons rfl (fun K hK => ?_) AllReadyH.nil
    go_simp
    have hyy := Below.size hS2
    refine (hsame _ _ _ _ _ _ _ _ _ _ _ (HXW.out _ hS2) (HDW.out _ hS2)).mono ?_
    rintro e w6 ⟨rfl, hb6⟩
    dsimp only
    refine hK.out _ _ (Below.trans hS2 (hb6.mono hyy)) (fun hS3 => ?_); clear hK K
    refine wpAnyH_take (i := 10) (v := ?_) rfl (by kernel_rfl) (by kernel_rfl) (by kernel_rfl) (fun _ _ _ h => h) (Or.inl ⟨by rfl, ?_⟩) hS3 ?_
    rotate_left
    · intro w1 _; go_simp; with_reducible rfl
    try simp only [List.getElem_toArray, List.getElem_cons_zero, List.getElem_cons_succ, Act.put, List.setIfInBounds_toArray, List.set_cons_zero, List.set_cons_succ]
    refine wpAnyH_take (i := 11) (v := ?_) rfl (by kernel_rfl) (by kernel_rfl) (by kernel_rfl) (fun _ _ _ h => h) (Or.inl ⟨by rfl, ?_⟩) hS3 ?_
    rotate_left
    · intro w1 _; go_simp; with_reducible rfl
    try simp only [List.getElem_toArray, List.getElem_cons_zero, List.getElem_cons_succ, Act.put, List.setIfInBounds_toArray, List.set_cons_zero, List.set_cons_succ]
    refine wpAnyH_take (i := 12) (v := ?_) rfl (by kernel_rfl) (by kernel_rfl) (by kernel_rfl) (fun _ _ _ h => h) (Or.inl ⟨by rfl, ?_⟩) hS3 ?_
    rotate_left
    · intro w1 _; go_simp; with_reducible rfl
    try simp only [List.getElem_toArray, List.getElem_cons_zero, List.getElem_cons_succ, Act.put, List.setIfInBounds_toArray, List.set_cons_zero, List.set_cons_succ]
    refine wpAnyH_take (i := 13) (v := .bool true) rfl (by kernel_rfl) (by kernel_rfl) (by kernel_rfl) (fun _ _ _ h => h) (Or.inl ⟨by rfl, fun w1 hS1 => by first | (go_simp; done) | (go_simp; simp)⟩) hS3 ?_
    try simp only [List.getElem_toArray, List.getElem_cons_zero, List.getElem_cons_succ, Act.put, List.setIfInBounds_toArray, List.set_cons_zero, List.set_cons_succ]
    refine wpAnyH_take (i := 14) (v := ?_) rfl (by kernel_rfl) (by kernel_rfl) (by kernel_rfl) (fun _ _ _ h => h) (Or.inl ⟨by rfl, ?_⟩) hS3 ?_
    rotate_left
    · intro w1 _; go_simp; with_reducible rfl
    try simp only [List.getElem_toArray, List.getElem_cons_zero, List.getElem_cons_succ, Act.put, List.setIfInBounds_toArray, List.set_cons_zero, List.set_cons_succ]
    refine wpAnyH_take (i := 15) (v := ?_) rfl (by kernel_rfl) (by kernel_rfl) (by kernel_rfl) (fun _ _ _ h => h) (Or.inl ⟨by rfl, ?_⟩) hS3 ?_
    rotate_left
    · intro w1 _; go_simp; with_reducible rfl
    try simp only [List.getElem_toArray, List.getElem_cons_zero, List.getElem_cons_succ, Act.put, List.setIfInBounds_toArray, List.set_cons_zero, List.set_cons_succ]
    refine wpAnyH_done (by kernel_rfl) ?_ _
    have hbf := HBW.out.trans (Below.mono hS3 HBW.out.size)
    go_wp2
    go_ret
    exact ⟨rfl, hbf⟩
  · have henc := fun W vp' vs' (hW : DV W (fun k => k < W.heap.size) vp' vs' D) => EncodeY_bad D hok vp' vs' _ W hW h0
    have tc : ((checkY D : Int) != 0) = true := by simp; omega
    have tn : ((checkY D : Int) != (checkY D : Int)) = false := by simp
    generalize checkY D = code at *
    clear h0 hok hsm1 hsm2 hsm3
    go_enter Tryz.func5, Tryz.ntmps5
    go_wp2_with (first
      | (refine wpList_box_agg rfl 27 _ rfl (d.cells vp vs) rfl ?_)
      | (refine wpList_load_row rfl 27 _ rfl w.heap.size rfl 27 _ (0, 0) _ hk0 Tryz.underlying27 rfl (sizeY _ _ _) ?_)
      | (go_at_call 7; (with_reducible refine (hfew _ hD0 (by simp)).mono ?_); clear hfew; rintro e w1 ⟨⟨vp1, vs1, rfl, hD1⟩, hb1⟩; have hk1 := hk0.below hb1 hk0.lt; have hb01 := below_pre hb0 hb1; obtain ⟨pp, cp, rfl, _, _⟩ := hD1.progs.shape; obtain ⟨ps, cs, rfl, _, _⟩ := hD1.starts.shape; have hk2 := hk1.row (D.cells (.slice pp D.progs.length cp) (.slice ps D.starts.length cs)); have hD2 := DV.low9 (DV.foot hD1 (foot_setRow w1 w.heap.size (D.cells (.slice pp D.progs.length cp) (.slice ps D.starts.length cs))) HGG.out); have hb2 := hb01.trans (foot_row (w := w1) (D.cells (.slice pp D.progs.length cp) (.slice ps D.starts.length cs)) (Nat.le_refl w.heap.size)); clear hD1)
      | (refine wpList_store_row rfl 27 _ _ rfl w.heap.size (D.cells (.slice pp D.progs.length cp) (.slice ps D.starts.length cs)) rfl rfl 27 _ hk1 (sizeY _ _ _) rfl (oneY _ _ _ _ _ _ _) ?_)
      | (refine wpList_load_row rfl 27 _ rfl w.heap.size rfl 27 _ (0, 0) _ hk2 Tryz.underlying27 rfl (sizeY _ _ _) ?_)
      | (go_at_call 15; (with_reducible refine (henc _ _ _ hD2).mono ?_); clear henc; rintro e w3 ⟨rfl, hb3⟩; have hk3 := hk2.below hb3 hk2.lt; have hD3 := hD2.later hb3; have hb03 := below_pre hb2 hb3)
      | (refine wpList_load_row rfl 27 _ rfl w.heap.size rfl 27 _ (0, 0) _ hk3 Tryz.underlying27 rfl (sizeY _ _ _) ?_)
      | (go_at_call 11; (with_reducible refine (hrc _ _ _ _ hD3).mono ?_); clear hrc; rintro e w4 ⟨rfl, hb4⟩; have hk4 := hk3.below hb4 hk3.lt; have hD4 := hD3.later hb4; have hb04 := below_pre hb03 hb4)
      | (go_at_call 10; (with_reducible refine (haw _ (HTB.out.below hb04 (Nat.le_refl _))).mono ?_); clear haw; rintro e w5 ⟨rfl, hb5⟩; have hk5 := hk4.below hb5 hk4.lt; have hD5 := hD4.later hb5; have hb05 := below_pre hb04 hb5))
    go_ret
    exact ⟨rfl, hb05⟩
end Go.Proofs.YtbdimfcdpkldpaaGreatDoor
