/- DutyTexts. -/
import Derived.Test.YtbdimfcdpkldpaaGreatDoorZ6
import Derived.Test.YtbdimfcdpkldpaaGreatDoorZ9
import Derived.Test.YtbdimfcdpkldpaaGreatDoorZ15
import Derived.Test.YtbdimfcdpkldpaaGreatDoorZ18
namespace Go.Proofs.YtbdimfcdpkldpaaGreatDoor
open Go.RowKit

theorem drop_last9 (s : ByteArray) : (s.extract 0 (s.size - 1)).data.toList = s.data.toList.dropLast := by
  rw [extract_list, List.drop_zero, List.dropLast_eq_take, show s.data.toList.length = s.size from rfl]; rfl
theorem told_facts {w : World} {B : Nat} {e : Ending} {R : Dut × Nat × Nat} (h : ToldY w B e R) : ∃ (p q : Option Addr) (c c' : Nat), e = .returned (.tuple #[.agg (R.1.cells (.slice p R.1.progs.length c) (.slice q R.1.starts.length c')), .int .i64 (R.2.1 : Int), .int .i64 (R.2.2 : Int)]) ∧ DV w (fun k => B ≤ k) (.slice p R.1.progs.length c) (.slice q R.1.starts.length c') R.1 := by
  obtain ⟨vp, vs, he, hd⟩ := h
  obtain ⟨p, c, rfl, _, _⟩ := hd.progs.shape
  obtain ⟨q, c', rfl, _, _⟩ := hd.starts.shape
  exact ⟨p, q, c, c', he, hd⟩

theorem DV.low {W : World} {G : Nat → Prop} {a b : Value} {X : Dut} (hd : DV W G a b X) : DV W (fun k => k < W.heap.size) a b X := ⟨by
  obtain ⟨us, hl, hr, he⟩ := hd.progs
  exact ⟨us, hl, RV.mono hr (fun k hk _ => hk), fun k u ps hu hp => RV.mono (he k u ps hu hp) (fun k hk _ => hk)⟩, RV.mono hd.starts (fun k hk _ => hk)⟩
set_option maxRecDepth 100000 in
set_option maxHeartbeats 8000000 in
theorem texts_walk (d : Dut) (hd : d.ok) (vp vs : Value) (w : World) (h : DV w (fun k => k < w.heap.size) vp vs d) (hT : Tabs w) :
    Calls Tryz.prog 3 #[.agg (d.cells vp vs)] w fun e w' => e = .returned (.bool true) ∧ Below w.heap.size w w' := by
  have hb0 := below_alloc1 w (.cells (d.cells vp vs) 27)
  have hk0 := Blk.new w 27 (d.cells vp vs)
  have hfew := fun W (hW : DV W (fun k => k < w.heap.size) vp vs d) (hs : w.heap.size ≤ W.heap.size) => FewY_any d vp vs (fun k => k < w.heap.size) W (fun k hk => Nat.lt_of_lt_of_le hk hs) hW
  have hD0 := h.later hb0
  obtain ⟨hsm1, hsm2, hsm3⟩ := fewY_small d
  have hok := fewY_ok hd
  generalize fewY d = D at *
  have hG : ∀ k, (k < w.heap.size ∨ (w.alloc (.cells (d.cells vp vs) 27)).heap.size + 2 ≤ k) → ¬ k = w.heap.size := fun k hk e => by
    simp at hk
    omega
  have htx := fun W vp' vs' (G : Nat → Prop) (hG : ∀ k, G k → k < W.heap.size) (hW : DV W G vp' vs' D) (hTW : Tabs W) => TextY_any D hok vp' vs' G W hG hW hTW
  have hrt := fun W vp' vs' (G : Nat → Prop) (hW : DV W G vp' vs' D) => RTextY_any D hok vp' vs' G W hW
  have hrc := fun W vp' vs' (G : Nat → Prop) (hW : DV W G vp' vs' D) => RCheckY_any D hok vp' vs' G W hW
  have hsame := fun W p q c c' p' q' c0 c0' (G G' : Nat → Prop) (h1 : DV W G (.slice p D.progs.length c) (.slice q D.starts.length c') D) (h2 : DV W G' (.slice p' D.progs.length c0) (.slice q' D.starts.length c0') D) =>
    (RSameY_any D D hok hok (fun p hp => by have := hsm3 p hp; omega) (by omega) (by omega) _ _ _ _ G G' W h1 h2).mono (fun e w' (hh : (∃ r : Bool, e = .returned (.bool r) ∧ (r = true ↔ D = D)) ∧ Below W.heap.size W w') => (by
      obtain ⟨⟨r, he, hr⟩, hb⟩ := hh
      rw [hr.2 rfl] at he
      exact (⟨he, hb⟩ : e = .returned (.bool true) ∧ Below W.heap.size W w')))
  have haw := fun W (hTW : Tabs W) => awakeY_any W hTW
  obtain ⟨T, hTe⟩ : ∃ T, textN9 D = T := ⟨_, rfl⟩
  rw [hTe] at htx hrt
  obtain ⟨S, hS⟩ : ∃ S : ByteArray, S = ⟨T.toArray⟩ := ⟨_, rfl⟩
  have hSl : S.data.toList = T := by rw [hS]
  unfold sV at htx hrt
  rw [← hS] at htx hrt
  have HTB := Lib.hid hT
  have HGG := Lib.hid hG
  clear hG h hd hT hsm1 hsm2 hsm3
  have tss : (S.toList == S.toList) = true := by simp
  by_cases h0 : checkY D = 0
  · have hT0 : T = textY D := by rw [← hTe]; unfold textN9; rw [if_pos h0]
    rw [h0] at hrc
    have hlen := textY_len hok h0
    have hsz : S.size = T.length := by rw [hS, size_mk]
    rw [← hT0] at hlen
    by_cases hbig : 1000000 < S.size
    · have t1 : decide ((S.size : Int) > 1000000) = true := by simp; omega
      clear hS hSl hTe hT0 hlen hsz hbig h0 hsame
      go_enter Tryz.func3, Tryz.ntmps3
      go_wp2_with (first
        | (refine wpList_box_agg rfl 27 _ rfl (d.cells vp vs) rfl ?_)
        | (refine wpList_load_row rfl 27 _ rfl w.heap.size rfl 27 _ (0, 0) _ hk0 Tryz.underlying27 rfl (sizeY _ _ _) ?_)
        | (go_at_call 7; (with_reducible refine (hfew _ hD0 (by simp)).mono ?_); clear hfew; rintro e w1 ⟨⟨vp1, vs1, rfl, hD1⟩, hb1⟩; have hk1 := hk0.below hb1 hk0.lt; have hb01 := below_pre hb0 hb1; obtain ⟨pp, cp, rfl, _, _⟩ := hD1.progs.shape; obtain ⟨ps, cs, rfl, _, _⟩ := hD1.starts.shape; have hk2 := hk1.row (D.cells (.slice pp D.progs.length cp) (.slice ps D.starts.length cs)); have hD2 := DV.low (DV.foot hD1 (foot_setRow w1 w.heap.size (D.cells (.slice pp D.progs.length cp) (.slice ps D.starts.length cs))) HGG.out); have hb2 := hb01.trans (foot_row (w := w1) (D.cells (.slice pp D.progs.length cp) (.slice ps D.starts.length cs)) (Nat.le_refl w.heap.size)); clear hD1)
        | (refine wpList_store_row rfl 27 _ _ rfl w.heap.size (D.cells (.slice pp D.progs.length cp) (.slice ps D.starts.length cs)) rfl rfl 27 _ hk1 (sizeY _ _ _) rfl (oneY _ _ _ _ _ _ _) ?_)
        | (refine wpList_load_row rfl 27 _ rfl w.heap.size rfl 27 _ (0, 0) _ hk2 Tryz.underlying27 rfl (sizeY _ _ _) ?_)
        | (go_at_call 8; (with_reducible refine (htx _ _ _ _ (fun k hk => hk) hD2 (HTB.out.below hb2 (Nat.le_refl _))).mono ?_); clear htx; rintro e w3 ⟨rfl, hb3⟩; have hk3 := hk2.below hb3 hk2.lt; have hD3 := hD2.later hb3; have hb03 := below_pre hb2 hb3)
        | (refine wpList_load_row rfl 27 _ rfl w.heap.size rfl 27 _ (0, 0) _ hk3 Tryz.underlying27 rfl (sizeY _ _ _) ?_)
        | (go_at_call 9; (with_reducible refine (hrt _ _ _ _ hD3).mono ?_); clear hrt; rintro e w4 ⟨rfl, hb4⟩; have hk4 := hk3.below hb4 hk3.lt; have hD4 := hD3.later hb4; have hb04 := below_pre hb03 hb4)
        | (go_at_call 10; (with_reducible refine (haw _ (HTB.out.below hb04 (Nat.le_refl _))).mono ?_); clear haw; rintro e w5 ⟨rfl, hb5⟩; have hk5 := hk4.below hb5 hk4.lt; have hD5 := hD4.later hb5; have hb05 := below_pre hb04 hb5)
        | (refine wpList_load_row rfl 27 _ rfl w.heap.size rfl 27 _ (0, 0) _ hk5 Tryz.underlying27 rfl (sizeY _ _ _) ?_)
        | (go_at_call 11; (with_reducible refine (hrc _ _ _ _ hD5).mono ?_); clear hrc; rintro e w6 ⟨rfl, hb6⟩; have hk6 := hk5.below hb6 hk5.lt; have hb06 := below_pre hb05 hb6))
      go_ret
      exact ⟨rfl, hb06⟩
    · have t1 : decide ((S.size : Int) > 1000000) = false := by simp; omega
      have hpt := prsY_text hok h0 (by rw [← hT0]; omega)
      have hln := linesY_noLF hok h0
      have hL1 : linesL S.data.toList = linesY D := by rw [hSl, hT0]; exact lines_flat _ (fun l hl => (hln l hl).1)
      have hL2 : linesL (S.extract 0 (S.size - 1)).data.toList = linesY D := by rw [drop_last9, hSl, hT0]; exact lines_flat_cut _ (fun l hl => (hln l hl).1) (fun l hl => (hln l hl).2)
      have hls := linesY_small hok
      have hll := linesY_len h0
      have hp1 := fun W => ParseY_any S (by omega) (by rw [hL1]; intro z hz; have := hls z hz; omega) (by rw [hL1]; omega) W
      have hp2 := fun W => ParseY_any (S.extract 0 (S.size - 1)) (by rw [ByteArray.size_extract]; omega) (by rw [hL2]; intro z hz; have := hls z hz; omega) (by rw [hL2]; omega) W
      rw [hSl, hT0, hpt.1] at hp1
      rw [drop_last9, hSl, hT0, hpt.2] at hp2
      have hpos : 0 < S.size := by
        have e : S.data.toList ≠ [] := by
          rw [hSl, hT0, textY_split]
          simp
        have : S.data.toList.length = S.size := rfl
        have := List.length_pos_iff.2 e
        omega
      have hx : wrap64 ((S.size : Int) - 1) = ((S.size - 1 : Nat) : Int) := by rw [IntWalk.wrap64_in _ (by omega)]; omega
      have HX := Lib.hid hx
      have hsz1 : S.size ≤ 1000000 := by omega
      clear hS hSl hTe hT0 hlen hsz hbig h0 hpt hln hL1 hL2 hls hll hx
      generalize (linesY D).length = NL at *
      go_enter Tryz.func3, Tryz.ntmps3
      go_wp2_with (first
        | rw [HX.out]
        | (refine wpList_box_agg rfl 27 _ rfl (d.cells vp vs) rfl ?_)
        | (refine wpList_load_row rfl 27 _ rfl w.heap.size rfl 27 _ (0, 0) _ hk0 Tryz.underlying27 rfl (sizeY _ _ _) ?_)
        | (go_at_call 7; (with_reducible refine (hfew _ hD0 (by simp)).mono ?_); clear hfew; rintro e w1 ⟨⟨vp1, vs1, rfl, hD1⟩, hb1⟩; have hk1 := hk0.below hb1 hk0.lt; have hb01 := below_pre hb0 hb1; obtain ⟨pp, cp, rfl, _, _⟩ := hD1.progs.shape; obtain ⟨ps, cs, rfl, _, _⟩ := hD1.starts.shape; have hk2 := hk1.row (D.cells (.slice pp D.progs.length cp) (.slice ps D.starts.length cs)); have hD2 := DV.low (DV.foot hD1 (foot_setRow w1 w.heap.size (D.cells (.slice pp D.progs.length cp) (.slice ps D.starts.length cs))) HGG.out); have hb2 := hb01.trans (foot_row (w := w1) (D.cells (.slice pp D.progs.length cp) (.slice ps D.starts.length cs)) (Nat.le_refl w.heap.size)); clear hD1)
        | (refine wpList_store_row rfl 27 _ _ rfl w.heap.size (D.cells (.slice pp D.progs.length cp) (.slice ps D.starts.length cs)) rfl rfl 27 _ hk1 (sizeY _ _ _) rfl (oneY _ _ _ _ _ _ _) ?_)
        | (refine wpList_load_row rfl 27 _ rfl w.heap.size rfl 27 _ (0, 0) _ hk2 Tryz.underlying27 rfl (sizeY _ _ _) ?_)
        | (go_at_call 8; (with_reducible refine (htx _ _ _ _ (fun k hk => hk) hD2 (HTB.out.below hb2 (Nat.le_refl _))).mono ?_); clear htx; rintro e w3 ⟨rfl, hb3⟩; have hk3 := hk2.below hb3 hk2.lt; have hD3 := hD2.later hb3; have hb03 := below_pre hb2 hb3)
        | (refine wpList_load_row rfl 27 _ rfl w.heap.size rfl 27 _ (0, 0) _ hk3 Tryz.underlying27 rfl (sizeY _ _ _) ?_)
        | (go_at_call 9; (with_reducible refine (hrt _ _ _ _ hD3).mono ?_); clear hrt; rintro e w4 ⟨rfl, hb4⟩; have hk4 := hk3.below hb4 hk3.lt; have hD4 := hD3.later hb4; have hb04 := below_pre hb03 hb4)
        | (go_at_call 10; (with_reducible refine (haw _ (HTB.out.below hb04 (Nat.le_refl _))).mono ?_); clear haw; rintro e w5 ⟨rfl, hb5⟩; have hk5 := hk4.below hb5 hk4.lt; have hD5 := hD4.later hb5; have hb05 := below_pre hb04 hb5)
        | (refine wpList_load_row rfl 27 _ rfl w.heap.size rfl 27 _ (0, 0) _ hk5 Tryz.underlying27 rfl (sizeY _ _ _) ?_)
        | (go_at_call 11; (with_reducible refine (hrc _ _ _ _ hD5).mono ?_); clear hrc; rintro e w6 ⟨rfl, hb6⟩; have hk6 := hk5.below hb6 hk5.lt; have hb06 := below_pre hb05 hb6)
        | (go_at_call 12; (with_reducible refine (hp1 _).mono ?_); clear hp1; rintro e w7 ⟨htold, hb7⟩; obtain ⟨xp, xq, xc, xc', rfl, hX7⟩ := told_facts htold; clear htold; have hk7 := hk6.below hb7 hk6.lt; have hD7 := (hD5.later hb6).later hb7; have hb07 := below_pre hb06 hb7; have ha8 := below_alloc1 w7 (.cells (D.cells (.slice xp D.progs.length xc) (.slice xq D.starts.length xc')) 27); have hk8 := hk7.below ha8 hk7.lt; have hD8 := hD7.later ha8; have hX8 := hX7.later ha8; have hb08 := below_pre hb07 ha8; have hN8 := Blk.new w7 27 (D.cells (.slice xp D.progs.length xc) (.slice xq D.starts.length xc')))
        | (refine wpList_alloc_agg rfl 27 rfl (zeroY.cells (.slice none 0 0) (.slice none 0 0)) zeroYR ?_)
        | (refine wpList_store_row rfl 27 _ _ rfl w7.heap.size (D.cells (.slice xp D.progs.length xc) (.slice xq D.starts.length xc')) rfl rfl 27 _ (heap_alloc_new w7 _) (sizeY _ _ _) rfl (oneY _ _ _ _ _ _ _) ?_; rw [World.setRow_alloc_new])
        | (go_at_call 12; (with_reducible refine (hp2 _).mono ?_); clear hp2; rintro e w9 ⟨htold, hb9⟩; obtain ⟨yp, yq, yc, yc', rfl, hY9⟩ := told_facts htold; clear htold; have hk9 := hk8.below hb9 hk8.lt; have hD9 := hD8.later hb9; have hX9 := hX8.later hb9; have hN9 := hN8.below hb9 hN8.lt; have hb09 := below_pre hb08 hb9; have ha10 := below_alloc1 w9 (.cells (D.cells (.slice yp D.progs.length yc) (.slice yq D.starts.length yc')) 27); have hk10 := hk9.below ha10 hk9.lt; have hD10 := hD9.later ha10; have hX10 := hX9.later ha10; have hY10 := hY9.later ha10; have hb10 := below_pre hb09 ha10; have hN10 := hN9.below ha10 hN9.lt; have hM10 := Blk.new w9 27 (D.cells (.slice yp D.progs.length yc) (.slice yq D.starts.length yc')))
        | (refine wpList_store_row rfl 27 _ _ rfl w9.heap.size (D.cells (.slice yp D.progs.length yc) (.slice yq D.starts.length yc')) rfl rfl 27 _ (heap_alloc_new w9 _) (sizeY _ _ _) rfl (oneY _ _ _ _ _ _ _) ?_; rw [World.setRow_alloc_new])
        | (refine wpList_load_row rfl 27 _ rfl w7.heap.size rfl 27 _ (0, 0) _ hN10 Tryz.underlying27 rfl (sizeY _ _ _) ?_)
        | (refine wpList_load_row rfl 27 _ rfl w.heap.size rfl 27 _ (0, 0) _ hk10 Tryz.underlying27 rfl (sizeY _ _ _) ?_)
        | (go_at_call 13; (with_reducible refine (hsame _ _ _ _ _ _ _ _ _ _ _ hX10 hD10).mono ?_); rintro e w11 ⟨rfl, hb11⟩; have hk11 := hk10.below hb11 hk10.lt; have hD11 := hD10.later hb11; have hY11 := hY10.later hb11; have hM11 := hM10.below hb11 hM10.lt; have hb011 := below_pre hb10 hb11)
        | (refine wpList_load_row_g rfl 27 _ rfl w9.heap.size rfl 27 _ (0, 0) _ hM11 Tryz.underlying27 rfl (sizeY _ _ _) ?_)
        | (refine wpList_load_row_g rfl 27 _ rfl w.heap.size rfl 27 _ (0, 0) _ hk11 Tryz.underlying27 rfl (sizeY _ _ _) ?_)
        | (go_at_call 13; (with_reducible refine (hsame _ _ _ _ _ _ _ _ _ _ _ hY11 hD11).mono ?_); rintro e w12 ⟨rfl, hb12⟩))
      go_ret
      exact ⟨rfl, below_pre hb011 hb12⟩
  · have hT0 : T = [] := by rw [← hTe]; unfold textN9; rw [if_neg h0]
    have tse : S.toList.isEmpty = true := by rw [Lib.toList_data, hSl, hT0]; rfl
    have hne : ((checkY D : Int) != 0) = true := by simp; omega
    clear hS hSl hTe hT0 h0 hsame
    go_enter Tryz.func3, Tryz.ntmps3
    go_wp2_with (first
        | (refine wpList_box_agg rfl 27 _ rfl (d.cells vp vs) rfl ?_)
        | (refine wpList_load_row rfl 27 _ rfl w.heap.size rfl 27 _ (0, 0) _ hk0 Tryz.underlying27 rfl (sizeY _ _ _) ?_)
        | (go_at_call 7; (with_reducible refine (hfew _ hD0 (by simp)).mono ?_); clear hfew; rintro e w1 ⟨⟨vp1, vs1, rfl, hD1⟩, hb1⟩; have hk1 := hk0.below hb1 hk0.lt; have hb01 := below_pre hb0 hb1; obtain ⟨pp, cp, rfl, _, _⟩ := hD1.progs.shape; obtain ⟨ps, cs, rfl, _, _⟩ := hD1.starts.shape; have hk2 := hk1.row (D.cells (.slice pp D.progs.length cp) (.slice ps D.starts.length cs)); have hD2 := DV.low (DV.foot hD1 (foot_setRow w1 w.heap.size (D.cells (.slice pp D.progs.length cp) (.slice ps D.starts.length cs))) HGG.out); have hb2 := hb01.trans (foot_row (w := w1) (D.cells (.slice pp D.progs.length cp) (.slice ps D.starts.length cs)) (Nat.le_refl w.heap.size)); clear hD1)
        | (refine wpList_store_row rfl 27 _ _ rfl w.heap.size (D.cells (.slice pp D.progs.length cp) (.slice ps D.starts.length cs)) rfl rfl 27 _ hk1 (sizeY _ _ _) rfl (oneY _ _ _ _ _ _ _) ?_)
        | (refine wpList_load_row rfl 27 _ rfl w.heap.size rfl 27 _ (0, 0) _ hk2 Tryz.underlying27 rfl (sizeY _ _ _) ?_)
        | (go_at_call 8; (with_reducible refine (htx _ _ _ _ (fun k hk => hk) hD2 (HTB.out.below hb2 (Nat.le_refl _))).mono ?_); clear htx; rintro e w3 ⟨rfl, hb3⟩; have hk3 := hk2.below hb3 hk2.lt; have hD3 := hD2.later hb3; have hb03 := below_pre hb2 hb3)
        | (refine wpList_load_row rfl 27 _ rfl w.heap.size rfl 27 _ (0, 0) _ hk3 Tryz.underlying27 rfl (sizeY _ _ _) ?_)
        | (go_at_call 9; (with_reducible refine (hrt _ _ _ _ hD3).mono ?_); clear hrt; rintro e w4 ⟨rfl, hb4⟩; have hk4 := hk3.below hb4 hk3.lt; have hD4 := hD3.later hb4; have hb04 := below_pre hb03 hb4)
        | (go_at_call 10; (with_reducible refine (haw _ (HTB.out.below hb04 (Nat.le_refl _))).mono ?_); clear haw; rintro e w5 ⟨rfl, hb5⟩; have hk5 := hk4.below hb5 hk4.lt; have hD5 := hD4.later hb5; have hb05 := below_pre hb04 hb5)
        | (refine wpList_load_row rfl 27 _ rfl w.heap.size rfl 27 _ (0, 0) _ hk5 Tryz.underlying27 rfl (sizeY _ _ _) ?_)
        | (go_at_call 11; (with_reducible refine (hrc _ _ _ _ hD5).mono ?_); clear hrc; rintro e w6 ⟨rfl, hb6⟩; have hk6 := hk5.below hb6 hk5.lt; have hb06 := below_pre hb05 hb6))
    go_ret
    exact ⟨rfl, hb06⟩
end Go.Proofs.YtbdimfcdpkldpaaGreatDoor
