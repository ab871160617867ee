/- The contract of the reference's line, where it refuses. -/
import Derived.Test.YtbdimfcdpkldpaaGreatDoorJ1
import Derived.Test.YtbdimfcdpkldpaaGreatDoorZ11
namespace Go.Proofs.YtbdimfcdpkldpaaGreatDoor
open Go.RowKit

set_option maxRecDepth 100000 in
set_option maxHeartbeats 4000000 in
theorem RLineY_nil (d : Dut) (pp ps : Option Addr) (cp cs : Nat) (s : ByteArray) (hs : s.size ≤ 4000) (w : World) (b : Bool) (hD : wordsGo [] s.data.toList = []) :
    Calls Tryz.prog 40 #[.agg (d.cells (.slice pp d.progs.length cp) (.slice ps d.starts.length cs)), .string s, .bool b] w fun e w' => e = .returned (.tuple #[.agg (d.cells (.slice pp d.progs.length cp) (.slice ps d.starts.length cs)), .int .i64 15]) ∧ Below w.heap.size w w' := by
  have hw := RWords_any s hs
  rw [hD] at hw
  have hd0 : Blk ((w.alloc (.cells (d.cells (.slice pp d.progs.length cp) (.slice ps d.starts.length cs)) 27)).alloc (.cells (zeroY.cells (.slice none 0 0) (.slice none 0 0)) 27)) w.heap.size 27 (d.cells (.slice pp d.progs.length cp) (.slice ps d.starts.length cs)) := (Blk.new w _ _).alloc _
  have hr0 : Blk ((w.alloc (.cells (d.cells (.slice pp d.progs.length cp) (.slice ps d.starts.length cs)) 27)).alloc (.cells (zeroY.cells (.slice none 0 0) (.slice none 0 0)) 27)) (w.heap.size + 1) 27 (zeroY.cells (.slice none 0 0) (.slice none 0 0)) := two_new w _ _ _
  have hb0 := below_alloc2 w (.cells (d.cells (.slice pp d.progs.length cp) (.slice ps d.starts.length cs)) 27) (.cells (zeroY.cells (.slice none 0 0) (.slice none 0 0)) 27)
  clear hs hD
  go_enter Tryz.func40, Tryz.ntmps40
  go_wp2_with (first
    | (refine wpList_box_agg rfl 27 _ rfl (d.cells (.slice pp d.progs.length cp) (.slice ps d.starts.length cs)) rfl ?_)
    | (refine wpList_alloc_agg rfl 27 rfl (zeroY.cells (.slice none 0 0) (.slice none 0 0)) zeroYR ?_)
    | (go_at_call 79; (with_reducible refine (hw _).mono ?_); clear hw; rintro e w1 ⟨v, rfl, hown, hb1⟩; have hd1 := hd0.below hb1 hd0.lt; have hr1 := hr0.below hb1 hr0.lt; have hb01 := below_pre hb0 hb1; obtain ⟨p, c, rfl, _⟩ := id (RV.of_own hown))
    | (refine wpList_load_row rfl 27 _ rfl w.heap.size rfl 27 _ (0, 0) _ hd1 Tryz.underlying27 rfl (sizeY _ _ _) ?_)
    | (refine wpList_store_row rfl 27 _ _ rfl (w.heap.size + 1) (d.cells (.slice pp d.progs.length cp) (.slice ps d.starts.length cs)) rfl rfl 27 _ hr1 (sizeY _ _ _) rfl (oneY _ _ _ _ _ _ _) ?_))
  refine bodyPost_ret (results_row_tmp rfl _ _ (w.heap.size + 1) 27 (d.cells (.slice pp d.progs.length cp) (.slice ps d.starts.length cs)) (0, 0) _ rfl (hr1.row _) Tryz.underlying27 rfl (sizeY _ _ _)) rfl ?_
  exact ⟨rfl, hb01.trans (foot_row _ (by omega))⟩

set_option maxRecDepth 100000 in
set_option maxHeartbeats 4000000 in
theorem RLineY_first (d : Dut) (pp ps : Option Addr) (cp cs : Nat) (s : ByteArray) (hs : s.size ≤ 4000) (w : World) (z : List UInt8) (ws : List (List UInt8)) (hD : wordsGo [] s.data.toList = z :: ws) (hz : z ≠ dutyW) :
    Calls Tryz.prog 40 #[.agg (d.cells (.slice pp d.progs.length cp) (.slice ps d.starts.length cs)), .string s, .bool true] w fun e w' => e = .returned (.tuple #[.agg (d.cells (.slice pp d.progs.length cp) (.slice ps d.starts.length cs)), .int .i64 15]) ∧ Below w.heap.size w w' := by
  have hw := RWords_any s hs
  rw [hD] at hw
  have hd0 : Blk ((w.alloc (.cells (d.cells (.slice pp d.progs.length cp) (.slice ps d.starts.length cs)) 27)).alloc (.cells (zeroY.cells (.slice none 0 0) (.slice none 0 0)) 27)) w.heap.size 27 (d.cells (.slice pp d.progs.length cp) (.slice ps d.starts.length cs)) := (Blk.new w _ _).alloc _
  have hr0 : Blk ((w.alloc (.cells (d.cells (.slice pp d.progs.length cp) (.slice ps d.starts.length cs)) 27)).alloc (.cells (zeroY.cells (.slice none 0 0) (.slice none 0 0)) 27)) (w.heap.size + 1) 27 (zeroY.cells (.slice none 0 0) (.slice none 0 0)) := two_new w _ _ _
  have hb0 := below_alloc2 w (.cells (d.cells (.slice pp d.progs.length cp) (.slice ps d.starts.length cs)) 27) (.cells (zeroY.cells (.slice none 0 0) (.slice none 0 0)) 27)
  obtain ⟨Z, hZ⟩ : ∃ Z : ByteArray, Z = ⟨z.toArray⟩ := ⟨_, rfl⟩
  have HZ := Lib.hid hZ
  have tz := str_is Z z dutyW hZ false (by simpa using hz)
  unfold dutyW at tz
  clear hs hD hZ hz
  go_enter Tryz.func40, Tryz.ntmps40
  go_wp2_with (first
    | (refine wpList_box_agg rfl 27 _ rfl (d.cells (.slice pp d.progs.length cp) (.slice ps d.starts.length cs)) rfl ?_)
    | (refine wpList_alloc_agg rfl 27 rfl (zeroY.cells (.slice none 0 0) (.slice none 0 0)) zeroYR ?_)
    | (go_at_call 79; (with_reducible refine (hw _).mono ?_); clear hw; rintro e w1 ⟨v, rfl, hown, hb1⟩; have hd1 := hd0.below hb1 hd0.lt; have hr1 := hr0.below hb1 hr0.lt; have hb01 := below_pre hb0 hb1; have hrr : RV w1 (fun b => b < w1.heap.size) _ _ 1 _ := (RV.of_own hown).mono (fun k hk _ => hk); obtain ⟨p, c, rfl, hnc, _⟩ := id hrr; obtain ⟨b, off, rfl, hbl, _, hcell⟩ := hrr.at1 0 (sV z) rfl; rw [Nat.add_zero, sV, ← HZ.out] at hcell; rw [List.length_cons] at hnc)
    | (refine wpList_load_row rfl 27 _ rfl w.heap.size rfl 27 _ (0, 0) _ hd1 Tryz.underlying27 rfl (sizeY _ _ _) ?_)
    | (refine wpList_store_row rfl 27 _ _ rfl (w.heap.size + 1) (d.cells (.slice pp d.progs.length cp) (.slice ps d.starts.length cs)) rfl rfl 27 _ hr1 (sizeY _ _ _) rfl (oneY _ _ _ _ _ _ _) ?_))
  refine bodyPost_ret (results_row_tmp rfl _ _ (w.heap.size + 1) 27 (d.cells (.slice pp d.progs.length cp) (.slice ps d.starts.length cs)) (0, 0) _ rfl (hr1.row _) Tryz.underlying27 rfl (sizeY _ _ _)) rfl ?_
  exact ⟨rfl, hb01.trans (foot_row _ (by omega))⟩

set_option maxRecDepth 100000 in
set_option maxHeartbeats 4000000 in
theorem RLineY_later (d : Dut) (pp ps : Option Addr) (cp cs : Nat) (s : ByteArray) (hs : s.size ≤ 4000) (w : World) (z : List UInt8) (ws : List (List UInt8)) (hD : wordsGo [] s.data.toList = z :: ws) (hz : z = dutyW) :
    Calls Tryz.prog 40 #[.agg (d.cells (.slice pp d.progs.length cp) (.slice ps d.starts.length cs)), .string s, .bool false] w fun e w' => e = .returned (.tuple #[.agg (d.cells (.slice pp d.progs.length cp) (.slice ps d.starts.length cs)), .int .i64 15]) ∧ Below w.heap.size w w' := by
  have hw := RWords_any s hs
  rw [hD] at hw
  have hd0 : Blk ((w.alloc (.cells (d.cells (.slice pp d.progs.length cp) (.slice ps d.starts.length cs)) 27)).alloc (.cells (zeroY.cells (.slice none 0 0) (.slice none 0 0)) 27)) w.heap.size 27 (d.cells (.slice pp d.progs.length cp) (.slice ps d.starts.length cs)) := (Blk.new w _ _).alloc _
  have hr0 : Blk ((w.alloc (.cells (d.cells (.slice pp d.progs.length cp) (.slice ps d.starts.length cs)) 27)).alloc (.cells (zeroY.cells (.slice none 0 0) (.slice none 0 0)) 27)) (w.heap.size + 1) 27 (zeroY.cells (.slice none 0 0) (.slice none 0 0)) := two_new w _ _ _
  have hb0 := below_alloc2 w (.cells (d.cells (.slice pp d.progs.length cp) (.slice ps d.starts.length cs)) 27) (.cells (zeroY.cells (.slice none 0 0) (.slice none 0 0)) 27)
  obtain ⟨Z, hZ⟩ : ∃ Z : ByteArray, Z = ⟨z.toArray⟩ := ⟨_, rfl⟩
  have HZ := Lib.hid hZ
  have tz := str_is Z z dutyW hZ true (by simpa using hz)
  unfold dutyW at tz
  clear hs hD hZ hz
  go_enter Tryz.func40, Tryz.ntmps40
  go_wp2_with (first
    | (refine wpList_box_agg rfl 27 _ rfl (d.cells (.slice pp d.progs.length cp) (.slice ps d.starts.length cs)) rfl ?_)
    | (refine wpList_alloc_agg rfl 27 rfl (zeroY.cells (.slice none 0 0) (.slice none 0 0)) zeroYR ?_)
    | (go_at_call 79; (with_reducible refine (hw _).mono ?_); clear hw; rintro e w1 ⟨v, rfl, hown, hb1⟩; have hd1 := hd0.below hb1 hd0.lt; have hr1 := hr0.below hb1 hr0.lt; have hb01 := below_pre hb0 hb1; have hrr : RV w1 (fun b => b < w1.heap.size) _ _ 1 _ := (RV.of_own hown).mono (fun k hk _ => hk); obtain ⟨p, c, rfl, hnc, _⟩ := id hrr; obtain ⟨b, off, rfl, hbl, _, hcell⟩ := hrr.at1 0 (sV z) rfl; rw [Nat.add_zero, sV, ← HZ.out] at hcell; rw [List.length_cons] at hnc)
    | (refine wpList_load_row rfl 27 _ rfl w.heap.size rfl 27 _ (0, 0) _ hd1 Tryz.underlying27 rfl (sizeY _ _ _) ?_)
    | (refine wpList_store_row rfl 27 _ _ rfl (w.heap.size + 1) (d.cells (.slice pp d.progs.length cp) (.slice ps d.starts.length cs)) rfl rfl 27 _ hr1 (sizeY _ _ _) rfl (oneY _ _ _ _ _ _ _) ?_))
  refine bodyPost_ret (results_row_tmp rfl _ _ (w.heap.size + 1) 27 (d.cells (.slice pp d.progs.length cp) (.slice ps d.starts.length cs)) (0, 0) _ rfl (hr1.row _) Tryz.underlying27 rfl (sizeY _ _ _)) rfl ?_
  exact ⟨rfl, hb01.trans (foot_row _ (by omega))⟩

theorem RReadY_at (hI : Int) (hex : Nat) (e1 : hI = (hex : Int)) (hhex : hex ≤ 10) (ws : List (List UInt8)) (hl : ws.length ≤ 4000) (hsm : ∀ z ∈ ws, z.length ≤ 4000) (v : Value) (G : Nat → Prop) (w : World) (hG : ∀ k, G k → k < w.heap.size) (h : RV w G v ws.length 1 (ws.map sV)) :
    Calls Tryz.prog 80 #[v, .int .i64 hI] w fun e w' => ∃ x, e = .returned (.tuple #[x, .bool (readY ws hex).isSome]) ∧ w'.ownsRow w.heap.size 22 1 x ((readY ws hex).getD []).length (((readY ws hex).getD []).map uV) ∧ Below w.heap.size w w' := by
  subst e1
  exact RReadY_any hex hhex ws hl hsm v G w hG h

set_option maxRecDepth 100000 in
set_option maxHeartbeats 4000000 in
theorem RLineY_head_len (d : Dut) (pp ps : Option Addr) (cp cs : Nat) (s : ByteArray) (hs : s.size ≤ 4000) (w : World) (z : List UInt8) (ws : List (List UInt8)) (hD : wordsGo [] s.data.toList = z :: ws) (hz : z = dutyW) (hwl : ws.length ≤ 3999) (hsm : ∀ x ∈ ws, x.length ≤ 4000) (hR : ((readY ws 2).getD []).length ≠ 7) :
    Calls Tryz.prog 40 #[.agg (d.cells (.slice pp d.progs.length cp) (.slice ps d.starts.length cs)), .string s, .bool true] w fun e w' => e = .returned (.tuple #[.agg (d.cells (.slice pp d.progs.length cp) (.slice ps d.starts.length cs)), .int .i64 3]) ∧ Below w.heap.size w w' := by
  have hw := RWords_any s hs
  rw [hD] at hw
  have hd0 : Blk ((w.alloc (.cells (d.cells (.slice pp d.progs.length cp) (.slice ps d.starts.length cs)) 27)).alloc (.cells (zeroY.cells (.slice none 0 0) (.slice none 0 0)) 27)) w.heap.size 27 (d.cells (.slice pp d.progs.length cp) (.slice ps d.starts.length cs)) := (Blk.new w _ _).alloc _
  have hr0 : Blk ((w.alloc (.cells (d.cells (.slice pp d.progs.length cp) (.slice ps d.starts.length cs)) 27)).alloc (.cells (zeroY.cells (.slice none 0 0) (.slice none 0 0)) 27)) (w.heap.size + 1) 27 (zeroY.cells (.slice none 0 0) (.slice none 0 0)) := two_new w _ _ _
  have hb0 := below_alloc2 w (.cells (d.cells (.slice pp d.progs.length cp) (.slice ps d.starts.length cs)) 27) (.cells (zeroY.cells (.slice none 0 0) (.slice none 0 0)) 27)
  obtain ⟨Z, hZ⟩ : ∃ Z : ByteArray, Z = ⟨z.toArray⟩ := ⟨_, rfl⟩
  have HZ := Lib.hid hZ
  have tz := str_is Z z dutyW hZ true (by simpa using hz)
  unfold dutyW at tz
  have tl : ((((readY ws 2).getD []).length : Int) != 7) = true := by simp; omega
  clear hs hD hZ hz hR
  go_enter Tryz.func40, Tryz.ntmps40
  go_wp2_with (first
    | (refine wpList_box_agg rfl 27 _ rfl (d.cells (.slice pp d.progs.length cp) (.slice ps d.starts.length cs)) rfl ?_)
    | (refine wpList_alloc_agg rfl 27 rfl (zeroY.cells (.slice none 0 0) (.slice none 0 0)) zeroYR ?_)
    | (go_at_call 79; (with_reducible refine (hw _).mono ?_); clear hw; rintro e w1 ⟨v, rfl, hown, hb1⟩; have hd1 := hd0.below hb1 hd0.lt; have hr1 := hr0.below hb1 hr0.lt; have hb01 := below_pre hb0 hb1; have hrr : RV w1 (fun b => b < w1.heap.size) _ _ 1 _ := (RV.of_own hown).mono (fun k hk _ => hk); obtain ⟨p, c, rfl, hnc, _⟩ := id hrr; obtain ⟨b, off, rfl, hbl, _, hcell⟩ := hrr.at1 0 (sV z) rfl; rw [Nat.add_zero, sV, ← HZ.out] at hcell; rw [List.length_cons] at hnc; have hrr2 : RV w1 (fun b => b < w1.heap.size) (.slice (some ⟨b, off, none⟩) (ws.length + 1) c) (ws.length + 1) 1 (sV z :: ws.map sV) := hrr; have htl := rv_tail hrr2; clear hrr hrr2)
    | (go_at_call 80; (with_reducible refine (RReadY_at 2 2 rfl (by decide) ws (by omega) hsm _ _ w1 (fun _ hk => hk) htl).mono ?_); rintro e w2 ⟨x, rfl, hx, hb2⟩; obtain ⟨xp, xc, rfl⟩ := own_shape9 hx; have hd2 := hd1.below hb2 hd1.lt; have hr2 := hr1.below hb2 hr1.lt; have hb02 := below_pre hb01 hb2)
    | (refine wpList_load_row rfl 27 _ rfl w.heap.size rfl 27 _ (0, 0) _ hd2 Tryz.underlying27 rfl (sizeY _ _ _) ?_)
    | (refine wpList_store_row rfl 27 _ _ rfl (w.heap.size + 1) (d.cells (.slice pp d.progs.length cp) (.slice ps d.starts.length cs)) rfl rfl 27 _ hr2 (sizeY _ _ _) rfl (oneY _ _ _ _ _ _ _) ?_))
  all_goals refine bodyPost_ret (results_row_tmp rfl _ _ (w.heap.size + 1) 27 (d.cells (.slice pp d.progs.length cp) (.slice ps d.starts.length cs)) (0, 0) _ rfl (hr2.row _) Tryz.underlying27 rfl (sizeY _ _ _)) rfl ?_
  all_goals exact ⟨rfl, hb02.trans (foot_row _ (by omega))⟩

set_option maxRecDepth 100000 in
set_option maxHeartbeats 4000000 in
theorem RLineY_start_len (d : Dut) (pp ps : Option Addr) (cp cs : Nat) (s : ByteArray) (hs : s.size ≤ 4000) (w : World) (z : List UInt8) (ws : List (List UInt8)) (hD : wordsGo [] s.data.toList = z :: ws) (hz : z = startW) (hwl : ws.length ≤ 3999) (hsm : ∀ x ∈ ws, x.length ≤ 4000) (hR : ((readY ws 1).getD []).length ≠ 3) :
    Calls Tryz.prog 40 #[.agg (d.cells (.slice pp d.progs.length cp) (.slice ps d.starts.length cs)), .string s, .bool false] w fun e w' => e = .returned (.tuple #[.agg (d.cells (.slice pp d.progs.length cp) (.slice ps d.starts.length cs)), .int .i64 3]) ∧ Below w.heap.size w w' := by
  have hw := RWords_any s hs
  rw [hD] at hw
  have hd0 : Blk ((w.alloc (.cells (d.cells (.slice pp d.progs.length cp) (.slice ps d.starts.length cs)) 27)).alloc (.cells (zeroY.cells (.slice none 0 0) (.slice none 0 0)) 27)) w.heap.size 27 (d.cells (.slice pp d.progs.length cp) (.slice ps d.starts.length cs)) := (Blk.new w _ _).alloc _
  have hr0 : Blk ((w.alloc (.cells (d.cells (.slice pp d.progs.length cp) (.slice ps d.starts.length cs)) 27)).alloc (.cells (zeroY.cells (.slice none 0 0) (.slice none 0 0)) 27)) (w.heap.size + 1) 27 (zeroY.cells (.slice none 0 0) (.slice none 0 0)) := two_new w _ _ _
  have hb0 := below_alloc2 w (.cells (d.cells (.slice pp d.progs.length cp) (.slice ps d.starts.length cs)) 27) (.cells (zeroY.cells (.slice none 0 0) (.slice none 0 0)) 27)
  obtain ⟨Z, hZ⟩ : ∃ Z : ByteArray, Z = ⟨z.toArray⟩ := ⟨_, rfl⟩
  have HZ := Lib.hid hZ
  have tz := str_is Z z dutyW hZ false (by simpa using (by rw [hz]; decide : z ≠ dutyW))
  unfold dutyW at tz
  have ty := str_is Z z startW hZ true (by simpa using hz)
  unfold startW at ty
  have tl : ((((readY ws 1).getD []).length : Int) != 3) = true := by simp; omega
  clear hs hD hZ hz hR
  go_enter Tryz.func40, Tryz.ntmps40
  go_wp2_with (first
    | (refine wpList_box_agg rfl 27 _ rfl (d.cells (.slice pp d.progs.length cp) (.slice ps d.starts.length cs)) rfl ?_)
    | (refine wpList_alloc_agg rfl 27 rfl (zeroY.cells (.slice none 0 0) (.slice none 0 0)) zeroYR ?_)
    | (go_at_call 79; (with_reducible refine (hw _).mono ?_); clear hw; rintro e w1 ⟨v, rfl, hown, hb1⟩; have hd1 := hd0.below hb1 hd0.lt; have hr1 := hr0.below hb1 hr0.lt; have hb01 := below_pre hb0 hb1; have hrr : RV w1 (fun b => b < w1.heap.size) _ _ 1 _ := (RV.of_own hown).mono (fun k hk _ => hk); obtain ⟨p, c, rfl, hnc, _⟩ := id hrr; obtain ⟨b, off, rfl, hbl, _, hcell⟩ := hrr.at1 0 (sV z) rfl; rw [Nat.add_zero, sV, ← HZ.out] at hcell; rw [List.length_cons] at hnc; have hrr2 : RV w1 (fun b => b < w1.heap.size) (.slice (some ⟨b, off, none⟩) (ws.length + 1) c) (ws.length + 1) 1 (sV z :: ws.map sV) := hrr; have htl := rv_tail hrr2; clear hrr hrr2)
    | (go_at_call 80; (with_reducible refine (RReadY_at 1 1 rfl (by decide) ws (by omega) hsm _ _ w1 (fun _ hk => hk) htl).mono ?_); rintro e w2 ⟨x, rfl, hx, hb2⟩; obtain ⟨xp, xc, rfl⟩ := own_shape9 hx; have hd2 := hd1.below hb2 hd1.lt; have hr2 := hr1.below hb2 hr1.lt; have hb02 := below_pre hb01 hb2)
    | (refine wpList_load_row rfl 27 _ rfl w.heap.size rfl 27 _ (0, 0) _ hd2 Tryz.underlying27 rfl (sizeY _ _ _) ?_)
    | (refine wpList_store_row rfl 27 _ _ rfl (w.heap.size + 1) (d.cells (.slice pp d.progs.length cp) (.slice ps d.starts.length cs)) rfl rfl 27 _ hr2 (sizeY _ _ _) rfl (oneY _ _ _ _ _ _ _) ?_))
  all_goals refine bodyPost_ret (results_row_tmp rfl _ _ (w.heap.size + 1) 27 (d.cells (.slice pp d.progs.length cp) (.slice ps d.starts.length cs)) (0, 0) _ rfl (hr2.row _) Tryz.underlying27 rfl (sizeY _ _ _)) rfl ?_
  all_goals exact ⟨rfl, hb02.trans (foot_row _ (by omega))⟩

set_option maxRecDepth 100000 in
set_option maxHeartbeats 4000000 in
theorem RLineY_out (d : Dut) (pp ps : Option Addr) (cp cs : Nat) (s : ByteArray) (hs : s.size ≤ 4000) (w : World) (z : List UInt8) (ws : List (List UInt8)) (hD : wordsGo [] s.data.toList = z :: ws) (hz : z ≠ dutyW) (hz2 : z ≠ startW) (hst : d.starts ≠ []) :
    Calls Tryz.prog 40 #[.agg (d.cells (.slice pp d.progs.length cp) (.slice ps d.starts.length cs)), .string s, .bool false] w fun e w' => e = .returned (.tuple #[.agg (d.cells (.slice pp d.progs.length cp) (.slice ps d.starts.length cs)), .int .i64 15]) ∧ Below w.heap.size w w' := by
  have hw := RWords_any s hs
  rw [hD] at hw
  have hd0 : Blk ((w.alloc (.cells (d.cells (.slice pp d.progs.length cp) (.slice ps d.starts.length cs)) 27)).alloc (.cells (zeroY.cells (.slice none 0 0) (.slice none 0 0)) 27)) w.heap.size 27 (d.cells (.slice pp d.progs.length cp) (.slice ps d.starts.length cs)) := (Blk.new w _ _).alloc _
  have hr0 : Blk ((w.alloc (.cells (d.cells (.slice pp d.progs.length cp) (.slice ps d.starts.length cs)) 27)).alloc (.cells (zeroY.cells (.slice none 0 0) (.slice none 0 0)) 27)) (w.heap.size + 1) 27 (zeroY.cells (.slice none 0 0) (.slice none 0 0)) := two_new w _ _ _
  have hb0 := below_alloc2 w (.cells (d.cells (.slice pp d.progs.length cp) (.slice ps d.starts.length cs)) 27) (.cells (zeroY.cells (.slice none 0 0) (.slice none 0 0)) 27)
  obtain ⟨Z, hZ⟩ : ∃ Z : ByteArray, Z = ⟨z.toArray⟩ := ⟨_, rfl⟩
  have HZ := Lib.hid hZ
  have tz := str_is Z z dutyW hZ false (by simpa using hz)
  unfold dutyW at tz
  have ty := str_is Z z startW hZ false (by simpa using hz2)
  unfold startW at ty
  have t1 : decide (0 < d.starts.length) = true := by have := List.length_pos_iff.2 hst; simpa using this
  clear hs hD hZ hz hz2 hst
  go_enter Tryz.func40, Tryz.ntmps40
  go_wp2_with (first
    | (refine wpList_box_agg rfl 27 _ rfl (d.cells (.slice pp d.progs.length cp) (.slice ps d.starts.length cs)) rfl ?_)
    | (refine wpList_alloc_agg rfl 27 rfl (zeroY.cells (.slice none 0 0) (.slice none 0 0)) zeroYR ?_)
    | (go_at_call 79; (with_reducible refine (hw _).mono ?_); clear hw; rintro e w1 ⟨v, rfl, hown, hb1⟩; have hd1 := hd0.below hb1 hd0.lt; have hr1 := hr0.below hb1 hr0.lt; have hb01 := below_pre hb0 hb1; have hrr : RV w1 (fun b => b < w1.heap.size) _ _ 1 _ := (RV.of_own hown).mono (fun k hk _ => hk); obtain ⟨p, c, rfl, hnc, _⟩ := id hrr; obtain ⟨b, off, rfl, hbl, _, hcell⟩ := hrr.at1 0 (sV z) rfl; rw [Nat.add_zero, sV, ← HZ.out] at hcell; rw [List.length_cons] at hnc; have c8 : w1.cell? ⟨w.heap.size, 8, none⟩ = some (.slice ps d.starts.length cs) := hd1.cell 8)
    | (refine wpList_load_row rfl 27 _ rfl w.heap.size rfl 27 _ (0, 0) _ hd1 Tryz.underlying27 rfl (sizeY _ _ _) ?_)
    | (refine wpList_store_row rfl 27 _ _ rfl (w.heap.size + 1) (d.cells (.slice pp d.progs.length cp) (.slice ps d.starts.length cs)) rfl rfl 27 _ hr1 (sizeY _ _ _) rfl (oneY _ _ _ _ _ _ _) ?_))
  refine bodyPost_ret (results_row_tmp rfl _ _ (w.heap.size + 1) 27 (d.cells (.slice pp d.progs.length cp) (.slice ps d.starts.length cs)) (0, 0) _ rfl (hr1.row _) Tryz.underlying27 rfl (sizeY _ _ _)) rfl ?_
  exact ⟨rfl, hb01.trans (foot_row _ (by omega))⟩

set_option maxRecDepth 100000 in
set_option maxHeartbeats 4000000 in
theorem RLineY_word (d : Dut) (pp ps : Option Addr) (cp cs : Nat) (s : ByteArray) (hs : s.size ≤ 4000) (w : World) (z : List UInt8) (ws : List (List UInt8)) (hD : wordsGo [] s.data.toList = z :: ws) (hz : z ≠ dutyW) (hz2 : z ≠ startW) (hz3 : z ≠ progW) (hst : d.starts = []) (hop : opOf z = 0) :
    Calls Tryz.prog 40 #[.agg (d.cells (.slice pp d.progs.length cp) (.slice ps d.starts.length cs)), .string s, .bool false] w fun e w' => e = .returned (.tuple #[.agg (d.cells (.slice pp d.progs.length cp) (.slice ps d.starts.length cs)), .int .i64 15]) ∧ Below w.heap.size w w' := by
  have hw := RWords_any s hs
  rw [hD] at hw
  have hd0 : Blk ((w.alloc (.cells (d.cells (.slice pp d.progs.length cp) (.slice ps d.starts.length cs)) 27)).alloc (.cells (zeroY.cells (.slice none 0 0) (.slice none 0 0)) 27)) w.heap.size 27 (d.cells (.slice pp d.progs.length cp) (.slice ps d.starts.length cs)) := (Blk.new w _ _).alloc _
  have hr0 : Blk ((w.alloc (.cells (d.cells (.slice pp d.progs.length cp) (.slice ps d.starts.length cs)) 27)).alloc (.cells (zeroY.cells (.slice none 0 0) (.slice none 0 0)) 27)) (w.heap.size + 1) 27 (zeroY.cells (.slice none 0 0) (.slice none 0 0)) := two_new w _ _ _
  have hb0 := below_alloc2 w (.cells (d.cells (.slice pp d.progs.length cp) (.slice ps d.starts.length cs)) 27) (.cells (zeroY.cells (.slice none 0 0) (.slice none 0 0)) 27)
  obtain ⟨Z, hZ⟩ : ∃ Z : ByteArray, Z = ⟨z.toArray⟩ := ⟨_, rfl⟩
  have HZ := Lib.hid hZ
  have tz := str_is Z z dutyW hZ false (by simpa using hz)
  unfold dutyW at tz
  have ty := str_is Z z startW hZ false (by simpa using hz2)
  unfold startW at ty
  have tx := str_is Z z progW hZ false (by simpa using hz3)
  unfold progW at tx
  have hnm := NameY_any Z
  rw [show Z.data.toList = z by rw [hZ], show decide (opOf z ≠ 0) = false by simpa using hop] at hnm
  have t1 : decide (0 < d.starts.length) = false := by simp [hst]
  clear hs hD hZ hz hz2 hz3 hst hop
  go_enter Tryz.func40, Tryz.ntmps40
  go_wp2_with (first
    | (refine wpList_box_agg rfl 27 _ rfl (d.cells (.slice pp d.progs.length cp) (.slice ps d.starts.length cs)) rfl ?_)
    | (refine wpList_alloc_agg rfl 27 rfl (zeroY.cells (.slice none 0 0) (.slice none 0 0)) zeroYR ?_)
    | (go_at_call 79; (with_reducible refine (hw _).mono ?_); clear hw; rintro e w1 ⟨v, rfl, hown, hb1⟩; have hd1 := hd0.below hb1 hd0.lt; have hr1 := hr0.below hb1 hr0.lt; have hb01 := below_pre hb0 hb1; have hrr : RV w1 (fun b => b < w1.heap.size) _ _ 1 _ := (RV.of_own hown).mono (fun k hk _ => hk); obtain ⟨p, c, rfl, hnc, _⟩ := id hrr; obtain ⟨b, off, rfl, hbl, _, hcell⟩ := hrr.at1 0 (sV z) rfl; rw [Nat.add_zero, sV, ← HZ.out] at hcell; rw [List.length_cons] at hnc; have c8 : w1.cell? ⟨w.heap.size, 8, none⟩ = some (.slice ps d.starts.length cs) := hd1.cell 8)
    | (go_at_call 81; (with_reducible refine (hnm _).mono ?_); clear hnm; rintro e w2 ⟨rfl, hb2⟩; have hd2 := hd1.below hb2 hd1.lt; have hr2 := hr1.below hb2 hr1.lt; have hb02 := below_pre hb01 hb2)
    | (refine wpList_load_row rfl 27 _ rfl w.heap.size rfl 27 _ (0, 0) _ hd2 Tryz.underlying27 rfl (sizeY _ _ _) ?_)
    | (refine wpList_store_row rfl 27 _ _ rfl (w.heap.size + 1) (d.cells (.slice pp d.progs.length cp) (.slice ps d.starts.length cs)) rfl rfl 27 _ hr2 (sizeY _ _ _) rfl (oneY _ _ _ _ _ _ _) ?_))
  refine bodyPost_ret (results_row_tmp rfl _ _ (w.heap.size + 1) 27 (d.cells (.slice pp d.progs.length cp) (.slice ps d.starts.length cs)) (0, 0) _ rfl (hr2.row _) Tryz.underlying27 rfl (sizeY _ _ _)) rfl ?_
  exact ⟨rfl, hb02.trans (foot_row _ (by omega))⟩

set_option maxRecDepth 100000 in
set_option maxHeartbeats 4000000 in
theorem RLineY_none (d : Dut) (pp ps : Option Addr) (cp cs : Nat) (s : ByteArray) (hs : s.size ≤ 4000) (w : World) (z : List UInt8) (ws : List (List UInt8)) (hD : wordsGo [] s.data.toList = z :: ws) (hz : z ≠ dutyW) (hz2 : z ≠ startW) (hz3 : z ≠ progW) (hst : d.starts = []) (hop : ¬ opOf z = 0) (hpr : d.progs = []) :
    Calls Tryz.prog 40 #[.agg (d.cells (.slice pp d.progs.length cp) (.slice ps d.starts.length cs)), .string s, .bool false] w fun e w' => e = .returned (.tuple #[.agg (d.cells (.slice pp d.progs.length cp) (.slice ps d.starts.length cs)), .int .i64 15]) ∧ Below w.heap.size w w' := by
  have hw := RWords_any s hs
  rw [hD] at hw
  have hd0 : Blk ((w.alloc (.cells (d.cells (.slice pp d.progs.length cp) (.slice ps d.starts.length cs)) 27)).alloc (.cells (zeroY.cells (.slice none 0 0) (.slice none 0 0)) 27)) w.heap.size 27 (d.cells (.slice pp d.progs.length cp) (.slice ps d.starts.length cs)) := (Blk.new w _ _).alloc _
  have hr0 : Blk ((w.alloc (.cells (d.cells (.slice pp d.progs.length cp) (.slice ps d.starts.length cs)) 27)).alloc (.cells (zeroY.cells (.slice none 0 0) (.slice none 0 0)) 27)) (w.heap.size + 1) 27 (zeroY.cells (.slice none 0 0) (.slice none 0 0)) := two_new w _ _ _
  have hb0 := below_alloc2 w (.cells (d.cells (.slice pp d.progs.length cp) (.slice ps d.starts.length cs)) 27) (.cells (zeroY.cells (.slice none 0 0) (.slice none 0 0)) 27)
  obtain ⟨Z, hZ⟩ : ∃ Z : ByteArray, Z = ⟨z.toArray⟩ := ⟨_, rfl⟩
  have HZ := Lib.hid hZ
  have tz := str_is Z z dutyW hZ false (by simpa using hz)
  unfold dutyW at tz
  have ty := str_is Z z startW hZ false (by simpa using hz2)
  unfold startW at ty
  have tx := str_is Z z progW hZ false (by simpa using hz3)
  unfold progW at tx
  have hnm := NameY_any Z
  rw [show Z.data.toList = z by rw [hZ], show decide (opOf z ≠ 0) = true by simpa using hop] at hnm
  have t1 : decide (0 < d.starts.length) = false := by simp [hst]
  have t7 : decide (0 < d.progs.length) = false := by simp [hpr]
  clear hs hD hZ hz hz2 hz3 hst hop hpr
  go_enter Tryz.func40, Tryz.ntmps40
  go_wp2_with (first
    | (refine wpList_box_agg rfl 27 _ rfl (d.cells (.slice pp d.progs.length cp) (.slice ps d.starts.length cs)) rfl ?_)
    | (refine wpList_alloc_agg rfl 27 rfl (zeroY.cells (.slice none 0 0) (.slice none 0 0)) zeroYR ?_)
    | (go_at_call 79; (with_reducible refine (hw _).mono ?_); clear hw; rintro e w1 ⟨v, rfl, hown, hb1⟩; have hd1 := hd0.below hb1 hd0.lt; have hr1 := hr0.below hb1 hr0.lt; have hb01 := below_pre hb0 hb1; have hrr : RV w1 (fun b => b < w1.heap.size) _ _ 1 _ := (RV.of_own hown).mono (fun k hk _ => hk); obtain ⟨p, c, rfl, hnc, _⟩ := id hrr; obtain ⟨b, off, rfl, hbl, _, hcell⟩ := hrr.at1 0 (sV z) rfl; rw [Nat.add_zero, sV, ← HZ.out] at hcell; rw [List.length_cons] at hnc; have c8 : w1.cell? ⟨w.heap.size, 8, none⟩ = some (.slice ps d.starts.length cs) := hd1.cell 8)
    | (go_at_call 81; (with_reducible refine (hnm _).mono ?_); clear hnm; rintro e w2 ⟨rfl, hb2⟩; have hd2 := hd1.below hb2 hd1.lt; have hr2 := hr1.below hb2 hr1.lt; have hb02 := below_pre hb01 hb2; have c7 : w2.cell? ⟨w.heap.size, 7, none⟩ = some (.slice pp d.progs.length cp) := hd2.cell 7)
    | (refine wpList_load_row rfl 27 _ rfl w.heap.size rfl 27 _ (0, 0) _ hd2 Tryz.underlying27 rfl (sizeY _ _ _) ?_)
    | (refine wpList_store_row rfl 27 _ _ rfl (w.heap.size + 1) (d.cells (.slice pp d.progs.length cp) (.slice ps d.starts.length cs)) rfl rfl 27 _ hr2 (sizeY _ _ _) rfl (oneY _ _ _ _ _ _ _) ?_))
  refine bodyPost_ret (results_row_tmp rfl _ _ (w.heap.size + 1) 27 (d.cells (.slice pp d.progs.length cp) (.slice ps d.starts.length cs)) (0, 0) _ rfl (hr2.row _) Tryz.underlying27 rfl (sizeY _ _ _)) rfl ?_
  exact ⟨rfl, hb02.trans (foot_row _ (by omega))⟩

set_option maxRecDepth 100000 in
set_option maxHeartbeats 4000000 in
theorem RLineY_prog_more (d : Dut) (pp ps : Option Addr) (cp cs : Nat) (s : ByteArray) (hs : s.size ≤ 4000) (w : World) (z : List UInt8) (ws : List (List UInt8)) (hD : wordsGo [] s.data.toList = z :: ws) (hz : z = progW) (hst : d.starts = []) (hws : ws ≠ []) :
    Calls Tryz.prog 40 #[.agg (d.cells (.slice pp d.progs.length cp) (.slice ps d.starts.length cs)), .string s, .bool false] w fun e w' => e = .returned (.tuple #[.agg (d.cells (.slice pp d.progs.length cp) (.slice ps d.starts.length cs)), .int .i64 3]) ∧ Below w.heap.size w w' := by
  have hw := RWords_any s hs
  rw [hD] at hw
  have hd0 : Blk ((w.alloc (.cells (d.cells (.slice pp d.progs.length cp) (.slice ps d.starts.length cs)) 27)).alloc (.cells (zeroY.cells (.slice none 0 0) (.slice none 0 0)) 27)) w.heap.size 27 (d.cells (.slice pp d.progs.length cp) (.slice ps d.starts.length cs)) := (Blk.new w _ _).alloc _
  have hr0 : Blk ((w.alloc (.cells (d.cells (.slice pp d.progs.length cp) (.slice ps d.starts.length cs)) 27)).alloc (.cells (zeroY.cells (.slice none 0 0) (.slice none 0 0)) 27)) (w.heap.size + 1) 27 (zeroY.cells (.slice none 0 0) (.slice none 0 0)) := two_new w _ _ _
  have hb0 := below_alloc2 w (.cells (d.cells (.slice pp d.progs.length cp) (.slice ps d.starts.length cs)) 27) (.cells (zeroY.cells (.slice none 0 0) (.slice none 0 0)) 27)
  obtain ⟨Z, hZ⟩ : ∃ Z : ByteArray, Z = ⟨z.toArray⟩ := ⟨_, rfl⟩
  have HZ := Lib.hid hZ
  have tz := str_is Z z dutyW hZ false (by simpa using (by rw [hz]; decide : z ≠ dutyW))
  unfold dutyW at tz
  have ty := str_is Z z startW hZ false (by simpa using (by rw [hz]; decide : z ≠ startW))
  unfold startW at ty
  have tx := str_is Z z progW hZ true (by simpa using hz)
  unfold progW at tx
  have t1 : decide (0 < d.starts.length) = false := by simp [hst]
  have t2 : (1 : Int) < (ws.length : Int) + 1 := by have := List.length_pos_iff.2 hws; omega
  have t3 : decide (0 < ws.length) = true := by have := List.length_pos_iff.2 hws; simpa using this
  clear hs hD hZ hz hst hws
  go_enter Tryz.func40, Tryz.ntmps40
  go_wp2_with (first
    | (refine wpList_box_agg rfl 27 _ rfl (d.cells (.slice pp d.progs.length cp) (.slice ps d.starts.length cs)) rfl ?_)
    | (refine wpList_alloc_agg rfl 27 rfl (zeroY.cells (.slice none 0 0) (.slice none 0 0)) zeroYR ?_)
    | (go_at_call 79; (with_reducible refine (hw _).mono ?_); clear hw; rintro e w1 ⟨v, rfl, hown, hb1⟩; have hd1 := hd0.below hb1 hd0.lt; have hr1 := hr0.below hb1 hr0.lt; have hb01 := below_pre hb0 hb1; have hrr : RV w1 (fun b => b < w1.heap.size) _ _ 1 _ := (RV.of_own hown).mono (fun k hk _ => hk); obtain ⟨p, c, rfl, hnc, _⟩ := id hrr; obtain ⟨b, off, rfl, hbl, _, hcell⟩ := hrr.at1 0 (sV z) rfl; rw [Nat.add_zero, sV, ← HZ.out] at hcell; rw [List.length_cons] at hnc; have c8 : w1.cell? ⟨w.heap.size, 8, none⟩ = some (.slice ps d.starts.length cs) := hd1.cell 8)
    | (refine wpList_load_row rfl 27 _ rfl w.heap.size rfl 27 _ (0, 0) _ hd1 Tryz.underlying27 rfl (sizeY _ _ _) ?_)
    | (refine wpList_store_row rfl 27 _ _ rfl (w.heap.size + 1) (d.cells (.slice pp d.progs.length cp) (.slice ps d.starts.length cs)) rfl rfl 27 _ hr1 (sizeY _ _ _) rfl (oneY _ _ _ _ _ _ _) ?_))
  refine bodyPost_ret (results_row_tmp rfl _ _ (w.heap.size + 1) 27 (d.cells (.slice pp d.progs.length cp) (.slice ps d.starts.length cs)) (0, 0) _ rfl (hr1.row _) Tryz.underlying27 rfl (sizeY _ _ _)) rfl ?_
  exact ⟨rfl, hb01.trans (foot_row _ (by omega))⟩

end Go.Proofs.YtbdimfcdpkldpaaGreatDoor
