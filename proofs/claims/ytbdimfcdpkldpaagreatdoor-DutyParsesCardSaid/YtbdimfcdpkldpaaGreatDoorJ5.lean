/- The contract of the reference's line: a program's line, and an instruction's. -/
import Derived.Test.YtbdimfcdpkldpaaGreatDoorJ2
import Derived.Test.YtbdimfcdpkldpaaGreatDoorZ12
import Derived.Test.YtbdimfcdpkldpaaGreatDoorLD6
namespace Go.Proofs.YtbdimfcdpkldpaaGreatDoor
open Go.RowKit

set_option maxRecDepth 100000 in
set_option maxHeartbeats 4000000 in
theorem RLineY_prog (d : Dut) (pp ps : Option Addr) (cp cs : Nat) (s : ByteArray) (hs : s.size ≤ 4000) (w : World) (z : List UInt8) (ws : List (List UInt8)) (hD : wordsGo [] s.data.toList = z :: ws) (hz : z = progW) (hst : d.starts = []) (hws : ws = []) (B : Nat) (hB : B ≤ w.heap.size) (hdo : DOwn w B (.slice pp d.progs.length cp) (.slice ps d.starts.length cs) d) (hfew : d.progs.length ≤ 20000) :
    Calls Tryz.prog 40 #[.agg (d.cells (.slice pp d.progs.length cp) (.slice ps d.starts.length cs)), .string s, .bool false] w fun e w' => (∃ pv sv, e = .returned (.tuple #[.agg (({ d with progs := d.progs ++ [[]] } : Dut).cells pv sv), .int .i64 0]) ∧ DOwn w' B pv sv ({ d with progs := d.progs ++ [[]] } : Dut)) ∧ Below B w w' ∧ Keep3 w w' := by
  have hw := RWords_any s hs
  rw [hD] at hw
  have hd0 : Blk ((w.alloc (.cells (d.cells (.slice pp d.progs.length cp) (.slice ps d.starts.length cs)) 27)).alloc (.cells (zeroY.cells (.slice none 0 0) (.slice none 0 0)) 27)) w.heap.size 27 (d.cells (.slice pp d.progs.length cp) (.slice ps d.starts.length cs)) := (Blk.new w _ _).alloc _
  have hr0 : Blk ((w.alloc (.cells (d.cells (.slice pp d.progs.length cp) (.slice ps d.starts.length cs)) 27)).alloc (.cells (zeroY.cells (.slice none 0 0) (.slice none 0 0)) 27)) (w.heap.size + 1) 27 (zeroY.cells (.slice none 0 0) (.slice none 0 0)) := two_new w _ _ _
  have hb0 := below_alloc2 w (.cells (d.cells (.slice pp d.progs.length cp) (.slice ps d.starts.length cs)) 27) (.cells (zeroY.cells (.slice none 0 0) (.slice none 0 0)) 27)
  obtain ⟨Z, hZ⟩ : ∃ Z : ByteArray, Z = ⟨z.toArray⟩ := ⟨_, rfl⟩
  have HZ := Lib.hid hZ
  have tz := str_is Z z dutyW hZ false (by simpa using (by rw [hz]; decide : z ≠ dutyW))
  unfold dutyW at tz
  have ty := str_is Z z startW hZ false (by simpa using (by rw [hz]; decide : z ≠ startW))
  unfold startW at ty
  have tx := str_is Z z progW hZ true (by simpa using hz)
  unfold progW at tx
  have t1 : decide (0 < d.starts.length) = false := by simp [hst]
  have t2 : ¬ (1 : Int) < (ws.length : Int) + 1 := by rw [hws]; decide
  have t3 : decide (0 < ws.length) = false := by simp [hws]
  obtain ⟨i0, hi, hz0, hz1, hz2⟩ := info_parts (show (Tryz.prog.info? 45).map (fun i => (i.zero, i.size, i.bytes)) = some (some (.slice none 0 0), 1, 24) by kernel_rfl)
  obtain ⟨us, hl2, ho2, hmk⟩ := hdo.progs.outer (by decide)
  have hos := hdo.starts
  have hgs : ∀ k, (Value.slice pp d.progs.length cp).ownBlock = some k → k < w.heap.size := fun k hk => (ho2.lt k hk).2
  have HMK := Lib.hid hmk
  clear hs hD hZ hz hst hws hdo hmk
  go_enter Tryz.func40, Tryz.ntmps40
  go_wp2_with (first
    | (refine wpList_box_agg rfl 27 _ rfl (d.cells (.slice pp d.progs.length cp) (.slice ps d.starts.length cs)) rfl ?_)
    | (refine wpList_alloc_agg rfl 27 rfl (zeroY.cells (.slice none 0 0) (.slice none 0 0)) zeroYR ?_)
    | (go_at_call 79; (with_reducible refine (hw _).mono ?_); clear hw; rintro e w1 ⟨v, rfl, hown, hb1⟩; have hd1 := hd0.below hb1 hd0.lt; have hr1 := hr0.below hb1 hr0.lt; have hb01 := below_pre hb0 hb1; have hrr : RV w1 (fun b => b < w1.heap.size) _ _ 1 _ := (RV.of_own hown).mono (fun k hk _ => hk); obtain ⟨p, c, rfl, hnc, _⟩ := id hrr; obtain ⟨b, off, rfl, hbl, _, hcell⟩ := hrr.at1 0 (sV z) rfl; rw [Nat.add_zero, sV, ← HZ.out] at hcell; rw [List.length_cons] at hnc; have c8 : w1.cell? ⟨w.heap.size, 8, none⟩ = some (.slice ps d.starts.length cs) := hd1.cell 8; have c7 : w1.cell? ⟨w.heap.size, 7, none⟩ = some (.slice pp d.progs.length cp) := hd1.cell 7; have ho3 := ownsRow_below ho2 hb01 (Nat.le_refl _))
    | (at_builtin; refine wpList_append_lits rfl _ _ 24 rfl B 45 i0 (.slice none 0 0) 24 Tryz.underlying24 hi hz0 hz1 hz2 rfl (by decide) ho3 rfl _ rfl rfl rfl (by omega) (by have := hb01.size; omega) ?_; intro v' w2 ho5 hb2 _ hf2; obtain ⟨np, nc, rfl⟩ := own_shape9 ho5; have hf0 : Foot (fun k => (Value.slice pp d.progs.length cp).ownBlock = some k) w w2 := (Foot.of_below _ hb01).trans hf2; have hd2 := hd1.foot hf2 (fun e => by have := hgs _ e; omega); have hr2 := hr1.foot hf2 (fun e => by have := hgs _ e; omega); have hfr := hd2.frozen 7; have hc3 : w2.cell? ⟨w.heap.size, 7, none⟩ = some (.slice pp d.progs.length cp) := hd2.cell 7; have hd3 : Blk _ w.heap.size 27 (({ d with progs := d.progs ++ [[]] } : Dut).cells (.slice np (d.progs.length + 1) nc) (.slice ps d.starts.length cs)) := hd2.set 7 (.slice np (d.progs.length + 1) nc); have hr3 := hr2.far (p := ⟨w.heap.size, 7, none⟩) (by simp) (.slice np (d.progs.length + 1) nc))
    | (refine wpList_load_row rfl 27 _ rfl w.heap.size rfl 27 _ (0, 0) _ hd3 Tryz.underlying27 rfl (sizeY _ _ _) ?_)
    | (refine wpList_store_row rfl 27 _ _ rfl (w.heap.size + 1) (({ d with progs := d.progs ++ [[]] } : Dut).cells (.slice np (d.progs.length + 1) nc) (.slice ps d.starts.length cs)) rfl rfl 27 _ hr3 (sizeY _ _ _) rfl (oneY _ _ _ _ _ _ _) ?_))
  refine bodyPost_ret (results_row_tmp rfl _ _ (w.heap.size + 1) 27 (({ d with progs := d.progs ++ [[]] } : Dut).cells (.slice np (d.progs.length + 1) nc) (.slice ps d.starts.length cs)) (0, 0) _ rfl (hr3.row _) Tryz.underlying27 rfl (sizeY _ _ _)) rfl ?_
  have hfs := foot_cell w2 w.heap.size 7 (.slice np (d.progs.length + 1) nc)
  have hfr9 := foot_setRow (w2.setCell ⟨w.heap.size, 7, none⟩ (.slice np (d.progs.length + 1) nc)) (w.heap.size + 1) (({ d with progs := d.progs ++ [[]] } : Dut).cells (.slice np (d.progs.length + 1) nc) (.slice ps d.starts.length cs))
  refine ⟨⟨_, _, rfl, ?_, ?_⟩, (((hb01.mono hB).trans hb2).trans (hfs.below (by have := hb2.size; have := hb01.size; omega) (fun k hk => by omega))).trans (foot_row _ (by omega)), (((Keep3.of_below hb01).own ho3 (.inl rfl) hf2).far hfs (Nat.le_refl _)).far hfr9 (by omega)⟩
  · exact ((HMK.out _ (.slice none 0 0) [] w2 ho5 hf0 (World.ownsRow_nil _ _ _ _) (fun k hk => by simp [Value.ownBlock] at hk)).far hd2 (by decide) (by decide) hfs).far hr3 (by decide) (by decide) hfr9
  · exact own_far (own_far (hf0.own hos (own_apart hos ho2 (by decide))) hd2 (by decide) hfs) hr3 (by decide) hfr9

set_option maxRecDepth 100000 in
set_option maxHeartbeats 8000000 in
theorem RLineY_bad (d : Dut) (vp : Value) (ps : Option Addr) (cs : Nat) (s : ByteArray) (hs : s.size ≤ 4000) (w : World) (z : List UInt8) (ws : List (List UInt8)) (hD : wordsGo [] s.data.toList = z :: ws) (hz : z ≠ dutyW) (hz2 : z ≠ startW) (hz3 : z ≠ progW) (hst : d.starts = []) (hop : ¬ opOf z = 0) (D : Deed) (y : Nat) (hpd : parseD s.data.toList = (D, y)) (hy : y ≠ 0) (B : Nat) (hB : B ≤ w.heap.size) (qs : List (List Deed)) (p : List Deed) (hpq : d.progs = qs ++ [p]) (hdo : DOwn w B vp (.slice ps d.starts.length cs) d) (hfew : qs.length ≤ 20000) (_hfew2 : p.length ≤ 20000) :
    Calls Tryz.prog 40 #[.agg (d.cells vp (.slice ps d.starts.length cs)), .string s, .bool false] w fun e w' => (∃ pp n c, e = .returned (.tuple #[.agg (d.cells (.slice pp n c) (.slice ps d.starts.length cs)), .int .i64 (y : Int)])) ∧ Below B w w' ∧ Keep3 w w' := by
  have hw := RWords_any s hs
  rw [hD] at hw
  have hps := fun W => RParse_any s hs W
  rw [show parseD s.data.toList = (D, y) from hpd] at hps
  simp only [Deed.val] at hps
  have hpro := hdo.progs
  rw [hpq] at hpro
  obtain ⟨us, hl2, ho2, _⟩ := id hpro
  rw [List.length_append, List.length_singleton] at ho2
  obtain ⟨g, cap, u, rfl, hBg, hgl, hu, hug, hcell9, hmk⟩ := hpro.last (by decide)
  obtain ⟨up, uc, rfl⟩ := own_shape9 hu
  have hos := hdo.starts
  have t1 : decide (0 < d.starts.length) = false := by simp [hst]
  have tw : Hid (wrap64 ((qs.length : Int) + 1 - 1) = (qs.length : Int)) := Lib.hid (by rw [IntWalk.wrap64_in _ (by omega)]; omega)
  have tq : (0 : Int) < (qs.length : Int) + 1 := by omega
  have t0 : ¬ (qs.length : Int) < 0 := by omega
  have ti : (qs.length : Int) < (qs.length : Int) + 1 := by omega
  have HMK := Lib.hid hmk
  have HCE := Lib.hid hcell9
  have HST := Lib.hid hst
  have hd0 : Blk ((w.alloc (.cells (d.cells (.slice (some ⟨g, 0, none⟩) (qs.length + 1) cap) (.slice ps d.starts.length cs)) 27)).alloc (.cells (zeroY.cells (.slice none 0 0) (.slice none 0 0)) 27)) w.heap.size 27 (d.cells (.slice (some ⟨g, 0, none⟩) (qs.length + 1) cap) (.slice ps d.starts.length cs)) := (Blk.new w _ _).alloc _
  have hr0 : Blk ((w.alloc (.cells (d.cells (.slice (some ⟨g, 0, none⟩) (qs.length + 1) cap) (.slice ps d.starts.length cs)) 27)).alloc (.cells (zeroY.cells (.slice none 0 0) (.slice none 0 0)) 27)) (w.heap.size + 1) 27 (zeroY.cells (.slice none 0 0) (.slice none 0 0)) := two_new w _ _ _
  have hb0 := below_alloc2 w (.cells (d.cells (.slice (some ⟨g, 0, none⟩) (qs.length + 1) cap) (.slice ps d.starts.length cs)) 27) (.cells (zeroY.cells (.slice none 0 0) (.slice none 0 0)) 27)
  obtain ⟨Z, hZ⟩ : ∃ Z : ByteArray, Z = ⟨z.toArray⟩ := ⟨_, rfl⟩
  have HZ := Lib.hid hZ
  have tz := str_is Z z dutyW hZ false (by simpa using hz)
  unfold dutyW at tz
  have ty := str_is Z z startW hZ false (by simpa using hz2)
  unfold startW at ty
  have tx := str_is Z z progW hZ false (by simpa using hz3)
  unfold progW at tx
  have hnm := NameY_any Z
  rw [show Z.data.toList = z by rw [hZ], show decide (opOf z ≠ 0) = true by simpa using hop] at hnm
  have hne : decide ((y : Int) = 0) = false := by simp; omega
  have hne2 : ((y : Int) == 0) = false := by simp; omega
  clear hs hD hZ hz hz2 hz3 hst hop hdo hmk hcell9 hpro hpq hpd hy
  go_enter Tryz.func40, Tryz.ntmps40
  go_wp2_with (first
    | rw [tw.out]
    | (refine wpList_box_agg rfl 27 _ rfl (d.cells (.slice (some ⟨g, 0, none⟩) (qs.length + 1) cap) (.slice ps d.starts.length cs)) rfl ?_)
    | (refine wpList_alloc_agg rfl 27 rfl (zeroY.cells (.slice none 0 0) (.slice none 0 0)) zeroYR ?_)
    | (refine wpList_alloc_agg rfl 109 rfl zeroD.cells zeroR ?_)
    | (go_at_call 79; (with_reducible refine (hw _).mono ?_); clear hw; rintro e w1 ⟨v, rfl, hown, hb1⟩; have hd1 := hd0.below hb1 hd0.lt; have hr1 := hr0.below hb1 hr0.lt; have hb01 := below_pre hb0 hb1; have hrr : RV w1 (fun b => b < w1.heap.size) _ _ 1 _ := (RV.of_own hown).mono (fun k hk _ => hk); obtain ⟨p, c, rfl, hnc, _⟩ := id hrr; obtain ⟨b, off, rfl, hbl, _, hcell⟩ := hrr.at1 0 (sV z) rfl; rw [Nat.add_zero, sV, ← HZ.out] at hcell; rw [List.length_cons] at hnc; have c8 : w1.cell? ⟨w.heap.size, 8, none⟩ = some (.slice ps d.starts.length cs) := hd1.cell 8)
    | (go_at_call 81; (with_reducible refine (hnm _).mono ?_); clear hnm; rintro e w2 ⟨rfl, hb2⟩; have hd2 := hd1.below hb2 hd1.lt; have hr2 := hr1.below hb2 hr1.lt; have hb02 := below_pre hb01 hb2; have hcell2 := (World.cell?_of_block (a := ⟨b, off, none⟩) (hb2.block b hbl)).trans hcell; have c7 : w2.cell? ⟨w.heap.size, 7, none⟩ = some (.slice (some ⟨g, 0, none⟩) (qs.length + 1) cap) := hd2.cell 7)
    | (go_at_call 82; (with_reducible refine (hps _).mono ?_); clear hps; rintro e w3 ⟨rfl, hb3⟩; have hd3 := hd2.below hb3 hd2.lt; have hr3 := hr2.below hb3 hr2.lt; have hb03 := below_pre hb02 hb3; have ha4 := below_alloc1 w3 (.cells D.cells 109); have hd4 := hd3.below ha4 hd3.lt; have hr4 := hr3.below ha4 hr3.lt; have hb04 := below_pre hb03 ha4; have hD4 := Blk.new w3 109 D.cells; have c74 : (w3.alloc (.cells D.cells 109)).cell? ⟨w.heap.size, 7, none⟩ = some (.slice (some ⟨g, 0, none⟩) (qs.length + 1) cap) := hd4.cell 7)
    | (refine wpList_store_row rfl 109 _ _ rfl w3.heap.size D.cells rfl rfl 109 _ (heap_alloc_new w3 _) (sizeD _) rfl (oneD _) ?_; rw [World.setRow_alloc_new])
    | (refine wpList_load_row rfl 27 _ rfl w.heap.size rfl 27 _ (0, 0) _ hd4 Tryz.underlying27 rfl (sizeY _ _ _) ?_)
    | (refine wpList_store_row rfl 27 _ _ rfl (w.heap.size + 1) (d.cells (.slice (some ⟨g, 0, none⟩) (qs.length + 1) cap) (.slice ps d.starts.length cs)) rfl rfl 27 _ hr4 (sizeY _ _ _) rfl (oneY _ _ _ _ _ _ _) ?_))
  refine bodyPost_ret (results_row_tmp rfl _ _ (w.heap.size + 1) 27 (d.cells (.slice (some ⟨g, 0, none⟩) (qs.length + 1) cap) (.slice ps d.starts.length cs)) (0, 0) _ rfl (hr4.row _) Tryz.underlying27 rfl (sizeY _ _ _)) rfl ?_
  exact ⟨⟨_, _, _, rfl⟩, (hb04.mono hB).trans (foot_row _ (by omega)), (Keep3.of_below hb04).far (foot_setRow _ _ _) (by omega)⟩

set_option maxRecDepth 100000 in
set_option maxHeartbeats 8000000 in
theorem RLineY_deed (d : Dut) (vp : Value) (ps : Option Addr) (cs : Nat) (s : ByteArray) (hs : s.size ≤ 4000) (w : World) (z : List UInt8) (ws : List (List UInt8)) (hD : wordsGo [] s.data.toList = z :: ws) (hz : z ≠ dutyW) (hz2 : z ≠ startW) (hz3 : z ≠ progW) (hst : d.starts = []) (hop : ¬ opOf z = 0) (D : Deed) (y : Nat) (hpd : parseD s.data.toList = (D, y)) (hy : y = 0) (B : Nat) (hB : B ≤ w.heap.size) (qs : List (List Deed)) (p : List Deed) (hpq : d.progs = qs ++ [p]) (hdo : DOwn w B vp (.slice ps d.starts.length cs) d) (hfew : qs.length ≤ 20000) (hfew2 : p.length ≤ 20000) :
    Calls Tryz.prog 40 #[.agg (d.cells vp (.slice ps d.starts.length cs)), .string s, .bool false] w fun e w' => (∃ pv sv, e = .returned (.tuple #[.agg (({ d with progs := qs ++ [p ++ [D]] } : Dut).cells pv sv), .int .i64 0]) ∧ DOwn w' B pv sv ({ d with progs := qs ++ [p ++ [D]] } : Dut)) ∧ Below B w w' ∧ Keep3 w w' := by
  have hw := RWords_any s hs
  rw [hD] at hw
  have hps := fun W => RParse_any s hs W
  rw [show parseD s.data.toList = (D, y) from hpd] at hps
  simp only [Deed.val] at hps
  have hpro := hdo.progs
  rw [hpq] at hpro
  obtain ⟨us, hl2, ho2, _⟩ := id hpro
  rw [List.length_append, List.length_singleton] at ho2
  obtain ⟨g, cap, u, rfl, hBg, hgl, hu, hug, hcell9, hmk⟩ := hpro.last (by decide)
  obtain ⟨up, uc, rfl⟩ := own_shape9 hu
  have hos := hdo.starts
  have t1 : decide (0 < d.starts.length) = false := by simp [hst]
  have tw : Hid (wrap64 ((qs.length : Int) + 1 - 1) = (qs.length : Int)) := Lib.hid (by rw [IntWalk.wrap64_in _ (by omega)]; omega)
  have tq : (0 : Int) < (qs.length : Int) + 1 := by omega
  have t0 : ¬ (qs.length : Int) < 0 := by omega
  have ti : (qs.length : Int) < (qs.length : Int) + 1 := by omega
  have HMK := Lib.hid hmk
  have HCE := Lib.hid hcell9
  have HST := Lib.hid hst
  have hd0 : Blk ((w.alloc (.cells (d.cells (.slice (some ⟨g, 0, none⟩) (qs.length + 1) cap) (.slice ps d.starts.length cs)) 27)).alloc (.cells (zeroY.cells (.slice none 0 0) (.slice none 0 0)) 27)) w.heap.size 27 (d.cells (.slice (some ⟨g, 0, none⟩) (qs.length + 1) cap) (.slice ps d.starts.length cs)) := (Blk.new w _ _).alloc _
  have hr0 : Blk ((w.alloc (.cells (d.cells (.slice (some ⟨g, 0, none⟩) (qs.length + 1) cap) (.slice ps d.starts.length cs)) 27)).alloc (.cells (zeroY.cells (.slice none 0 0) (.slice none 0 0)) 27)) (w.heap.size + 1) 27 (zeroY.cells (.slice none 0 0) (.slice none 0 0)) := two_new w _ _ _
  have hb0 := below_alloc2 w (.cells (d.cells (.slice (some ⟨g, 0, none⟩) (qs.length + 1) cap) (.slice ps d.starts.length cs)) 27) (.cells (zeroY.cells (.slice none 0 0) (.slice none 0 0)) 27)
  obtain ⟨Z, hZ⟩ : ∃ Z : ByteArray, Z = ⟨z.toArray⟩ := ⟨_, rfl⟩
  have HZ := Lib.hid hZ
  have tz := str_is Z z dutyW hZ false (by simpa using hz)
  unfold dutyW at tz
  have ty := str_is Z z startW hZ false (by simpa using hz2)
  unfold startW at ty
  have tx := str_is Z z progW hZ false (by simpa using hz3)
  unfold progW at tx
  have hnm := NameY_any Z
  rw [show Z.data.toList = z by rw [hZ], show decide (opOf z ≠ 0) = true by simpa using hop] at hnm
  subst hy
  clear hs hD hZ hz hz2 hz3 hst hop hdo hmk hcell9 hpro hpq hpd
  go_enter Tryz.func40, Tryz.ntmps40
  go_wp2_with (first
    | rw [tw.out]
    | (refine wpList_box_agg rfl 27 _ rfl (d.cells (.slice (some ⟨g, 0, none⟩) (qs.length + 1) cap) (.slice ps d.starts.length cs)) rfl ?_)
    | (refine wpList_alloc_agg rfl 27 rfl (zeroY.cells (.slice none 0 0) (.slice none 0 0)) zeroYR ?_)
    | (refine wpList_alloc_agg rfl 109 rfl zeroD.cells zeroR ?_)
    | (go_at_call 79; (with_reducible refine (hw _).mono ?_); clear hw; rintro e w1 ⟨v, rfl, hown, hb1⟩; have hd1 := hd0.below hb1 hd0.lt; have hr1 := hr0.below hb1 hr0.lt; have hb01 := below_pre hb0 hb1; have hrr : RV w1 (fun b => b < w1.heap.size) _ _ 1 _ := (RV.of_own hown).mono (fun k hk _ => hk); obtain ⟨p, c, rfl, hnc, _⟩ := id hrr; obtain ⟨b, off, rfl, hbl, _, hcell⟩ := hrr.at1 0 (sV z) rfl; rw [Nat.add_zero, sV, ← HZ.out] at hcell; rw [List.length_cons] at hnc; have c8 : w1.cell? ⟨w.heap.size, 8, none⟩ = some (.slice ps d.starts.length cs) := hd1.cell 8)
    | (go_at_call 81; (with_reducible refine (hnm _).mono ?_); clear hnm; rintro e w2 ⟨rfl, hb2⟩; have hd2 := hd1.below hb2 hd1.lt; have hr2 := hr1.below hb2 hr1.lt; have hb02 := below_pre hb01 hb2; have hcell2 := (World.cell?_of_block (a := ⟨b, off, none⟩) (hb2.block b hbl)).trans hcell; have c7 : w2.cell? ⟨w.heap.size, 7, none⟩ = some (.slice (some ⟨g, 0, none⟩) (qs.length + 1) cap) := hd2.cell 7)
    | (go_at_call 82; (with_reducible refine (hps _).mono ?_); clear hps; rintro e w3 ⟨rfl, hb3⟩; have hd3 := hd2.below hb3 hd2.lt; have hr3 := hr2.below hb3 hr2.lt; have hb03 := below_pre hb02 hb3; have ha4 := below_alloc1 w3 (.cells D.cells 109); have hd4 := hd3.below ha4 hd3.lt; have hr4 := hr3.below ha4 hr3.lt; have hb04 := below_pre hb03 ha4; have hD4 := Blk.new w3 109 D.cells; have c74 : (w3.alloc (.cells D.cells 109)).cell? ⟨w.heap.size, 7, none⟩ = some (.slice (some ⟨g, 0, none⟩) (qs.length + 1) cap) := hd4.cell 7)
    | (refine wpList_store_row rfl 109 _ _ rfl w3.heap.size D.cells rfl rfl 109 _ (heap_alloc_new w3 _) (sizeD _) rfl (oneD _) ?_; rw [World.setRow_alloc_new]))
  obtain ⟨W, hW⟩ : ∃ W, W = w3.alloc (.cells D.cells 109) := ⟨_, rfl⟩
  rw [← hW] at hd4 hr4 hb04 hD4 ⊢
  have hs1 : w3.heap.size < W.heap.size := hD4.lt
  have hs0 := hb03.size
  have hs9 : w.heap.size + 2 ≤ w1.heap.size := by have := hb1.size; simp at this; omega
  have hs8 : w.heap.size + 2 ≤ w3.heap.size := by have := hb2.size; have := hb3.size; omega
  clear hW c7 c74 c8 ha4
  have hbd : Below w.heap.size w W.drew := hb04.drew
  have hfd : Foot (fun k => (Value.slice up p.length uc).ownBlock = some k) w W.drew := Foot.of_below _ hbd
  have hgu : ∀ k, (Value.slice up p.length uc).ownBlock = some k → k < w.heap.size := fun k hk => (hu.lt k hk).2
  have hk2 : Blk W.drew w.heap.size 27 (d.cells (.slice (some ⟨g, 0, none⟩) (qs.length + 1) cap) (.slice ps d.starts.length cs)) := hd4
  have hk9 : Blk W.drew (w.heap.size + 1) 27 (zeroY.cells (.slice none 0 0) (.slice none 0 0)) := hr4
  have hD3 : Blk W.drew w3.heap.size 109 D.cells := hD4
  have hu2 := ownsRow_below hu hbd (Nat.le_refl _)
  refine wp_region_held_drew (S := fun w' => Blk w' w.heap.size 27 (d.cells (.slice (some ⟨g, 0, none⟩) (qs.length + 1) cap) (.slice ps d.starts.length cs)) ∧ Blk w' w3.heap.size 109 D.cells) (by kernel_rfl) ⟨hk2, hD3⟩ (fun hS0 => ?_)
  refine wpAnyH_take (i := 0) (v := ?_) rfl (by kernel_rfl) (by kernel_rfl) (by kernel_rfl) (fun _ _ _ h => h) (Or.inl ⟨by rfl, ?_⟩) hS0 ?_
  rotate_left
  · intro w1 _; go_simp; with_reducible rfl
  try simp only [List.getElem_toArray, List.getElem_cons_zero, Act.put, List.setIfInBounds_toArray, List.set_cons_zero, List.set_cons_succ]
  refine wpAnyH_take (i := 1) (v := .slice (some ⟨g, 0, none⟩) (qs.length + 1) cap) rfl (by kernel_rfl) (by kernel_rfl) (by kernel_rfl) (fun _ _ _ h => h) (Or.inl ⟨by rfl, fun w1 hS1 => by have h0 : w1.cell? ⟨w.heap.size, 7, none⟩ = some (.slice (some ⟨g, 0, none⟩) (qs.length + 1) cap) := Blk.cell (hS1.1 : Blk w1 w.heap.size 27 _) 7; go_simp⟩) hS0 ?_
  try simp only [List.getElem_toArray, List.getElem_cons_zero, List.getElem_cons_succ, Act.put, List.setIfInBounds_toArray, List.set_cons_zero, List.set_cons_succ]
  refine wpAnyH_take (i := 2) (v := ?_) rfl (by kernel_rfl) (by kernel_rfl) (by kernel_rfl) (fun _ _ _ h => h) (Or.inl ⟨by rfl, ?_⟩) hS0 ?_
  rotate_left
  · intro w1 _; go_simp; with_reducible rfl
  try simp only [List.getElem_toArray, List.getElem_cons_zero, List.getElem_cons_succ, Act.put, List.setIfInBounds_toArray, List.set_cons_zero, List.set_cons_succ]
  refine wpAnyH_take (i := 3) (v := ?_) rfl (by kernel_rfl) (by kernel_rfl) (by kernel_rfl) (fun _ _ _ h => h) (Or.inl ⟨by rfl, ?_⟩) hS0 ?_
  rotate_left
  · intro w1 _; go_simp; with_reducible rfl
  try simp only [List.getElem_toArray, List.getElem_cons_zero, List.getElem_cons_succ, Act.put, List.setIfInBounds_toArray, List.set_cons_zero, List.set_cons_succ]
  refine wpAnyH_take (i := 4) (v := .slice (some ⟨g, 0, none⟩) (qs.length + 1) cap) rfl (by kernel_rfl) (by kernel_rfl) (by kernel_rfl) (fun _ _ _ h => h) (Or.inl ⟨by rfl, fun w1 hS1 => by have h0 : w1.cell? ⟨w.heap.size, 7, none⟩ = some (.slice (some ⟨g, 0, none⟩) (qs.length + 1) cap) := Blk.cell (hS1.1 : Blk w1 w.heap.size 27 _) 7; go_simp⟩) hS0 ?_
  try simp only [List.getElem_toArray, List.getElem_cons_zero, List.getElem_cons_succ, Act.put, List.setIfInBounds_toArray, List.set_cons_zero, List.set_cons_succ]
  refine wpAnyH_take (i := 5) (v := ?_) rfl (by kernel_rfl) (by kernel_rfl) (by kernel_rfl) (fun _ _ _ h => h) (Or.inl ⟨by rfl, ?_⟩) hS0 ?_
  rotate_left
  · intro w1 _; go_simp; with_reducible rfl
  try simp only [List.getElem_toArray, List.getElem_cons_zero, List.getElem_cons_succ, Act.put, List.setIfInBounds_toArray, List.set_cons_zero, List.set_cons_succ]
  refine wpAnyH_take (i := 6) (v := ?_) rfl (by kernel_rfl) (by kernel_rfl) (by kernel_rfl) (fun _ _ _ h => h) (Or.inl ⟨by rfl, ?_⟩) hS0 ?_
  rotate_left
  · intro w1 _; go_simp; with_reducible rfl
  try simp only [List.getElem_toArray, List.getElem_cons_zero, List.getElem_cons_succ, Act.put, List.setIfInBounds_toArray, List.set_cons_zero, List.set_cons_succ]
  refine wpAnyH_take (i := 8) (v := .agg D.cells) rfl (by kernel_rfl) (by kernel_rfl) (by kernel_rfl) (fun _ _ _ h => h) (yields_row rfl 109 _ rfl w3.heap.size rfl 109 _ (0, 0) _ (fun w1 hS1 => hS1.2) Tryz.underlying109 rfl (sizeD _)) hS0 ?_
  try simp only [List.getElem_toArray, List.getElem_cons_zero, List.getElem_cons_succ, Act.put, List.setIfInBounds_toArray, List.set_cons_zero, List.set_cons_succ]
  refine wpAnyH_ready (rs := [7, 9]) (by kernel_rfl) (by simp) ?_
  refine AllReadyH.cons rfl (fun K hK => ?_) (AllReadyH.cons rfl (fun K hK => ?_) AllReadyH.nil)
  · obtain ⟨hc, _⟩ := HCE.out _ hfd
    go_simp
    refine hK.out _ _ (hS0) (fun hS1 => ?_); clear hK K
    refine wpAnyH_ready (rs := [9]) (by kernel_rfl) (by simp) ?_
    refine AllReadyH.cons rfl (fun K hK => ?_) AllReadyH.nil
    refine step_lit_deed rfl _ rfl D rfl ?_
    refine hK.out _ _ (⟨(hS1).1.alloc _, (hS1).2.alloc _⟩) (fun hS2 => ?_); clear hK K
    refine wpAnyH_ready (rs := [10]) (by kernel_rfl) (by simp) ?_
    refine AllReadyH.cons rfl (fun K hK => ?_) AllReadyH.nil
    refine step_append_deed rfl _ _ rfl B (v := .slice up p.length uc) (hu2.alloc (.cells D.cells 109)) rfl W.drew.heap.size rfl D (Blk.new W.drew 109 D.cells) (by omega) (by simp; have := hbd.size; omega) ?_
    intro v' w6 ho4 hb4 hnw hf4
    obtain ⟨np, nc, rfl⟩ := own_shape9 ho4
    have hfa : Foot (fun k => (Value.slice up p.length uc).ownBlock = some k) W.drew w6 := (Foot.alloc (Foot.refl _ _) (.cells D.cells 109)).trans hf4
    have hf5 : Foot (fun k => (Value.slice up p.length uc).ownBlock = some k) w w6 := hfd.trans hfa
    obtain ⟨hc5, hr5⟩ := HCE.out _ hf5
    have hkb : Blk w6 w.heap.size 27 (d.cells (.slice (some ⟨g, 0, none⟩) (qs.length + 1) cap) (.slice ps d.starts.length cs)) := hk2.foot hfa (fun e => by have := hgu _ e; omega)
    have hkr : Blk w6 (w.heap.size + 1) 27 (zeroY.cells (.slice none 0 0) (.slice none 0 0)) := hk9.foot hfa (fun e => by have := hgu _ e; omega)
    have hkd : Blk w6 w3.heap.size 109 D.cells := hD3.foot hfa (fun e => by have := hgu _ e; omega)
    refine hK.out _ _ (⟨hkb, hkd⟩) (fun hS3 => ?_); clear hK K
    refine wpAnyH_take (i := 11) (v := ?_) rfl (by kernel_rfl) (by kernel_rfl) (by kernel_rfl) (fun _ _ _ h => h) (Or.inl ⟨by rfl, ?_⟩) hS3 ?_
    rotate_left
    · intro w1 _; go_simp; with_reducible rfl
    try simp only [List.getElem_toArray, List.getElem_cons_zero, List.getElem_cons_succ, Act.put, List.setIfInBounds_toArray, List.set_cons_zero, List.set_cons_succ]
    refine wpAnyH_ready (rs := [12]) (by kernel_rfl) (by simp) ?_
    refine AllReadyH.cons rfl (fun K hK => ?_) AllReadyH.nil
    go_simp
    refine hK.out _ _ (⟨hkb.far (fun e => by have : w.heap.size = g := e; omega) _, hkd.far (fun e => by have : w3.heap.size = g := e; omega) _⟩) (fun hS4 => ?_); clear hK K
    refine wpAnyH_done (by kernel_rfl) ?_ _
    have hkb2 := Blk.far hkb (p := ⟨g, qs.length, none⟩) (fun e => by have : w.heap.size = g := e; omega) (.slice np (p.length + 1) nc)
    have hkr2 := Blk.far hkr (p := ⟨g, qs.length, none⟩) (fun e => by have : w.heap.size + 1 = g := e; omega) (.slice np (p.length + 1) nc)
    have hfg := foot_g w6 g qs.length (.slice np (p.length + 1) nc) (.slice (some ⟨g, 0, none⟩) (qs.length + 1) cap) rfl
    have ho6 := hf5.own ho2 (own_apart ho2 hu (by decide))
    have hpp := HMK.out _ (p ++ [D]) w6 (by rw [List.length_append]; exact ho4) hf5 (hnw.imp id (fun hh k hk => by have := hh k hk; have := hbd.size; simp at *; omega))
    have hq1 := hf5.own hos (own_apart hos hu (by decide))
    have hq2 := hfg.own hq1 (own_apart hq1 ho6 (by decide))
    have hb7 : Below B w (w6.setCell ⟨g, qs.length, none⟩ (.slice np (p.length + 1) nc)) := ((hbd.mono hB).trans (((Below.refl B W.drew).alloc (Nat.le_trans hB hbd.size) _).trans hb4)).trans (hfg.below (by have := hf5.size; omega) (fun k hk => (by simpa [Value.ownBlock] using hk : g = k) ▸ hBg))
    obtain ⟨Wf, hWf⟩ : ∃ Wf, Wf = w6.setCell ⟨g, qs.length, none⟩ (.slice np (p.length + 1) nc) := ⟨_, rfl⟩
    have hK7 : Keep3 w Wf := by rw [hWf]; exact ((Keep3.of_below (Below.refl _ w)).own hu (.inr (.inl rfl)) hf5).own ho6 (.inl rfl) hfg
    rw [← hWf] at hkb2 hkr2 hpp hq2 hb7 ⊢
    clear hWf
    go_wp2_with (first
      | (refine wpList_load_row rfl 27 _ rfl w.heap.size rfl 27 _ (0, 0) _ hkb2 Tryz.underlying27 rfl (sizeY _ _ _) ?_)
      | (refine wpList_store_row rfl 27 _ _ rfl (w.heap.size + 1) (d.cells (.slice (some ⟨g, 0, none⟩) (qs.length + 1) cap) (.slice ps d.starts.length cs)) rfl rfl 27 _ hkr2 (sizeY _ _ _) rfl (oneY _ _ _ _ _ _ _) ?_))
    refine bodyPost_ret (results_row_tmp rfl _ _ (w.heap.size + 1) 27 (d.cells (.slice (some ⟨g, 0, none⟩) (qs.length + 1) cap) (.slice ps d.starts.length cs)) (0, 0) _ rfl (hkr2.row _) Tryz.underlying27 rfl (sizeY _ _ _)) rfl ?_
    have hfr := foot_setRow Wf (w.heap.size + 1) (d.cells (.slice (some ⟨g, 0, none⟩) (qs.length + 1) cap) (.slice ps d.starts.length cs))
    exact ⟨⟨_, _, rfl, hpp.far hkr2 (by decide) (by decide) hfr, own_far hq2 hkr2 (by decide) hfr⟩, hb7.trans (foot_row _ (by omega)), hK7.far hfr (by omega)⟩
  · refine step_lit_deed rfl _ rfl D rfl ?_
    refine hK.out _ _ (⟨(hS0).1.alloc _, (hS0).2.alloc _⟩) (fun hS1 => ?_); clear hK K
    refine wpAnyH_ready (rs := [7]) (by kernel_rfl) (by simp) ?_
    refine AllReadyH.cons rfl (fun K hK => ?_) AllReadyH.nil
    obtain ⟨hc, _⟩ := HCE.out _ (hfd.alloc (.cells D.cells 109))
    have hc2 : (W.alloc (.cells D.cells 109)).drew.cell? ⟨g, qs.length, none⟩ = some (.slice up p.length uc) := hc
    go_simp
    refine hK.out _ _ (hS1) (fun hS2 => ?_); clear hK K
    refine wpAnyH_ready (rs := [10]) (by kernel_rfl) (by simp) ?_
    refine AllReadyH.cons rfl (fun K hK => ?_) AllReadyH.nil
    refine step_append_deed rfl _ _ rfl B (v := .slice up p.length uc) (hu2.alloc (.cells D.cells 109)) rfl W.drew.heap.size rfl D (Blk.new W.drew 109 D.cells) (by omega) (by simp; have := hbd.size; omega) ?_
    intro v' w6 ho4 hb4 hnw hf4
    obtain ⟨np, nc, rfl⟩ := own_shape9 ho4
    have hfa : Foot (fun k => (Value.slice up p.length uc).ownBlock = some k) W.drew w6 := (Foot.alloc (Foot.refl _ _) (.cells D.cells 109)).trans hf4
    have hf5 : Foot (fun k => (Value.slice up p.length uc).ownBlock = some k) w w6 := hfd.trans hfa
    obtain ⟨hc5, hr5⟩ := HCE.out _ hf5
    have hkb : Blk w6 w.heap.size 27 (d.cells (.slice (some ⟨g, 0, none⟩) (qs.length + 1) cap) (.slice ps d.starts.length cs)) := hk2.foot hfa (fun e => by have := hgu _ e; omega)
    have hkr : Blk w6 (w.heap.size + 1) 27 (zeroY.cells (.slice none 0 0) (.slice none 0 0)) := hk9.foot hfa (fun e => by have := hgu _ e; omega)
    have hkd : Blk w6 w3.heap.size 109 D.cells := hD3.foot hfa (fun e => by have := hgu _ e; omega)
    refine hK.out _ _ (⟨hkb, hkd⟩) (fun hS3 => ?_); clear hK K
    refine wpAnyH_take (i := 11) (v := ?_) rfl (by kernel_rfl) (by kernel_rfl) (by kernel_rfl) (fun _ _ _ h => h) (Or.inl ⟨by rfl, ?_⟩) hS3 ?_
    rotate_left
    · intro w1 _; go_simp; with_reducible rfl
    try simp only [List.getElem_toArray, List.getElem_cons_zero, List.getElem_cons_succ, Act.put, List.setIfInBounds_toArray, List.set_cons_zero, List.set_cons_succ]
    refine wpAnyH_ready (rs := [12]) (by kernel_rfl) (by simp) ?_
    refine AllReadyH.cons rfl (fun K hK => ?_) AllReadyH.nil
    go_simp
    refine hK.out _ _ (⟨hkb.far (fun e => by have : w.heap.size = g := e; omega) _, hkd.far (fun e => by have : w3.heap.size = g := e; omega) _⟩) (fun hS4 => ?_); clear hK K
    refine wpAnyH_done (by kernel_rfl) ?_ _
    have hkb2 := Blk.far hkb (p := ⟨g, qs.length, none⟩) (fun e => by have : w.heap.size = g := e; omega) (.slice np (p.length + 1) nc)
    have hkr2 := Blk.far hkr (p := ⟨g, qs.length, none⟩) (fun e => by have : w.heap.size + 1 = g := e; omega) (.slice np (p.length + 1) nc)
    have hfg := foot_g w6 g qs.length (.slice np (p.length + 1) nc) (.slice (some ⟨g, 0, none⟩) (qs.length + 1) cap) rfl
    have ho6 := hf5.own ho2 (own_apart ho2 hu (by decide))
    have hpp := HMK.out _ (p ++ [D]) w6 (by rw [List.length_append]; exact ho4) hf5 (hnw.imp id (fun hh k hk => by have := hh k hk; have := hbd.size; simp at *; omega))
    have hq1 := hf5.own hos (own_apart hos hu (by decide))
    have hq2 := hfg.own hq1 (own_apart hq1 ho6 (by decide))
    have hb7 : Below B w (w6.setCell ⟨g, qs.length, none⟩ (.slice np (p.length + 1) nc)) := ((hbd.mono hB).trans (((Below.refl B W.drew).alloc (Nat.le_trans hB hbd.size) _).trans hb4)).trans (hfg.below (by have := hf5.size; omega) (fun k hk => (by simpa [Value.ownBlock] using hk : g = k) ▸ hBg))
    obtain ⟨Wf, hWf⟩ : ∃ Wf, Wf = w6.setCell ⟨g, qs.length, none⟩ (.slice np (p.length + 1) nc) := ⟨_, rfl⟩
    have hK7 : Keep3 w Wf := by rw [hWf]; exact ((Keep3.of_below (Below.refl _ w)).own hu (.inr (.inl rfl)) hf5).own ho6 (.inl rfl) hfg
    rw [← hWf] at hkb2 hkr2 hpp hq2 hb7 ⊢
    clear hWf
    go_wp2_with (first
      | (refine wpList_load_row rfl 27 _ rfl w.heap.size rfl 27 _ (0, 0) _ hkb2 Tryz.underlying27 rfl (sizeY _ _ _) ?_)
      | (refine wpList_store_row rfl 27 _ _ rfl (w.heap.size + 1) (d.cells (.slice (some ⟨g, 0, none⟩) (qs.length + 1) cap) (.slice ps d.starts.length cs)) rfl rfl 27 _ hkr2 (sizeY _ _ _) rfl (oneY _ _ _ _ _ _ _) ?_))
    refine bodyPost_ret (results_row_tmp rfl _ _ (w.heap.size + 1) 27 (d.cells (.slice (some ⟨g, 0, none⟩) (qs.length + 1) cap) (.slice ps d.starts.length cs)) (0, 0) _ rfl (hkr2.row _) Tryz.underlying27 rfl (sizeY _ _ _)) rfl ?_
    have hfr := foot_setRow Wf (w.heap.size + 1) (d.cells (.slice (some ⟨g, 0, none⟩) (qs.length + 1) cap) (.slice ps d.starts.length cs))
    exact ⟨⟨_, _, rfl, hpp.far hkr2 (by decide) (by decide) hfr, own_far hq2 hkr2 (by decide) hfr⟩, hb7.trans (foot_row _ (by omega)), hK7.far hfr (by omega)⟩
end Go.Proofs.YtbdimfcdpkldpaaGreatDoor
