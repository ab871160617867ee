/- The contract of the reference's line: a start's line. -/
import Derived.Test.YtbdimfcdpkldpaaGreatDoorJ2
import Derived.Test.YtbdimfcdpkldpaaGreatDoorZ14
namespace Go.Proofs.YtbdimfcdpkldpaaGreatDoor
open Go.RowKit

set_option maxRecDepth 100000 in
set_option maxHeartbeats 8000000 in
theorem RLineY_start (d : Dut) (pp ps : Option Addr) (cp cs : Nat) (s : ByteArray) (hs : s.size ≤ 4000) (w : World) (B : Nat) (hB : B ≤ w.heap.size) (hdo : DOwn w B (.slice pp d.progs.length cp) (.slice ps d.starts.length cs) d) (hfew : d.starts.length ≤ 20000) (z : List UInt8) (ws : List (List UInt8)) (hD : wordsGo [] s.data.toList = z :: ws) (hz : z = startW) (hwl : ws.length ≤ 3999) (hsm : ∀ x ∈ ws, x.length ≤ 4000) (a0 a1 a2 : Nat) (hR : readY ws 1 = some [a0, a1, a2]) :
    Calls Tryz.prog 40 #[.agg (d.cells (.slice pp d.progs.length cp) (.slice ps d.starts.length cs)), .string s, .bool false] w fun e w' => (∃ pv sv, e = .returned (.tuple #[.agg (({ d with starts := d.starts ++ [stS [a0, a1, a2]] } : Dut).cells pv sv), .int .i64 0]) ∧ DOwn w' B pv sv { d with starts := d.starts ++ [stS [a0, a1, a2]] }) ∧ Below B w w' ∧ Keep3 w w' := by
  have hw := RWords_any s hs
  rw [hD] at hw
  have big : ∀ x ∈ [a0, a1, a2], x < 18446744073709551616 := readYGo_lt _ _ _ hR
  have hrd : ∀ W v (G : Nat → Prop) (_ : ∀ k, G k → k < W.heap.size) (_ : RV W G v ws.length 1 (ws.map sV)), Calls Tryz.prog 80 #[v, .int .i64 1] W fun e w' => ∃ x, e = .returned (.tuple #[x, .bool true]) ∧ w'.ownsRow W.heap.size 22 1 x 3 ([a0, a1, a2].map uV) ∧ Below W.heap.size W w' := fun W v G hG h => by
    have := RReadY_at 1 1 rfl (by decide) ws (by omega) hsm v G W hG h
    rw [hR] at this
    exact this
  have hd0 : Blk ((w.alloc (.cells (d.cells (.slice pp d.progs.length cp) (.slice ps d.starts.length cs)) 27)).alloc (.cells (zeroY.cells (.slice none 0 0) (.slice none 0 0)) 27)) w.heap.size 27 (d.cells (.slice pp d.progs.length cp) (.slice ps d.starts.length cs)) := (Blk.new w _ _).alloc _
  have hr0 : Blk ((w.alloc (.cells (d.cells (.slice pp d.progs.length cp) (.slice ps d.starts.length cs)) 27)).alloc (.cells (zeroY.cells (.slice none 0 0) (.slice none 0 0)) 27)) (w.heap.size + 1) 27 (zeroY.cells (.slice none 0 0) (.slice none 0 0)) := two_new w _ _ _
  have hb0 := below_alloc2 w (.cells (d.cells (.slice pp d.progs.length cp) (.slice ps d.starts.length cs)) 27) (.cells (zeroY.cells (.slice none 0 0) (.slice none 0 0)) 27)
  have hl0 := fun W => Small_any a0 (big a0 (by simp)) W
  have hl1 := fun W => Small_any a1 (big a1 (by simp)) W
  obtain ⟨Z, hZ⟩ : ∃ Z : ByteArray, Z = ⟨z.toArray⟩ := ⟨_, rfl⟩
  have HZ := Lib.hid hZ
  have tz := str_is Z z dutyW hZ false (by simpa using (by rw [hz]; decide : z ≠ dutyW))
  unfold dutyW at tz
  have ty := str_is Z z startW hZ true (by simpa using hz)
  unfold startW at ty
  clear hs hD hZ hz hR hsm
  go_enter Tryz.func40, Tryz.ntmps40
  go_wp2_with (first
    | (refine wpList_box_agg rfl 27 _ rfl (d.cells (.slice pp d.progs.length cp) (.slice ps d.starts.length cs)) rfl ?_)
    | (refine wpList_alloc_agg rfl 27 rfl (zeroY.cells (.slice none 0 0) (.slice none 0 0)) zeroYR ?_)
    | (go_at_call 79; (with_reducible refine (hw _).mono ?_); clear hw; rintro e w1 ⟨v, rfl, hown, hb1⟩; have hd1 := hd0.below hb1 hd0.lt; have hr1 := hr0.below hb1 hr0.lt; have hb01 := below_pre hb0 hb1; have hrr : RV w1 (fun b => b < w1.heap.size) _ _ 1 _ := (RV.of_own hown).mono (fun k hk _ => hk); obtain ⟨p, c, rfl, hnc, _⟩ := id hrr; obtain ⟨b, off, rfl, hbl, _, hcell⟩ := hrr.at1 0 (sV z) rfl; rw [Nat.add_zero, sV, ← HZ.out] at hcell; rw [List.length_cons] at hnc; have hrr2 : RV w1 (fun b => b < w1.heap.size) (.slice (some ⟨b, off, none⟩) (ws.length + 1) c) (ws.length + 1) 1 (sV z :: ws.map sV) := hrr; have htl := rv_tail hrr2; clear hrr hrr2)
    | (go_at_call 80; (with_reducible refine (hrd w1 _ _ (fun _ hk => hk) htl).mono ?_); clear hrd; rintro e w2 ⟨x, rfl, hx, hb2⟩; obtain ⟨xp, xc, rfl⟩ := own_shape9 hx; have hd2 := hd1.below hb2 hd1.lt; have hr2 := hr1.below hb2 hr1.lt; have hb02 := below_pre hb01 hb2; obtain ⟨gb, go, rfl, hgl, _, _⟩ := (RV.of_own hx).at1 0 (uV a0) rfl))
  all_goals
    have hgb := (hx.lt gb rfl).1
    have hcell : ∀ k x : Nat, [a0, a1, a2][k]? = some x → w2.drew.cell? ⟨gb, go + k, none⟩ = some (.int .u64 (x : Int)) := fun k x hx0 => by
      obtain ⟨b', off', e, _, _, hc⟩ := (RV.of_own hx).atU hx0
      cases e
      exact hc
    have hn1 : w.heap.size + 2 ≤ w1.heap.size := by have := hb1.size; simp at this; omega
    have hn2 := hb2.size
    have hdW : Blk w2.drew w.heap.size 27 (d.cells (.slice pp d.progs.length cp) (.slice ps d.starts.length cs)) := hd2
    have hrW : Blk w2.drew (w.heap.size + 1) 27 (zeroY.cells (.slice none 0 0) (.slice none 0 0)) := hr2
    have hbW : Below w.heap.size w w2.drew := hb02.drew
    have hgn : gb ≠ w.heap.size := by omega
    have hgn1 : gb ≠ w.heap.size + 1 := by omega
    have hoW := hdo.later (hb02.drew : Below w.heap.size w w2.drew)
    have hos := hoW.starts
    have hsz2 : w.heap.size + 2 ≤ w2.drew.heap.size := (by omega : w.heap.size + 2 ≤ w2.heap.size)
    have hgl' : gb < w2.drew.heap.size := hgl
    have hgs : ∀ k, (Value.slice ps d.starts.length cs).ownBlock = some k → k < w.heap.size := fun k hk => (hdo.starts.lt k hk).2
    refine wp_region_held_drew (S := fun w' => w'.heap[gb]? = w2.drew.heap[gb]?) (by kernel_rfl) rfl (fun hS0 => ?_)
    refine wpAnyH_take (i := 0) (v := ?_) rfl (by kernel_rfl) (by kernel_rfl) (by kernel_rfl) (fun _ _ _ h => h) (Or.inl ⟨by rfl, ?_⟩) hS0 ?_
    rotate_left
    · intro w1 _; go_simp; with_reducible rfl
    try simp only [List.getElem_toArray, List.getElem_cons_zero, Act.put, List.setIfInBounds_toArray, List.set_cons_zero, List.set_cons_succ]
    refine wpAnyH_take (i := 2) (v := ?_) rfl (by kernel_rfl) (by kernel_rfl) (by kernel_rfl) (fun _ _ _ h => h) (Or.inl ⟨by rfl, ?_⟩) hS0 ?_
    rotate_left
    · intro w1 _; go_simp; with_reducible rfl
    try simp only [List.getElem_toArray, List.getElem_cons_zero, List.getElem_cons_succ, Act.put, List.setIfInBounds_toArray, List.set_cons_zero, List.set_cons_succ]
    refine wpAnyH_take (i := 3) (v := ?_) rfl (by kernel_rfl) (by kernel_rfl) (by kernel_rfl) (fun _ _ _ h => h) (Or.inl ⟨by rfl, ?_⟩) hS0 ?_
    rotate_left
    · intro w1 _; go_simp; with_reducible rfl
    try simp only [List.getElem_toArray, List.getElem_cons_zero, List.getElem_cons_succ, Act.put, List.setIfInBounds_toArray, List.set_cons_zero, List.set_cons_succ]
    refine wpAnyH_take (i := 4) (v := .int .u64 (a0 : Int)) rfl (by kernel_rfl) (by kernel_rfl) (by kernel_rfl) (fun _ _ _ h => h) (Or.inl ⟨by rfl, fun w1 hS1 => by have h0 : w1.cell? ⟨gb, go + 0, none⟩ = some (.int .u64 (a0 : Int)) := (World.cell?_of_block (a := ⟨gb, go + 0, none⟩) hS1).trans (hcell 0 a0 rfl); rw [Nat.add_zero] at h0; go_simp⟩) hS0 ?_
    try simp only [List.getElem_toArray, List.getElem_cons_zero, List.getElem_cons_succ, Act.put, List.setIfInBounds_toArray, List.set_cons_zero, List.set_cons_succ]
    refine wpAnyH_take (i := 6) (v := ?_) rfl (by kernel_rfl) (by kernel_rfl) (by kernel_rfl) (fun _ _ _ h => h) (Or.inl ⟨by rfl, ?_⟩) hS0 ?_
    rotate_left
    · intro w1 _; go_simp; with_reducible rfl
    try simp only [List.getElem_toArray, List.getElem_cons_zero, List.getElem_cons_succ, Act.put, List.setIfInBounds_toArray, List.set_cons_zero, List.set_cons_succ]
    refine wpAnyH_take (i := 7) (v := ?_) rfl (by kernel_rfl) (by kernel_rfl) (by kernel_rfl) (fun _ _ _ h => h) (Or.inl ⟨by rfl, ?_⟩) hS0 ?_
    rotate_left
    · intro w1 _; go_simp; with_reducible rfl
    try simp only [List.getElem_toArray, List.getElem_cons_zero, List.getElem_cons_succ, Act.put, List.setIfInBounds_toArray, List.set_cons_zero, List.set_cons_succ]
    refine wpAnyH_take (i := 8) (v := .int .u64 (a1 : Int)) rfl (by kernel_rfl) (by kernel_rfl) (by kernel_rfl) (fun _ _ _ h => h) (Or.inl ⟨by rfl, fun w1 hS1 => by have h0 : w1.cell? ⟨gb, go + 1, none⟩ = some (.int .u64 (a1 : Int)) := (World.cell?_of_block (a := ⟨gb, go + 1, none⟩) hS1).trans (hcell 1 a1 rfl); go_simp⟩) hS0 ?_
    try simp only [List.getElem_toArray, List.getElem_cons_zero, List.getElem_cons_succ, Act.put, List.setIfInBounds_toArray, List.set_cons_zero, List.set_cons_succ]
    refine wpAnyH_take (i := 10) (v := ?_) rfl (by kernel_rfl) (by kernel_rfl) (by kernel_rfl) (fun _ _ _ h => h) (Or.inl ⟨by rfl, ?_⟩) hS0 ?_
    rotate_left
    · intro w1 _; go_simp; with_reducible rfl
    try simp only [List.getElem_toArray, List.getElem_cons_zero, List.getElem_cons_succ, Act.put, List.setIfInBounds_toArray, List.set_cons_zero, List.set_cons_succ]
    refine wpAnyH_take (i := 11) (v := ?_) rfl (by kernel_rfl) (by kernel_rfl) (by kernel_rfl) (fun _ _ _ h => h) (Or.inl ⟨by rfl, ?_⟩) hS0 ?_
    rotate_left
    · intro w1 _; go_simp; with_reducible rfl
    try simp only [List.getElem_toArray, List.getElem_cons_zero, List.getElem_cons_succ, Act.put, List.setIfInBounds_toArray, List.set_cons_zero, List.set_cons_succ]
    refine wpAnyH_take (i := 12) (v := .int .u64 (a2 : Int)) rfl (by kernel_rfl) (by kernel_rfl) (by kernel_rfl) (fun _ _ _ h => h) (Or.inl ⟨by rfl, fun w1 hS1 => by have h0 : w1.cell? ⟨gb, go + 2, none⟩ = some (.int .u64 (a2 : Int)) := (World.cell?_of_block (a := ⟨gb, go + 2, none⟩) hS1).trans (hcell 2 a2 rfl); go_simp⟩) hS0 ?_
    try simp only [List.getElem_toArray, List.getElem_cons_zero, List.getElem_cons_succ, Act.put, List.setIfInBounds_toArray, List.set_cons_zero, List.set_cons_succ]
    refine wpAnyH_ready (rs := [1, 5]) (by kernel_rfl) (by simp) ?_
    refine AllReadyH.cons rfl (fun K hK => ?_) (AllReadyH.cons rfl (fun K hK => ?_) AllReadyH.nil)
    · have hq8 : (w2.drew).cell? ⟨w.heap.size, 8, none⟩ = some (.slice ps d.starts.length cs) := (hdW).cell 8
      go_simp
      refine hK.out _ _ (hS0) (fun hS1 => ?_); clear hK K
      refine wpAnyH_ready (rs := [5]) (by kernel_rfl) (by simp) ?_
      refine AllReadyH.cons rfl (fun K hK => ?_) AllReadyH.nil
      go_simp
      refine (hl0 _).mono ?_
      rintro e w5 ⟨rfl, rfl⟩
      dsimp only
      refine hK.out _ _ (hS1) (fun hS2 => ?_); clear hK K
      refine wpAnyH_ready (rs := [9]) (by kernel_rfl) (by simp) ?_
      refine AllReadyH.cons rfl (fun K hK => ?_) AllReadyH.nil
      go_simp
      refine (hl1 _).mono ?_
      rintro e w5 ⟨rfl, rfl⟩
      dsimp only
      refine hK.out _ _ (hS2) (fun hS3 => ?_); clear hK K
      refine wpAnyH_take (i := 13) (v := .agg #[.int .i64 (stS [a0, a1, a2]).prog, .int .i64 (stS [a0, a1, a2]).grade, .int .u64 ((stS [a0, a1, a2]).mask : Int)]) rfl (by kernel_rfl) (by kernel_rfl) (by kernel_rfl) (fun _ _ _ h => h) (Or.inl ⟨by rfl, fun w1 hS1 => by go_simp; first | rfl | exact ⟨rfl, rfl, rfl⟩⟩) hS3 ?_
      try simp only [List.getElem_toArray, List.getElem_cons_zero, List.getElem_cons_succ, Act.put, List.setIfInBounds_toArray, List.set_cons_zero, List.set_cons_succ]
      refine wpAnyH_ready (rs := [14]) (by kernel_rfl) (by simp) ?_
      refine AllReadyH.cons rfl (fun K hK => ?_) AllReadyH.nil
      refine step_lit_st rfl _ rfl (stS [a0, a1, a2]) rfl ?_
      refine hK.out _ _ ((Below.heap_alloc w2.drew _ gb hgl').trans hS3) (fun hS4 => ?_); clear hK K
      refine wpAnyH_ready (rs := [15]) (by kernel_rfl) (by simp) ?_
      refine AllReadyH.cons rfl (fun K hK => ?_) AllReadyH.nil
      refine step_append_st rfl _ _ rfl B (v := .slice ps d.starts.length cs) (ss := d.starts) (World.ownsRow.alloc (w := w2.drew) hos (.cells #[.int .i64 (stS [a0, a1, a2]).prog, .int .i64 (stS [a0, a1, a2]).grade, .int .u64 ((stS [a0, a1, a2]).mask : Int)] 58)) rfl w2.drew.heap.size rfl (stS [a0, a1, a2]) (Blk.new w2.drew 58 _) (by omega) (by simp; omega) ?_
      intro v' w6 ho6 hb6 hf6
      obtain ⟨np, nc, rfl⟩ := own_shape9 ho6
      have hf0 : Foot (fun k => (Value.slice ps d.starts.length cs).ownBlock = some k) w2.drew w6 := (Foot.alloc (Foot.refl _ _) (.cells #[.int .i64 (stS [a0, a1, a2]).prog, .int .i64 (stS [a0, a1, a2]).grade, .int .u64 ((stS [a0, a1, a2]).mask : Int)] 58)).trans hf6
      have hB6 : Blk w6 w.heap.size 27 (d.cells (.slice pp d.progs.length cp) (.slice ps d.starts.length cs)) := Blk.foot hdW hf0 (fun e => by have := hgs _ e; omega)
      have hR6 : Blk w6 (w.heap.size + 1) 27 (zeroY.cells (.slice none 0 0) (.slice none 0 0)) := Blk.foot hrW hf0 (fun e => by have := hgs _ e; omega)
      have hq6 : w6.cell? ⟨w.heap.size, 8, none⟩ = some (.slice ps d.starts.length cs) := hB6.cell 8
      have hr6 : w6.frozen? ⟨w.heap.size, 8, none⟩ = false := hB6.frozen 8
      have hb6w : Below B w2.drew w6 := ((Below.refl _ w2.drew).alloc (by omega) _).trans hb6
      refine hK.out _ _ ((hf0.block gb hgl' (fun e => by have := hgs _ e; omega))) (fun hS5 => ?_); clear hK K
      refine wpAnyH_take (i := 16) (v := ?_) rfl (by kernel_rfl) (by kernel_rfl) (by kernel_rfl) (fun _ _ _ h => h) (Or.inl ⟨by rfl, ?_⟩) hS5 ?_
      rotate_left
      · intro w1 _; go_simp; with_reducible rfl
      try simp only [List.getElem_toArray, List.getElem_cons_zero, List.getElem_cons_succ, Act.put, List.setIfInBounds_toArray, List.set_cons_zero, List.set_cons_succ]
      refine wpAnyH_ready (rs := [17]) (by kernel_rfl) (by simp) ?_
      refine AllReadyH.cons rfl (fun K hK => ?_) AllReadyH.nil
      go_simp
      have hfs := foot_cell w6 w.heap.size 8 (.slice np (d.starts.length + 1) nc)
      refine hK.out _ _ ((hfs.block gb (by have := hf0.size; omega) hgn).trans hS5) (fun hS6 => ?_); clear hK K
      refine wpAnyH_done (by kernel_rfl) ?_ _
      have hB7 : Blk (w6.setCell ⟨w.heap.size, 8, none⟩ (.slice np (d.starts.length + 1) nc)) w.heap.size 27 (({ d with starts := d.starts ++ [stS [a0, a1, a2]] } : Dut).cells (.slice pp d.progs.length cp) (.slice np (d.starts.length + 1) nc)) := hB6.set 8 _
      have hR7 : Blk (w6.setCell ⟨w.heap.size, 8, none⟩ (.slice np (d.starts.length + 1) nc)) (w.heap.size + 1) 27 (zeroY.cells (.slice none 0 0) (.slice none 0 0)) := hR6.far (by simp) _
      have ho7 := own_far ho6 hB6 (by decide) hfs
      have hp7 : OPP 45 109 (w6.setCell ⟨w.heap.size, 8, none⟩ (.slice np (d.starts.length + 1) nc)) B (.slice pp d.progs.length cp) d.progs := (hoW.progs.apart hos (by decide) (by decide) hf0).far hB6 (by decide) (by decide) hfs
      have hb7 : Below B w (w6.setCell ⟨w.heap.size, 8, none⟩ (.slice np (d.starts.length + 1) nc)) := ((hbW.mono hB).trans hb6w).trans (hfs.below (Nat.le_trans hB (Nat.le_trans hbW.size hf0.size)) (fun k hk => by omega))
      have hK7 : Keep3 w (w6.setCell ⟨w.heap.size, 8, none⟩ (.slice np (d.starts.length + 1) nc)) := ((Keep3.of_below hbW).own hos (.inr (.inr rfl)) hf0).far hfs (Nat.le_refl _)
      obtain ⟨Wf, hWf⟩ : ∃ Wf, Wf = w6.setCell ⟨w.heap.size, 8, none⟩ (.slice np (d.starts.length + 1) nc) := ⟨_, rfl⟩
      rw [← hWf] at hB7 hR7 ho7 hp7 hb7 hK7 ⊢
      clear hWf hfs
      go_wp2_with (first
        | (refine wpList_load_row rfl 27 _ rfl w.heap.size rfl 27 _ (0, 0) _ hB7 Tryz.underlying27 rfl (sizeY _ _ _) ?_)
        | (refine wpList_store_row rfl 27 _ _ rfl (w.heap.size + 1) (({ d with starts := d.starts ++ [stS [a0, a1, a2]] } : Dut).cells (.slice pp d.progs.length cp) (.slice np (d.starts.length + 1) nc)) rfl rfl 27 _ hR7 (sizeY _ _ _) rfl (oneY _ _ _ _ _ _ _) ?_))
      refine bodyPost_ret (results_row_tmp rfl _ _ (w.heap.size + 1) 27 (({ d with starts := d.starts ++ [stS [a0, a1, a2]] } : Dut).cells (.slice pp d.progs.length cp) (.slice np (d.starts.length + 1) nc)) (0, 0) _ rfl (hR7.row _) Tryz.underlying27 rfl (sizeY _ _ _)) rfl ?_
      have hfr := foot_setRow Wf (w.heap.size + 1) (({ d with starts := d.starts ++ [stS [a0, a1, a2]] } : Dut).cells (.slice pp d.progs.length cp) (.slice np (d.starts.length + 1) nc))
      refine ⟨⟨_, _, rfl, hp7.far hR7 (by decide) (by decide) hfr, ?_⟩, hb7.trans (foot_row _ (by omega)), hK7.far hfr (by omega)⟩
      have := own_far ho7 hR7 (by decide) hfr
      simpa using this
    · go_simp
      refine (hl0 _).mono ?_
      rintro e w5 ⟨rfl, rfl⟩
      dsimp only
      refine hK.out _ _ (hS0) (fun hS1 => ?_); clear hK K
      refine wpAnyH_ready (rs := [1, 9]) (by kernel_rfl) (by simp) ?_
      refine AllReadyH.cons rfl (fun K hK => ?_) (AllReadyH.cons rfl (fun K hK => ?_) AllReadyH.nil)
      · have hq8 : (w2.drew).cell? ⟨w.heap.size, 8, none⟩ = some (.slice ps d.starts.length cs) := (hdW).cell 8
        go_simp
        refine hK.out _ _ (hS1) (fun hS2 => ?_); clear hK K
        refine wpAnyH_ready (rs := [9]) (by kernel_rfl) (by simp) ?_
        refine AllReadyH.cons rfl (fun K hK => ?_) AllReadyH.nil
        go_simp
        refine (hl1 _).mono ?_
        rintro e w5 ⟨rfl, rfl⟩
        dsimp only
        refine hK.out _ _ (hS2) (fun hS3 => ?_); clear hK K
        refine wpAnyH_take (i := 13) (v := .agg #[.int .i64 (stS [a0, a1, a2]).prog, .int .i64 (stS [a0, a1, a2]).grade, .int .u64 ((stS [a0, a1, a2]).mask : Int)]) rfl (by kernel_rfl) (by kernel_rfl) (by kernel_rfl) (fun _ _ _ h => h) (Or.inl ⟨by rfl, fun w1 hS1 => by go_simp; first | rfl | exact ⟨rfl, rfl, rfl⟩⟩) hS3 ?_
        try simp only [List.getElem_toArray, List.getElem_cons_zero, List.getElem_cons_succ, Act.put, List.setIfInBounds_toArray, List.set_cons_zero, List.set_cons_succ]
        refine wpAnyH_ready (rs := [14]) (by kernel_rfl) (by simp) ?_
        refine AllReadyH.cons rfl (fun K hK => ?_) AllReadyH.nil
        refine step_lit_st rfl _ rfl (stS [a0, a1, a2]) rfl ?_
        refine hK.out _ _ ((Below.heap_alloc w2.drew _ gb hgl').trans hS3) (fun hS4 => ?_); clear hK K
        refine wpAnyH_ready (rs := [15]) (by kernel_rfl) (by simp) ?_
        refine AllReadyH.cons rfl (fun K hK => ?_) AllReadyH.nil
        refine step_append_st rfl _ _ rfl B (v := .slice ps d.starts.length cs) (ss := d.starts) (World.ownsRow.alloc (w := w2.drew) hos (.cells #[.int .i64 (stS [a0, a1, a2]).prog, .int .i64 (stS [a0, a1, a2]).grade, .int .u64 ((stS [a0, a1, a2]).mask : Int)] 58)) rfl w2.drew.heap.size rfl (stS [a0, a1, a2]) (Blk.new w2.drew 58 _) (by omega) (by simp; omega) ?_
        intro v' w6 ho6 hb6 hf6
        obtain ⟨np, nc, rfl⟩ := own_shape9 ho6
        have hf0 : Foot (fun k => (Value.slice ps d.starts.length cs).ownBlock = some k) w2.drew w6 := (Foot.alloc (Foot.refl _ _) (.cells #[.int .i64 (stS [a0, a1, a2]).prog, .int .i64 (stS [a0, a1, a2]).grade, .int .u64 ((stS [a0, a1, a2]).mask : Int)] 58)).trans hf6
        have hB6 : Blk w6 w.heap.size 27 (d.cells (.slice pp d.progs.length cp) (.slice ps d.starts.length cs)) := Blk.foot hdW hf0 (fun e => by have := hgs _ e; omega)
        have hR6 : Blk w6 (w.heap.size + 1) 27 (zeroY.cells (.slice none 0 0) (.slice none 0 0)) := Blk.foot hrW hf0 (fun e => by have := hgs _ e; omega)
        have hq6 : w6.cell? ⟨w.heap.size, 8, none⟩ = some (.slice ps d.starts.length cs) := hB6.cell 8
        have hr6 : w6.frozen? ⟨w.heap.size, 8, none⟩ = false := hB6.frozen 8
        have hb6w : Below B w2.drew w6 := ((Below.refl _ w2.drew).alloc (by omega) _).trans hb6
        refine hK.out _ _ ((hf0.block gb hgl' (fun e => by have := hgs _ e; omega))) (fun hS5 => ?_); clear hK K
        refine wpAnyH_take (i := 16) (v := ?_) rfl (by kernel_rfl) (by kernel_rfl) (by kernel_rfl) (fun _ _ _ h => h) (Or.inl ⟨by rfl, ?_⟩) hS5 ?_
        rotate_left
        · intro w1 _; go_simp; with_reducible rfl
        try simp only [List.getElem_toArray, List.getElem_cons_zero, List.getElem_cons_succ, Act.put, List.setIfInBounds_toArray, List.set_cons_zero, List.set_cons_succ]
        refine wpAnyH_ready (rs := [17]) (by kernel_rfl) (by simp) ?_
        refine AllReadyH.cons rfl (fun K hK => ?_) AllReadyH.nil
        go_simp
        have hfs := foot_cell w6 w.heap.size 8 (.slice np (d.starts.length + 1) nc)
        refine hK.out _ _ ((hfs.block gb (by have := hf0.size; omega) hgn).trans hS5) (fun hS6 => ?_); clear hK K
        refine wpAnyH_done (by kernel_rfl) ?_ _
        have hB7 : Blk (w6.setCell ⟨w.heap.size, 8, none⟩ (.slice np (d.starts.length + 1) nc)) w.heap.size 27 (({ d with starts := d.starts ++ [stS [a0, a1, a2]] } : Dut).cells (.slice pp d.progs.length cp) (.slice np (d.starts.length + 1) nc)) := hB6.set 8 _
        have hR7 : Blk (w6.setCell ⟨w.heap.size, 8, none⟩ (.slice np (d.starts.length + 1) nc)) (w.heap.size + 1) 27 (zeroY.cells (.slice none 0 0) (.slice none 0 0)) := hR6.far (by simp) _
        have ho7 := own_far ho6 hB6 (by decide) hfs
        have hp7 : OPP 45 109 (w6.setCell ⟨w.heap.size, 8, none⟩ (.slice np (d.starts.length + 1) nc)) B (.slice pp d.progs.length cp) d.progs := (hoW.progs.apart hos (by decide) (by decide) hf0).far hB6 (by decide) (by decide) hfs
        have hb7 : Below B w (w6.setCell ⟨w.heap.size, 8, none⟩ (.slice np (d.starts.length + 1) nc)) := ((hbW.mono hB).trans hb6w).trans (hfs.below (Nat.le_trans hB (Nat.le_trans hbW.size hf0.size)) (fun k hk => by omega))
        have hK7 : Keep3 w (w6.setCell ⟨w.heap.size, 8, none⟩ (.slice np (d.starts.length + 1) nc)) := ((Keep3.of_below hbW).own hos (.inr (.inr rfl)) hf0).far hfs (Nat.le_refl _)
        obtain ⟨Wf, hWf⟩ : ∃ Wf, Wf = w6.setCell ⟨w.heap.size, 8, none⟩ (.slice np (d.starts.length + 1) nc) := ⟨_, rfl⟩
        rw [← hWf] at hB7 hR7 ho7 hp7 hb7 hK7 ⊢
        clear hWf hfs
        go_wp2_with (first
          | (refine wpList_load_row rfl 27 _ rfl w.heap.size rfl 27 _ (0, 0) _ hB7 Tryz.underlying27 rfl (sizeY _ _ _) ?_)
          | (refine wpList_store_row rfl 27 _ _ rfl (w.heap.size + 1) (({ d with starts := d.starts ++ [stS [a0, a1, a2]] } : Dut).cells (.slice pp d.progs.length cp) (.slice np (d.starts.length + 1) nc)) rfl rfl 27 _ hR7 (sizeY _ _ _) rfl (oneY _ _ _ _ _ _ _) ?_))
        refine bodyPost_ret (results_row_tmp rfl _ _ (w.heap.size + 1) 27 (({ d with starts := d.starts ++ [stS [a0, a1, a2]] } : Dut).cells (.slice pp d.progs.length cp) (.slice np (d.starts.length + 1) nc)) (0, 0) _ rfl (hR7.row _) Tryz.underlying27 rfl (sizeY _ _ _)) rfl ?_
        have hfr := foot_setRow Wf (w.heap.size + 1) (({ d with starts := d.starts ++ [stS [a0, a1, a2]] } : Dut).cells (.slice pp d.progs.length cp) (.slice np (d.starts.length + 1) nc))
        refine ⟨⟨_, _, rfl, hp7.far hR7 (by decide) (by decide) hfr, ?_⟩, hb7.trans (foot_row _ (by omega)), hK7.far hfr (by omega)⟩
        have := own_far ho7 hR7 (by decide) hfr
        simpa using this
      · go_simp
        refine (hl1 _).mono ?_
        rintro e w5 ⟨rfl, rfl⟩
        dsimp only
        refine hK.out _ _ (hS1) (fun hS2 => ?_); clear hK K
        refine wpAnyH_take (i := 13) (v := .agg #[.int .i64 (stS [a0, a1, a2]).prog, .int .i64 (stS [a0, a1, a2]).grade, .int .u64 ((stS [a0, a1, a2]).mask : Int)]) rfl (by kernel_rfl) (by kernel_rfl) (by kernel_rfl) (fun _ _ _ h => h) (Or.inl ⟨by rfl, fun w1 hS1 => by go_simp; first | rfl | exact ⟨rfl, rfl, rfl⟩⟩) hS2 ?_
        try simp only [List.getElem_toArray, List.getElem_cons_zero, List.getElem_cons_succ, Act.put, List.setIfInBounds_toArray, List.set_cons_zero, List.set_cons_succ]
        refine wpAnyH_ready (rs := [1, 14]) (by kernel_rfl) (by simp) ?_
        refine AllReadyH.cons rfl (fun K hK => ?_) (AllReadyH.cons rfl (fun K hK => ?_) AllReadyH.nil)
        · have hq8 : (w2.drew).cell? ⟨w.heap.size, 8, none⟩ = some (.slice ps d.starts.length cs) := (hdW).cell 8
          go_simp
          refine hK.out _ _ (hS2) (fun hS3 => ?_); clear hK K
          refine wpAnyH_ready (rs := [14]) (by kernel_rfl) (by simp) ?_
          refine AllReadyH.cons rfl (fun K hK => ?_) AllReadyH.nil
          refine step_lit_st rfl _ rfl (stS [a0, a1, a2]) rfl ?_
          refine hK.out _ _ ((Below.heap_alloc w2.drew _ gb hgl').trans hS3) (fun hS4 => ?_); clear hK K
          refine wpAnyH_ready (rs := [15]) (by kernel_rfl) (by simp) ?_
          refine AllReadyH.cons rfl (fun K hK => ?_) AllReadyH.nil
          refine step_append_st rfl _ _ rfl B (v := .slice ps d.starts.length cs) (ss := d.starts) (World.ownsRow.alloc (w := w2.drew) hos (.cells #[.int .i64 (stS [a0, a1, a2]).prog, .int .i64 (stS [a0, a1, a2]).grade, .int .u64 ((stS [a0, a1, a2]).mask : Int)] 58)) rfl w2.drew.heap.size rfl (stS [a0, a1, a2]) (Blk.new w2.drew 58 _) (by omega) (by simp; omega) ?_
          intro v' w6 ho6 hb6 hf6
          obtain ⟨np, nc, rfl⟩ := own_shape9 ho6
          have hf0 : Foot (fun k => (Value.slice ps d.starts.length cs).ownBlock = some k) w2.drew w6 := (Foot.alloc (Foot.refl _ _) (.cells #[.int .i64 (stS [a0, a1, a2]).prog, .int .i64 (stS [a0, a1, a2]).grade, .int .u64 ((stS [a0, a1, a2]).mask : Int)] 58)).trans hf6
          have hB6 : Blk w6 w.heap.size 27 (d.cells (.slice pp d.progs.length cp) (.slice ps d.starts.length cs)) := Blk.foot hdW hf0 (fun e => by have := hgs _ e; omega)
          have hR6 : Blk w6 (w.heap.size + 1) 27 (zeroY.cells (.slice none 0 0) (.slice none 0 0)) := Blk.foot hrW hf0 (fun e => by have := hgs _ e; omega)
          have hq6 : w6.cell? ⟨w.heap.size, 8, none⟩ = some (.slice ps d.starts.length cs) := hB6.cell 8
          have hr6 : w6.frozen? ⟨w.heap.size, 8, none⟩ = false := hB6.frozen 8
          have hb6w : Below B w2.drew w6 := ((Below.refl _ w2.drew).alloc (by omega) _).trans hb6
          refine hK.out _ _ ((hf0.block gb hgl' (fun e => by have := hgs _ e; omega))) (fun hS5 => ?_); clear hK K
          refine wpAnyH_take (i := 16) (v := ?_) rfl (by kernel_rfl) (by kernel_rfl) (by kernel_rfl) (fun _ _ _ h => h) (Or.inl ⟨by rfl, ?_⟩) hS5 ?_
          rotate_left
          · intro w1 _; go_simp; with_reducible rfl
          try simp only [List.getElem_toArray, List.getElem_cons_zero, List.getElem_cons_succ, Act.put, List.setIfInBounds_toArray, List.set_cons_zero, List.set_cons_succ]
          refine wpAnyH_ready (rs := [17]) (by kernel_rfl) (by simp) ?_
          refine AllReadyH.cons rfl (fun K hK => ?_) AllReadyH.nil
          go_simp
          have hfs := foot_cell w6 w.heap.size 8 (.slice np (d.starts.length + 1) nc)
          refine hK.out _ _ ((hfs.block gb (by have := hf0.size; omega) hgn).trans hS5) (fun hS6 => ?_); clear hK K
          refine wpAnyH_done (by kernel_rfl) ?_ _
          have hB7 : Blk (w6.setCell ⟨w.heap.size, 8, none⟩ (.slice np (d.starts.length + 1) nc)) w.heap.size 27 (({ d with starts := d.starts ++ [stS [a0, a1, a2]] } : Dut).cells (.slice pp d.progs.length cp) (.slice np (d.starts.length + 1) nc)) := hB6.set 8 _
          have hR7 : Blk (w6.setCell ⟨w.heap.size, 8, none⟩ (.slice np (d.starts.length + 1) nc)) (w.heap.size + 1) 27 (zeroY.cells (.slice none 0 0) (.slice none 0 0)) := hR6.far (by simp) _
          have ho7 := own_far ho6 hB6 (by decide) hfs
          have hp7 : OPP 45 109 (w6.setCell ⟨w.heap.size, 8, none⟩ (.slice np (d.starts.length + 1) nc)) B (.slice pp d.progs.length cp) d.progs := (hoW.progs.apart hos (by decide) (by decide) hf0).far hB6 (by decide) (by decide) hfs
          have hb7 : Below B w (w6.setCell ⟨w.heap.size, 8, none⟩ (.slice np (d.starts.length + 1) nc)) := ((hbW.mono hB).trans hb6w).trans (hfs.below (Nat.le_trans hB (Nat.le_trans hbW.size hf0.size)) (fun k hk => by omega))
          have hK7 : Keep3 w (w6.setCell ⟨w.heap.size, 8, none⟩ (.slice np (d.starts.length + 1) nc)) := ((Keep3.of_below hbW).own hos (.inr (.inr rfl)) hf0).far hfs (Nat.le_refl _)
          obtain ⟨Wf, hWf⟩ : ∃ Wf, Wf = w6.setCell ⟨w.heap.size, 8, none⟩ (.slice np (d.starts.length + 1) nc) := ⟨_, rfl⟩
          rw [← hWf] at hB7 hR7 ho7 hp7 hb7 hK7 ⊢
          clear hWf hfs
          go_wp2_with (first
            | (refine wpList_load_row rfl 27 _ rfl w.heap.size rfl 27 _ (0, 0) _ hB7 Tryz.underlying27 rfl (sizeY _ _ _) ?_)
            | (refine wpList_store_row rfl 27 _ _ rfl (w.heap.size + 1) (({ d with starts := d.starts ++ [stS [a0, a1, a2]] } : Dut).cells (.slice pp d.progs.length cp) (.slice np (d.starts.length + 1) nc)) rfl rfl 27 _ hR7 (sizeY _ _ _) rfl (oneY _ _ _ _ _ _ _) ?_))
          refine bodyPost_ret (results_row_tmp rfl _ _ (w.heap.size + 1) 27 (({ d with starts := d.starts ++ [stS [a0, a1, a2]] } : Dut).cells (.slice pp d.progs.length cp) (.slice np (d.starts.length + 1) nc)) (0, 0) _ rfl (hR7.row _) Tryz.underlying27 rfl (sizeY _ _ _)) rfl ?_
          have hfr := foot_setRow Wf (w.heap.size + 1) (({ d with starts := d.starts ++ [stS [a0, a1, a2]] } : Dut).cells (.slice pp d.progs.length cp) (.slice np (d.starts.length + 1) nc))
          refine ⟨⟨_, _, rfl, hp7.far hR7 (by decide) (by decide) hfr, ?_⟩, hb7.trans (foot_row _ (by omega)), hK7.far hfr (by omega)⟩
          have := own_far ho7 hR7 (by decide) hfr
          simpa using this
        · refine step_lit_st rfl _ rfl (stS [a0, a1, a2]) rfl ?_
          refine hK.out _ _ ((Below.heap_alloc w2.drew _ gb hgl').trans hS2) (fun hS3 => ?_); clear hK K
          refine wpAnyH_ready (rs := [1]) (by kernel_rfl) (by simp) ?_
          refine AllReadyH.cons rfl (fun K hK => ?_) AllReadyH.nil
          have hq8 : ((w2.alloc (.cells #[.int .i64 (stS [a0, a1, a2]).prog, .int .i64 (stS [a0, a1, a2]).grade, .int .u64 ((stS [a0, a1, a2]).mask : Int)] 58)).drew).cell? ⟨w.heap.size, 8, none⟩ = some (.slice ps d.starts.length cs) := ((Blk.alloc hdW (.cells #[.int .i64 (stS [a0, a1, a2]).prog, .int .i64 (stS [a0, a1, a2]).grade, .int .u64 ((stS [a0, a1, a2]).mask : Int)] 58) : Blk (w2.drew.alloc (.cells #[.int .i64 (stS [a0, a1, a2]).prog, .int .i64 (stS [a0, a1, a2]).grade, .int .u64 ((stS [a0, a1, a2]).mask : Int)] 58)) w.heap.size 27 _)).cell 8
          go_simp
          refine hK.out _ _ (hS3) (fun hS4 => ?_); clear hK K
          refine wpAnyH_ready (rs := [15]) (by kernel_rfl) (by simp) ?_
          refine AllReadyH.cons rfl (fun K hK => ?_) AllReadyH.nil
          refine step_append_st rfl _ _ rfl B (v := .slice ps d.starts.length cs) (ss := d.starts) (World.ownsRow.alloc (w := w2.drew) hos (.cells #[.int .i64 (stS [a0, a1, a2]).prog, .int .i64 (stS [a0, a1, a2]).grade, .int .u64 ((stS [a0, a1, a2]).mask : Int)] 58)) rfl w2.drew.heap.size rfl (stS [a0, a1, a2]) (Blk.new w2.drew 58 _) (by omega) (by simp; omega) ?_
          intro v' w6 ho6 hb6 hf6
          obtain ⟨np, nc, rfl⟩ := own_shape9 ho6
          have hf0 : Foot (fun k => (Value.slice ps d.starts.length cs).ownBlock = some k) w2.drew w6 := (Foot.alloc (Foot.refl _ _) (.cells #[.int .i64 (stS [a0, a1, a2]).prog, .int .i64 (stS [a0, a1, a2]).grade, .int .u64 ((stS [a0, a1, a2]).mask : Int)] 58)).trans hf6
          have hB6 : Blk w6 w.heap.size 27 (d.cells (.slice pp d.progs.length cp) (.slice ps d.starts.length cs)) := Blk.foot hdW hf0 (fun e => by have := hgs _ e; omega)
          have hR6 : Blk w6 (w.heap.size + 1) 27 (zeroY.cells (.slice none 0 0) (.slice none 0 0)) := Blk.foot hrW hf0 (fun e => by have := hgs _ e; omega)
          have hq6 : w6.cell? ⟨w.heap.size, 8, none⟩ = some (.slice ps d.starts.length cs) := hB6.cell 8
          have hr6 : w6.frozen? ⟨w.heap.size, 8, none⟩ = false := hB6.frozen 8
          have hb6w : Below B w2.drew w6 := ((Below.refl _ w2.drew).alloc (by omega) _).trans hb6
          refine hK.out _ _ ((hf0.block gb hgl' (fun e => by have := hgs _ e; omega))) (fun hS5 => ?_); clear hK K
          refine wpAnyH_take (i := 16) (v := ?_) rfl (by kernel_rfl) (by kernel_rfl) (by kernel_rfl) (fun _ _ _ h => h) (Or.inl ⟨by rfl, ?_⟩) hS5 ?_
          rotate_left
          · intro w1 _; go_simp; with_reducible rfl
          try simp only [List.getElem_toArray, List.getElem_cons_zero, List.getElem_cons_succ, Act.put, List.setIfInBounds_toArray, List.set_cons_zero, List.set_cons_succ]
          refine wpAnyH_ready (rs := [17]) (by kernel_rfl) (by simp) ?_
          refine AllReadyH.cons rfl (fun K hK => ?_) AllReadyH.nil
          go_simp
          have hfs := foot_cell w6 w.heap.size 8 (.slice np (d.starts.length + 1) nc)
          refine hK.out _ _ ((hfs.block gb (by have := hf0.size; omega) hgn).trans hS5) (fun hS6 => ?_); clear hK K
          refine wpAnyH_done (by kernel_rfl) ?_ _
          have hB7 : Blk (w6.setCell ⟨w.heap.size, 8, none⟩ (.slice np (d.starts.length + 1) nc)) w.heap.size 27 (({ d with starts := d.starts ++ [stS [a0, a1, a2]] } : Dut).cells (.slice pp d.progs.length cp) (.slice np (d.starts.length + 1) nc)) := hB6.set 8 _
          have hR7 : Blk (w6.setCell ⟨w.heap.size, 8, none⟩ (.slice np (d.starts.length + 1) nc)) (w.heap.size + 1) 27 (zeroY.cells (.slice none 0 0) (.slice none 0 0)) := hR6.far (by simp) _
          have ho7 := own_far ho6 hB6 (by decide) hfs
          have hp7 : OPP 45 109 (w6.setCell ⟨w.heap.size, 8, none⟩ (.slice np (d.starts.length + 1) nc)) B (.slice pp d.progs.length cp) d.progs := (hoW.progs.apart hos (by decide) (by decide) hf0).far hB6 (by decide) (by decide) hfs
          have hb7 : Below B w (w6.setCell ⟨w.heap.size, 8, none⟩ (.slice np (d.starts.length + 1) nc)) := ((hbW.mono hB).trans hb6w).trans (hfs.below (Nat.le_trans hB (Nat.le_trans hbW.size hf0.size)) (fun k hk => by omega))
          have hK7 : Keep3 w (w6.setCell ⟨w.heap.size, 8, none⟩ (.slice np (d.starts.length + 1) nc)) := ((Keep3.of_below hbW).own hos (.inr (.inr rfl)) hf0).far hfs (Nat.le_refl _)
          obtain ⟨Wf, hWf⟩ : ∃ Wf, Wf = w6.setCell ⟨w.heap.size, 8, none⟩ (.slice np (d.starts.length + 1) nc) := ⟨_, rfl⟩
          rw [← hWf] at hB7 hR7 ho7 hp7 hb7 hK7 ⊢
          clear hWf hfs
          go_wp2_with (first
            | (refine wpList_load_row rfl 27 _ rfl w.heap.size rfl 27 _ (0, 0) _ hB7 Tryz.underlying27 rfl (sizeY _ _ _) ?_)
            | (refine wpList_store_row rfl 27 _ _ rfl (w.heap.size + 1) (({ d with starts := d.starts ++ [stS [a0, a1, a2]] } : Dut).cells (.slice pp d.progs.length cp) (.slice np (d.starts.length + 1) nc)) rfl rfl 27 _ hR7 (sizeY _ _ _) rfl (oneY _ _ _ _ _ _ _) ?_))
          refine bodyPost_ret (results_row_tmp rfl _ _ (w.heap.size + 1) 27 (({ d with starts := d.starts ++ [stS [a0, a1, a2]] } : Dut).cells (.slice pp d.progs.length cp) (.slice np (d.starts.length + 1) nc)) (0, 0) _ rfl (hR7.row _) Tryz.underlying27 rfl (sizeY _ _ _)) rfl ?_
          have hfr := foot_setRow Wf (w.heap.size + 1) (({ d with starts := d.starts ++ [stS [a0, a1, a2]] } : Dut).cells (.slice pp d.progs.length cp) (.slice np (d.starts.length + 1) nc))
          refine ⟨⟨_, _, rfl, hp7.far hR7 (by decide) (by decide) hfr, ?_⟩, hb7.trans (foot_row _ (by omega)), hK7.far hfr (by omega)⟩
          have := own_far ho7 hR7 (by decide) hfr
          simpa using this
end Go.Proofs.YtbdimfcdpkldpaaGreatDoor
