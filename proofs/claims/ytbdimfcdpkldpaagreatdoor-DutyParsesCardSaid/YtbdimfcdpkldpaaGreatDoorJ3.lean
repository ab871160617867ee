/- The contract of the reference's line: a duty's first line. -/
import Derived.Test.YtbdimfcdpkldpaaGreatDoorJ2
import Derived.Test.YtbdimfcdpkldpaaGreatDoorZ14
namespace Go.Proofs.YtbdimfcdpkldpaaGreatDoor
open Go.RowKit

set_option maxRecDepth 100000 in
set_option maxHeartbeats 8000000 in
theorem RLineY_head (d : Dut) (pp ps : Option Addr) (cp cs : Nat) (s : ByteArray) (hs : s.size ≤ 4000) (w : World)  (z : List UInt8) (ws : List (List UInt8)) (hD : wordsGo [] s.data.toList = z :: ws) (hz : z = dutyW) (hwl : ws.length ≤ 3999) (hsm : ∀ x ∈ ws, x.length ≤ 4000) (a0 a1 a2 a3 a4 a5 a6 : Nat) (hR : readY ws 2 = some [a0, a1, a2, a3, a4, a5, a6]) :
    Calls Tryz.prog 40 #[.agg (d.cells (.slice pp d.progs.length cp) (.slice ps d.starts.length cs)), .string s, .bool true] w fun e w' => (e = .returned (.tuple #[.agg ((⟨(smallY a0 : Nat), (smallY a1 : Nat), (smallY a2 : Nat), (smallY a3 : Nat), a4, a5, a6, [], []⟩ : Dut).cells (.slice none 0 0) (.slice none 0 0)), .int .i64 0])) ∧ Below w.heap.size w w' := by
  have hw := RWords_any s hs
  rw [hD] at hw
  have big : ∀ x ∈ [a0, a1, a2, a3, a4, a5, a6], x < 18446744073709551616 := readYGo_lt _ _ _ hR
  have hrd : ∀ W v (G : Nat → Prop) (_ : ∀ k, G k → k < W.heap.size) (_ : RV W G v ws.length 1 (ws.map sV)), Calls Tryz.prog 80 #[v, .int .i64 2] W fun e w' => ∃ x, e = .returned (.tuple #[x, .bool true]) ∧ w'.ownsRow W.heap.size 22 1 x 7 ([a0, a1, a2, a3, a4, a5, a6].map uV) ∧ Below W.heap.size W w' := fun W v G hG h => by
    have := RReadY_at 2 2 rfl (by decide) ws (by omega) hsm v G W hG h
    rw [hR] at this
    exact this
  have hd0 : Blk ((w.alloc (.cells (d.cells (.slice pp d.progs.length cp) (.slice ps d.starts.length cs)) 27)).alloc (.cells (zeroY.cells (.slice none 0 0) (.slice none 0 0)) 27)) w.heap.size 27 (d.cells (.slice pp d.progs.length cp) (.slice ps d.starts.length cs)) := (Blk.new w _ _).alloc _
  have hr0 : Blk ((w.alloc (.cells (d.cells (.slice pp d.progs.length cp) (.slice ps d.starts.length cs)) 27)).alloc (.cells (zeroY.cells (.slice none 0 0) (.slice none 0 0)) 27)) (w.heap.size + 1) 27 (zeroY.cells (.slice none 0 0) (.slice none 0 0)) := two_new w _ _ _
  have hb0 := below_alloc2 w (.cells (d.cells (.slice pp d.progs.length cp) (.slice ps d.starts.length cs)) 27) (.cells (zeroY.cells (.slice none 0 0) (.slice none 0 0)) 27)
  obtain ⟨X, hX⟩ : ∃ X : Dut, X = (⟨(smallY a0 : Nat), (smallY a1 : Nat), (smallY a2 : Nat), (smallY a3 : Nat), a4, a5, a6, [], []⟩ : Dut) := ⟨_, rfl⟩
  rw [← hX]
  have HXc : Hid ((#[.int .i64 ((smallY a0 : Nat) : Int), .int .i64 ((smallY a1 : Nat) : Int), .int .i64 ((smallY a2 : Nat) : Int), .int .i64 ((smallY a3 : Nat) : Int), .int .u64 (a4 : Int), .float .f64 a5, .float .f64 a6, .slice none 0 0, .slice none 0 0] : Array Value) = X.cells (.slice none 0 0) (.slice none 0 0)) := Lib.hid (by rw [hX]; rfl)
  clear hX
  have hl0 := fun W => Small_any a0 (big a0 (by simp)) W
  have hl1 := fun W => Small_any a1 (big a1 (by simp)) W
  have hl2 := fun W => Small_any a2 (big a2 (by simp)) W
  have hl3 := fun W => Small_any a3 (big a3 (by simp)) W
  obtain ⟨Z, hZ⟩ : ∃ Z : ByteArray, Z = ⟨z.toArray⟩ := ⟨_, rfl⟩
  have HZ := Lib.hid hZ
  have tz := str_is Z z dutyW hZ true (by simpa using hz)
  unfold dutyW at tz
  clear hs hD hZ hz hR hsm
  go_enter Tryz.func40, Tryz.ntmps40
  go_wp2_with (first
    | (refine wpList_box_agg rfl 27 _ rfl (d.cells (.slice pp d.progs.length cp) (.slice ps d.starts.length cs)) rfl ?_)
    | (refine wpList_alloc_agg rfl 27 rfl (zeroY.cells (.slice none 0 0) (.slice none 0 0)) zeroYR ?_)
    | (go_at_call 79; (with_reducible refine (hw _).mono ?_); clear hw; rintro e w1 ⟨v, rfl, hown, hb1⟩; have hd1 := hd0.below hb1 hd0.lt; have hr1 := hr0.below hb1 hr0.lt; have hb01 := below_pre hb0 hb1; have hrr : RV w1 (fun b => b < w1.heap.size) _ _ 1 _ := (RV.of_own hown).mono (fun k hk _ => hk); obtain ⟨p, c, rfl, hnc, _⟩ := id hrr; obtain ⟨b, off, rfl, hbl, _, hcell⟩ := hrr.at1 0 (sV z) rfl; rw [Nat.add_zero, sV, ← HZ.out] at hcell; rw [List.length_cons] at hnc; have hrr2 : RV w1 (fun b => b < w1.heap.size) (.slice (some ⟨b, off, none⟩) (ws.length + 1) c) (ws.length + 1) 1 (sV z :: ws.map sV) := hrr; have htl := rv_tail hrr2; clear hrr hrr2)
    | (go_at_call 80; (with_reducible refine (hrd w1 _ _ (fun _ hk => hk) htl).mono ?_); clear hrd; rintro e w2 ⟨x, rfl, hx, hb2⟩; obtain ⟨xp, xc, rfl⟩ := own_shape9 hx; have hd2 := hd1.below hb2 hd1.lt; have hr2 := hr1.below hb2 hr1.lt; have hb02 := below_pre hb01 hb2; obtain ⟨gb, go, rfl, hgl, _, _⟩ := (RV.of_own hx).at1 0 (uV a0) rfl))
  all_goals
    have hgb := (hx.lt gb rfl).1
    have hcell : ∀ k x : Nat, [a0, a1, a2, a3, a4, a5, a6][k]? = some x → w2.drew.cell? ⟨gb, go + k, none⟩ = some (.int .u64 (x : Int)) := fun k x hx0 => by
      obtain ⟨b', off', e, _, _, hc⟩ := (RV.of_own hx).atU hx0
      cases e
      exact hc
    have hn1 : w.heap.size + 2 ≤ w1.heap.size := by have := hb1.size; simp at this; omega
    have hn2 := hb2.size
    have hdW : Blk w2.drew w.heap.size 27 (d.cells (.slice pp d.progs.length cp) (.slice ps d.starts.length cs)) := hd2
    have hrW : Blk w2.drew (w.heap.size + 1) 27 (zeroY.cells (.slice none 0 0) (.slice none 0 0)) := hr2
    have hbW : Below w.heap.size w w2.drew := hb02.drew
    have hgn : gb ≠ w.heap.size := by omega
    have hgn1 : gb ≠ w.heap.size + 1 := by omega
    refine wp_region_held_drew (S := fun w' => w'.heap[gb]? = w2.drew.heap[gb]?) (by kernel_rfl) rfl (fun hS0 => ?_)
    refine wpAnyH_take (i := 0) (v := ?_) rfl (by kernel_rfl) (by kernel_rfl) (by kernel_rfl) (fun _ _ _ h => h) (Or.inl ⟨by rfl, ?_⟩) hS0 ?_
    rotate_left
    · intro w1 _; go_simp; with_reducible rfl
    try simp only [List.getElem_toArray, List.getElem_cons_zero, Act.put, List.setIfInBounds_toArray, List.set_cons_zero, List.set_cons_succ]
    refine wpAnyH_take (i := 1) (v := ?_) rfl (by kernel_rfl) (by kernel_rfl) (by kernel_rfl) (fun _ _ _ h => h) (Or.inl ⟨by rfl, ?_⟩) hS0 ?_
    rotate_left
    · intro w1 _; go_simp; with_reducible rfl
    try simp only [List.getElem_toArray, List.getElem_cons_zero, List.getElem_cons_succ, Act.put, List.setIfInBounds_toArray, List.set_cons_zero, List.set_cons_succ]
    refine wpAnyH_take (i := 2) (v := .int .u64 (a0 : Int)) rfl (by kernel_rfl) (by kernel_rfl) (by kernel_rfl) (fun _ _ _ h => h) (Or.inl ⟨by rfl, fun w1 hS1 => by have h0 : w1.cell? ⟨gb, go + 0, none⟩ = some (.int .u64 (a0 : Int)) := (World.cell?_of_block (a := ⟨gb, go + 0, none⟩) hS1).trans (hcell 0 a0 rfl); rw [Nat.add_zero] at h0; go_simp⟩) hS0 ?_
    try simp only [List.getElem_toArray, List.getElem_cons_zero, List.getElem_cons_succ, Act.put, List.setIfInBounds_toArray, List.set_cons_zero, List.set_cons_succ]
    refine wpAnyH_take (i := 4) (v := ?_) rfl (by kernel_rfl) (by kernel_rfl) (by kernel_rfl) (fun _ _ _ h => h) (Or.inl ⟨by rfl, ?_⟩) hS0 ?_
    rotate_left
    · intro w1 _; go_simp; with_reducible rfl
    try simp only [List.getElem_toArray, List.getElem_cons_zero, List.getElem_cons_succ, Act.put, List.setIfInBounds_toArray, List.set_cons_zero, List.set_cons_succ]
    refine wpAnyH_take (i := 5) (v := ?_) rfl (by kernel_rfl) (by kernel_rfl) (by kernel_rfl) (fun _ _ _ h => h) (Or.inl ⟨by rfl, ?_⟩) hS0 ?_
    rotate_left
    · intro w1 _; go_simp; with_reducible rfl
    try simp only [List.getElem_toArray, List.getElem_cons_zero, List.getElem_cons_succ, Act.put, List.setIfInBounds_toArray, List.set_cons_zero, List.set_cons_succ]
    refine wpAnyH_take (i := 6) (v := .int .u64 (a1 : Int)) rfl (by kernel_rfl) (by kernel_rfl) (by kernel_rfl) (fun _ _ _ h => h) (Or.inl ⟨by rfl, fun w1 hS1 => by have h0 : w1.cell? ⟨gb, go + 1, none⟩ = some (.int .u64 (a1 : Int)) := (World.cell?_of_block (a := ⟨gb, go + 1, none⟩) hS1).trans (hcell 1 a1 rfl); go_simp⟩) hS0 ?_
    try simp only [List.getElem_toArray, List.getElem_cons_zero, List.getElem_cons_succ, Act.put, List.setIfInBounds_toArray, List.set_cons_zero, List.set_cons_succ]
    refine wpAnyH_take (i := 8) (v := ?_) rfl (by kernel_rfl) (by kernel_rfl) (by kernel_rfl) (fun _ _ _ h => h) (Or.inl ⟨by rfl, ?_⟩) hS0 ?_
    rotate_left
    · intro w1 _; go_simp; with_reducible rfl
    try simp only [List.getElem_toArray, List.getElem_cons_zero, List.getElem_cons_succ, Act.put, List.setIfInBounds_toArray, List.set_cons_zero, List.set_cons_succ]
    refine wpAnyH_take (i := 9) (v := ?_) rfl (by kernel_rfl) (by kernel_rfl) (by kernel_rfl) (fun _ _ _ h => h) (Or.inl ⟨by rfl, ?_⟩) hS0 ?_
    rotate_left
    · intro w1 _; go_simp; with_reducible rfl
    try simp only [List.getElem_toArray, List.getElem_cons_zero, List.getElem_cons_succ, Act.put, List.setIfInBounds_toArray, List.set_cons_zero, List.set_cons_succ]
    refine wpAnyH_take (i := 10) (v := .int .u64 (a2 : Int)) rfl (by kernel_rfl) (by kernel_rfl) (by kernel_rfl) (fun _ _ _ h => h) (Or.inl ⟨by rfl, fun w1 hS1 => by have h0 : w1.cell? ⟨gb, go + 2, none⟩ = some (.int .u64 (a2 : Int)) := (World.cell?_of_block (a := ⟨gb, go + 2, none⟩) hS1).trans (hcell 2 a2 rfl); go_simp⟩) hS0 ?_
    try simp only [List.getElem_toArray, List.getElem_cons_zero, List.getElem_cons_succ, Act.put, List.setIfInBounds_toArray, List.set_cons_zero, List.set_cons_succ]
    refine wpAnyH_take (i := 12) (v := ?_) rfl (by kernel_rfl) (by kernel_rfl) (by kernel_rfl) (fun _ _ _ h => h) (Or.inl ⟨by rfl, ?_⟩) hS0 ?_
    rotate_left
    · intro w1 _; go_simp; with_reducible rfl
    try simp only [List.getElem_toArray, List.getElem_cons_zero, List.getElem_cons_succ, Act.put, List.setIfInBounds_toArray, List.set_cons_zero, List.set_cons_succ]
    refine wpAnyH_take (i := 13) (v := ?_) rfl (by kernel_rfl) (by kernel_rfl) (by kernel_rfl) (fun _ _ _ h => h) (Or.inl ⟨by rfl, ?_⟩) hS0 ?_
    rotate_left
    · intro w1 _; go_simp; with_reducible rfl
    try simp only [List.getElem_toArray, List.getElem_cons_zero, List.getElem_cons_succ, Act.put, List.setIfInBounds_toArray, List.set_cons_zero, List.set_cons_succ]
    refine wpAnyH_take (i := 14) (v := .int .u64 (a3 : Int)) rfl (by kernel_rfl) (by kernel_rfl) (by kernel_rfl) (fun _ _ _ h => h) (Or.inl ⟨by rfl, fun w1 hS1 => by have h0 : w1.cell? ⟨gb, go + 3, none⟩ = some (.int .u64 (a3 : Int)) := (World.cell?_of_block (a := ⟨gb, go + 3, none⟩) hS1).trans (hcell 3 a3 rfl); go_simp⟩) hS0 ?_
    try simp only [List.getElem_toArray, List.getElem_cons_zero, List.getElem_cons_succ, Act.put, List.setIfInBounds_toArray, List.set_cons_zero, List.set_cons_succ]
    refine wpAnyH_take (i := 16) (v := ?_) rfl (by kernel_rfl) (by kernel_rfl) (by kernel_rfl) (fun _ _ _ h => h) (Or.inl ⟨by rfl, ?_⟩) hS0 ?_
    rotate_left
    · intro w1 _; go_simp; with_reducible rfl
    try simp only [List.getElem_toArray, List.getElem_cons_zero, List.getElem_cons_succ, Act.put, List.setIfInBounds_toArray, List.set_cons_zero, List.set_cons_succ]
    refine wpAnyH_take (i := 17) (v := ?_) rfl (by kernel_rfl) (by kernel_rfl) (by kernel_rfl) (fun _ _ _ h => h) (Or.inl ⟨by rfl, ?_⟩) hS0 ?_
    rotate_left
    · intro w1 _; go_simp; with_reducible rfl
    try simp only [List.getElem_toArray, List.getElem_cons_zero, List.getElem_cons_succ, Act.put, List.setIfInBounds_toArray, List.set_cons_zero, List.set_cons_succ]
    refine wpAnyH_take (i := 18) (v := .int .u64 (a4 : Int)) rfl (by kernel_rfl) (by kernel_rfl) (by kernel_rfl) (fun _ _ _ h => h) (Or.inl ⟨by rfl, fun w1 hS1 => by have h0 : w1.cell? ⟨gb, go + 4, none⟩ = some (.int .u64 (a4 : Int)) := (World.cell?_of_block (a := ⟨gb, go + 4, none⟩) hS1).trans (hcell 4 a4 rfl); go_simp⟩) hS0 ?_
    try simp only [List.getElem_toArray, List.getElem_cons_zero, List.getElem_cons_succ, Act.put, List.setIfInBounds_toArray, List.set_cons_zero, List.set_cons_succ]
    refine wpAnyH_take (i := 19) (v := ?_) rfl (by kernel_rfl) (by kernel_rfl) (by kernel_rfl) (fun _ _ _ h => h) (Or.inl ⟨by rfl, ?_⟩) hS0 ?_
    rotate_left
    · intro w1 _; go_simp; with_reducible rfl
    try simp only [List.getElem_toArray, List.getElem_cons_zero, List.getElem_cons_succ, Act.put, List.setIfInBounds_toArray, List.set_cons_zero, List.set_cons_succ]
    refine wpAnyH_take (i := 20) (v := ?_) rfl (by kernel_rfl) (by kernel_rfl) (by kernel_rfl) (fun _ _ _ h => h) (Or.inl ⟨by rfl, ?_⟩) hS0 ?_
    rotate_left
    · intro w1 _; go_simp; with_reducible rfl
    try simp only [List.getElem_toArray, List.getElem_cons_zero, List.getElem_cons_succ, Act.put, List.setIfInBounds_toArray, List.set_cons_zero, List.set_cons_succ]
    refine wpAnyH_take (i := 21) (v := .int .u64 (a5 : Int)) rfl (by kernel_rfl) (by kernel_rfl) (by kernel_rfl) (fun _ _ _ h => h) (Or.inl ⟨by rfl, fun w1 hS1 => by have h0 : w1.cell? ⟨gb, go + 5, none⟩ = some (.int .u64 (a5 : Int)) := (World.cell?_of_block (a := ⟨gb, go + 5, none⟩) hS1).trans (hcell 5 a5 rfl); go_simp⟩) hS0 ?_
    try simp only [List.getElem_toArray, List.getElem_cons_zero, List.getElem_cons_succ, Act.put, List.setIfInBounds_toArray, List.set_cons_zero, List.set_cons_succ]
    refine wpAnyH_take (i := 23) (v := ?_) rfl (by kernel_rfl) (by kernel_rfl) (by kernel_rfl) (fun _ _ _ h => h) (Or.inl ⟨by rfl, ?_⟩) hS0 ?_
    rotate_left
    · intro w1 _; go_simp; with_reducible rfl
    try simp only [List.getElem_toArray, List.getElem_cons_zero, List.getElem_cons_succ, Act.put, List.setIfInBounds_toArray, List.set_cons_zero, List.set_cons_succ]
    refine wpAnyH_take (i := 24) (v := ?_) rfl (by kernel_rfl) (by kernel_rfl) (by kernel_rfl) (fun _ _ _ h => h) (Or.inl ⟨by rfl, ?_⟩) hS0 ?_
    rotate_left
    · intro w1 _; go_simp; with_reducible rfl
    try simp only [List.getElem_toArray, List.getElem_cons_zero, List.getElem_cons_succ, Act.put, List.setIfInBounds_toArray, List.set_cons_zero, List.set_cons_succ]
    refine wpAnyH_take (i := 25) (v := .int .u64 (a6 : Int)) rfl (by kernel_rfl) (by kernel_rfl) (by kernel_rfl) (fun _ _ _ h => h) (Or.inl ⟨by rfl, fun w1 hS1 => by have h0 : w1.cell? ⟨gb, go + 6, none⟩ = some (.int .u64 (a6 : Int)) := (World.cell?_of_block (a := ⟨gb, go + 6, none⟩) hS1).trans (hcell 6 a6 rfl); go_simp⟩) hS0 ?_
    try simp only [List.getElem_toArray, List.getElem_cons_zero, List.getElem_cons_succ, Act.put, List.setIfInBounds_toArray, List.set_cons_zero, List.set_cons_succ]
    refine wpAnyH_ready (rs := [3]) (by kernel_rfl) (by simp) ?_
    refine AllReadyH.cons rfl (fun K hK => ?_) AllReadyH.nil
    go_simp
    refine (hl0 _).mono ?_
    rintro e w5 ⟨rfl, rfl⟩
    dsimp only
    refine hK.out _ _ (hS0) (fun hS1 => ?_); clear hK K
    refine wpAnyH_ready (rs := [7]) (by kernel_rfl) (by simp) ?_
    refine AllReadyH.cons rfl (fun K hK => ?_) AllReadyH.nil
    go_simp
    refine (hl1 _).mono ?_
    rintro e w5 ⟨rfl, rfl⟩
    dsimp only
    refine hK.out _ _ (hS1) (fun hS2 => ?_); clear hK K
    refine wpAnyH_ready (rs := [11]) (by kernel_rfl) (by simp) ?_
    refine AllReadyH.cons rfl (fun K hK => ?_) AllReadyH.nil
    go_simp
    refine (hl2 _).mono ?_
    rintro e w5 ⟨rfl, rfl⟩
    dsimp only
    refine hK.out _ _ (hS2) (fun hS3 => ?_); clear hK K
    refine wpAnyH_ready (rs := [15]) (by kernel_rfl) (by simp) ?_
    refine AllReadyH.cons rfl (fun K hK => ?_) AllReadyH.nil
    go_simp
    refine (hl3 _).mono ?_
    rintro e w5 ⟨rfl, rfl⟩
    dsimp only
    refine hK.out _ _ (hS3) (fun hS4 => ?_); clear hK K
    refine wpAnyH_take (i := 22) (v := .float .f64 a5) rfl (by kernel_rfl) (by kernel_rfl) (by kernel_rfl) (fun _ _ _ h => h) (Or.inl ⟨by rfl, fun w1 hS1 => by go_simp; rw [f64from_run]⟩) hS4 ?_
    try simp only [List.getElem_toArray, List.getElem_cons_zero, List.getElem_cons_succ, Act.put, List.setIfInBounds_toArray, List.set_cons_zero, List.set_cons_succ]
    refine wpAnyH_take (i := 26) (v := .float .f64 a6) rfl (by kernel_rfl) (by kernel_rfl) (by kernel_rfl) (fun _ _ _ h => h) (Or.inl ⟨by rfl, fun w1 hS1 => by go_simp; rw [f64from_run]⟩) hS4 ?_
    try simp only [List.getElem_toArray, List.getElem_cons_zero, List.getElem_cons_succ, Act.put, List.setIfInBounds_toArray, List.set_cons_zero, List.set_cons_succ]
    refine wpAnyH_take (i := 27) (v := .agg (X.cells (.slice none 0 0) (.slice none 0 0))) rfl (by kernel_rfl) (by kernel_rfl) (by kernel_rfl) (fun _ _ _ h => h) (Or.inl ⟨by rfl, fun w1 hS1 => by go_simp; rw [← HXc.out]⟩) hS4 ?_
    try simp only [List.getElem_toArray, List.getElem_cons_zero, List.getElem_cons_succ, Act.put, List.setIfInBounds_toArray, List.set_cons_zero, List.set_cons_succ]
    refine wpAnyH_ready (rs := [28]) (by kernel_rfl) (by simp) ?_
    refine AllReadyH.cons rfl (fun K hK => ?_) AllReadyH.nil
    refine step_store_row rfl 27 _ _ rfl (w.heap.size + 1) (X.cells (.slice none 0 0) (.slice none 0 0)) rfl rfl 27 _ hrW (sizeY _ _ _) rfl (oneY _ _ _ _ _ _ _) ?_
    refine hK.out _ _ (setRow_other w2.drew (w.heap.size + 1) gb _ hgn1) (fun hS5 => ?_); clear hK K
    refine wpAnyH_take (i := 29) (v := ?_) rfl (by kernel_rfl) (by kernel_rfl) (by kernel_rfl) (fun _ _ _ h => h) (Or.inl ⟨by rfl, ?_⟩) hS5 ?_
    rotate_left
    · intro w1 _; go_simp; with_reducible rfl
    try simp only [List.getElem_toArray, List.getElem_cons_zero, List.getElem_cons_succ, Act.put, List.setIfInBounds_toArray, List.set_cons_zero, List.set_cons_succ]
    refine wpAnyH_done (by kernel_rfl) ?_ _
    go_wp2
    refine bodyPost_ret (results_row_tmp rfl _ _ (w.heap.size + 1) 27 (X.cells (.slice none 0 0) (.slice none 0 0)) (0, 0) _ rfl (hrW.row _) Tryz.underlying27 rfl (sizeY _ _ _)) rfl ?_
    exact ⟨rfl, hbW.trans (foot_row _ (by omega))⟩
end Go.Proofs.YtbdimfcdpkldpaaGreatDoor
