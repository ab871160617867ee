/- The contract of addDeed. -/
import Derived.Test.YtbdimfcdpkldpaaGreatDoorZ11
import Derived.Test.YtbdimfcdpkldpaaGreatDoorD7
namespace Go.Proofs.YtbdimfcdpkldpaaGreatDoor
open Go.RowKit

section
variable {ops : Array Oper} {o : Oper} {a : Act} {W : World} {K : Act → World → Prop} {Q : Exit → Act → World → Prop} {E : Prop}
theorem step_lit_deed (hgd : o.guard = none) (x : Operand) (ho : o.op = .buildSlice 45 1 #[(0, x)]) (d : Deed) (hx : a.eval x = .agg d.cells)
    (h : K (a.put o.dst (.slice (some ⟨W.heap.size, 0, none⟩) 1 1)) (W.alloc (.cells d.cells 109))) : if Region.wanted o (yielded ops a.tmps) = true then Oper.wp Tryz.prog o a W K Q else E := by
  rw [if_pos (by simp [Region.wanted, hgd])]
  obtain ⟨i0, hi, hz0, hz1, hz2⟩ := info_parts infoDD
  refine wp_buildSlice 45 109 1 _ ho d.cells i0 _ Tryz.underlying45 hi hz0 (by rw [hz1]; decide) (by rw [hz1]; decide) ?_ h
  rw [hz1]
  simp only [List.map_toArray, List.map_cons, List.map_nil, hx]
  exact fill_deed d
theorem step_append_deed (hgd : o.guard = none) (s x : Operand) (ho : o.op = .call { callee := .builtin .append, args := #[s, x], argTypes := #[45, 45] })
    (B : Nat) {v : Value} {n : Nat} {ps : List Deed} (hown : W.ownsRow B 109 7 v n (ps.flatMap dCells)) (hs : a.eval s = v) (g : Nat) (hx : a.eval x = .slice (some ⟨g, 0, none⟩) 1 1) (d : Deed) (hg : Blk W g 109 d.cells)
    (hn : n + 1 ≤ 100000) (hB : B ≤ W.heap.size)
    (h : ∀ v' w', w'.ownsRow B 109 7 v' (n + 1) ((ps ++ [d]).flatMap dCells) → Below B W w' → (v'.ownBlock = v.ownBlock ∨ ∀ k, v'.ownBlock = some k → W.heap.size ≤ k) → Foot (fun k => v.ownBlock = some k) W w' → K (a.put o.dst v') w') :
    if Region.wanted o (yielded ops a.tmps) = true then Oper.wp Tryz.prog o a W K Q else E := by
  rw [if_pos (by simp [Region.wanted, hgd])]
  obtain ⟨i0, hi, hz0, hz1, hz2⟩ := info_parts infoDD
  have hr : RV W (fun k => k = g) (.slice (some ⟨g, 0, none⟩) 1 1) 1 7 (dCells d) := by
    refine ⟨_, _, rfl, Nat.le_refl _, by unfold maxLen; omega, (fun e => by cases e), rfl, .inr ⟨_, 0, rfl, hg.lt, rfl, fun j u hu => ?_⟩⟩
    rw [Nat.zero_add, hg.cell j]
    simpa [dCells] using hu
  obtain ⟨v', w', hr, h2, h3, h4⟩ := run_append_rv (P := Tryz.prog) W B 45 o.type 109 i0 (.agg zeroD.cells) 7 56 Tryz.underlying45 hi hz0 hz1 hz2 rfl (by decide) v n (ps.flatMap dCells) hown _ _ 1 (dCells d) hr (fun u hu => by
    simp [dCells, Deed.cells] at hu
    rcases hu with rfl | rfl | rfl | rfl | rfl | rfl | rfl <;> rfl) (by unfold maxLen; omega) (by omega) (by omega)
  unfold Oper.wp execOp
  simp only [ho, resolve, invoke, builtin, Sem.run_bind, Sem.run_pure, Result.andThen_ok, List.map_toArray, List.map_cons, List.map_nil, hs, hx, hr]
  refine h v' w' (by rw [flat_snoc]; exact h2) ?_ ?_ ?_
  · exact (Below.refl B W).grown h3 (by omega) (fun j hj => (hown.lt j hj).1)
  · rcases h4 with h4 | h4
    · exact .inl h4
    · refine .inr fun k hk => ?_
      rw [h4] at hk
      simp at hk
      omega
  · exact Foot.of_grown h3
end
theorem foot_g (w : World) (g i : Nat) (u : Value) (v : Value) (hv : v.ownBlock = some g) : Foot (fun k => v.ownBlock = some k) w (w.setCell ⟨g, i, none⟩ u) := Foot.setCell (S := fun k => v.ownBlock = some k) (Foot.refl _ w) (p := ⟨g, i, none⟩) (.inl hv) u

set_option maxRecDepth 100000 in
set_option maxHeartbeats 4000000 in
theorem AddDeed_out (B b : Nat) (dr : Dr) (s : ByteArray) (w : World) (hout : dr.progs = [] ∨ dr.starts ≠ []) (h : DrAt w B b dr) (hsm : dr.progs.length ≤ 20000) :
    Calls Tryz.prog 77 #[.pointer (some ⟨b, 0, none⟩), .string s] w fun e w' => e = .returned (.int .i64 15) ∧ w = w' := by
  obtain ⟨hBb, ov, pv, sv, hk, h0, h1, h2, h3⟩ := h
  have hbl := hk.lt
  obtain ⟨sp, sc, rfl⟩ : ∃ p c, sv = .slice p dr.starts.length c := by
    obtain ⟨us, _, ho, _⟩ := h3
    exact own_shape9 ho
  obtain ⟨pp, pc, rfl⟩ : ∃ p c, pv = .slice p dr.progs.length c := by
    obtain ⟨us, _, ho, _⟩ := h2
    exact own_shape9 ho
  have c1 : w.cell? ⟨b, 1, none⟩ = some (.slice pp dr.progs.length pc) := hk.cell 1
  have c2 : w.cell? ⟨b, 2, none⟩ = some (.slice sp dr.starts.length sc) := hk.cell 2
  have tw : Hid (wrap64 ((dr.progs.length : Int) - 1) = (dr.progs.length : Int) - 1) := Lib.hid (by rw [IntWalk.wrap64_in _ (by omega)])
  clear h1 h2 h3 hsm
  by_cases hp : dr.progs = []
  · have t0 : decide (((dr.progs.length : Int) - 1) < 0) = true := by rw [hp]; decide
    clear hout hp
    go_enter Tryz.func77, Tryz.ntmps77
    go_wp2_with (rw [tw.out])
    all_goals go_ret
    all_goals exact ⟨rfl, rfl⟩
  · have hs := hout.resolve_left hp
    have t1 : decide (0 < dr.starts.length) = true := by
      have := List.length_pos_iff.2 hs
      simpa using this
    have t0 : decide (((dr.progs.length : Int) - 1) < 0) = false := by
      have := List.length_pos_iff.2 hp
      simp
      omega
    clear hout hp hs
    go_enter Tryz.func77, Tryz.ntmps77
    go_wp2_with (rw [tw.out])
    all_goals go_ret
    all_goals exact ⟨rfl, rfl⟩

set_option maxRecDepth 100000 in
set_option maxHeartbeats 4000000 in
theorem AddDeed_in (B b : Nat) (dr : Dr) (s : ByteArray) (hs4 : s.size ≤ 4000) (qs : List (List Deed)) (p : List Deed) (hpq : dr.progs = qs ++ [p]) (hst : dr.starts = []) (hsm : qs.length ≤ 20000) (hpl : p.length ≤ 20000) (w : World) (hB : B ≤ w.heap.size) (h : DrAt w B b dr) :
    Calls Tryz.prog 77 #[.pointer (some ⟨b, 0, none⟩), .string s] w fun e w' => e = .returned (.int .i64 ((parseD s.data.toList).2 : Nat)) ∧ Below B w w' ∧ DrAt w' B b { dr with progs := qs ++ [p ++ [(parseD s.data.toList).1]] } := by
  have hps := fun W => Parse_any s hs4 W
  generalize parseD s.data.toList = R at hps ⊢
  obtain ⟨D, y⟩ := R
  simp only [Deed.val] at hps ⊢
  obtain ⟨hBb, ov, pv, sv, hk, h0, h1, h2, h3⟩ := h
  rw [hpq] at h2
  have hbl := hk.lt
  obtain ⟨us, hl2, ho2, _⟩ := id h2
  rw [List.length_append, List.length_singleton] at ho2
  obtain ⟨g, cap, u, rfl, hBg, hgl, hu, hug, hcell, hmk⟩ := h2.last (by decide)
  obtain ⟨sp, sc, rfl⟩ : ∃ p c, sv = .slice p dr.starts.length c := by
    obtain ⟨us, _, ho, _⟩ := h3
    exact own_shape9 ho
  obtain ⟨up, uc, rfl⟩ := own_shape9 hu
  have hgb : g ≠ b := fun e => own_ne_blk ho2 hk (by decide) (by rw [e]; rfl)
  have c1 : w.cell? ⟨b, 1, none⟩ = some (.slice (some ⟨g, 0, none⟩) (qs.length + 1) cap) := hk.cell 1
  have c2 : w.cell? ⟨b, 2, none⟩ = some (.slice sp dr.starts.length sc) := hk.cell 2
  have t1 : decide (0 < dr.starts.length) = false := by simp [hst]
  have tw : Hid (wrap64 ((qs.length : Int) + 1 - 1) = (qs.length : Int)) := Lib.hid (by rw [IntWalk.wrap64_in _ (by omega)]; omega)
  have t0 : ¬ (qs.length : Int) < 0 := by omega
  have ti : (qs.length : Int) < (qs.length : Int) + 1 := by omega
  have HMK := Lib.hid hmk
  have HCE := Lib.hid hcell
  have HST := Lib.hid hst
  clear hmk hcell hst hpq h2
  go_enter Tryz.func77, Tryz.ntmps77
  go_wp2_with (first
    | rw [tw.out]
    | (refine wpList_alloc_agg rfl 109 rfl zeroD.cells zeroR ?_)
    | (go_at_call 121; (with_reducible refine (hps _).mono ?_); clear hps; rintro e w1 ⟨rfl, hb1⟩)
    | (refine wpList_store_row rfl 109 _ _ rfl w1.heap.size D.cells rfl rfl 109 _ (heap_alloc_new w1 _) (sizeD _) rfl (oneD _) ?_; rw [World.setRow_alloc_new]))
  have hb2 : Below w.heap.size w (w1.alloc (.cells D.cells 109)) := below_pre hb1 (below_alloc1 w1 _)
  have hD2 := Blk.new w1 109 D.cells
  obtain ⟨W, hW⟩ : ∃ W, W = w1.alloc (.cells D.cells 109) := ⟨_, rfl⟩
  rw [← hW] at hb2 hD2 ⊢
  have hs1 : w1.heap.size < W.heap.size := hD2.lt
  have hs0 := hb1.size
  clear hW c1 c2
  have hbd : Below w.heap.size w W.drew := hb2.drew
  have hfd : Foot (fun k => (Value.slice up p.length uc).ownBlock = some k) w W.drew := Foot.of_below _ hbd
  have hk2 : Blk W.drew b 71 #[ov, .slice (some ⟨g, 0, none⟩) (qs.length + 1) cap, .slice sp dr.starts.length sc] := hk.below hbd hk.lt
  have hD3 : Blk W.drew w1.heap.size 109 D.cells := hD2
  have hu2 := ownsRow_below hu hbd (Nat.le_refl _)
  refine wp_region_held_drew (S := fun w' => Blk w' b 71 #[ov, .slice (some ⟨g, 0, none⟩) (qs.length + 1) cap, .slice sp dr.starts.length sc] ∧ Blk w' w1.heap.size 109 D.cells) (by kernel_rfl) ⟨hk2, hD3⟩ (fun hS0 => ?_)
  refine wpAnyH_take (i := 0) (v := ?_) rfl (by kernel_rfl) (by kernel_rfl) (by kernel_rfl) (fun _ _ _ h => h) (Or.inl ⟨by rfl, ?_⟩) hS0 ?_
  rotate_left
  · intro w1 _; go_simp; with_reducible rfl
  try simp only [List.getElem_toArray, List.getElem_cons_zero, Act.put, List.setIfInBounds_toArray, List.set_cons_zero, List.set_cons_succ]
  refine wpAnyH_take (i := 1) (v := ?_) rfl (by kernel_rfl) (by kernel_rfl) (by kernel_rfl) (fun _ _ _ h => h) (Or.inl ⟨by rfl, ?_⟩) hS0 ?_
  rotate_left
  · intro w1 _; go_simp; with_reducible rfl
  try simp only [List.getElem_toArray, List.getElem_cons_zero, List.getElem_cons_succ, Act.put, List.setIfInBounds_toArray, List.set_cons_zero, List.set_cons_succ]
  refine wpAnyH_take (i := 2) (v := ?_) rfl (by kernel_rfl) (by kernel_rfl) (by kernel_rfl) (fun _ _ _ h => h) (Or.inl ⟨by rfl, ?_⟩) hS0 ?_
  rotate_left
  · intro w1 _; go_simp; with_reducible rfl
  try simp only [List.getElem_toArray, List.getElem_cons_zero, List.getElem_cons_succ, Act.put, List.setIfInBounds_toArray, List.set_cons_zero, List.set_cons_succ]
  refine wpAnyH_take (i := 3) (v := .slice (some ⟨g, 0, none⟩) (qs.length + 1) cap) rfl (by kernel_rfl) (by kernel_rfl) (by kernel_rfl) (fun _ _ _ h => h) (Or.inl ⟨by rfl, fun w1 hS1 => by have h0 : w1.cell? ⟨b, 1, none⟩ = some (.slice (some ⟨g, 0, none⟩) (qs.length + 1) cap) := Blk.cell (hS1.1 : Blk w1 b 71 _) 1; go_simp⟩) hS0 ?_
  try simp only [List.getElem_toArray, List.getElem_cons_zero, List.getElem_cons_succ, Act.put, List.setIfInBounds_toArray, List.set_cons_zero, List.set_cons_succ]
  refine wpAnyH_take (i := 4) (v := ?_) rfl (by kernel_rfl) (by kernel_rfl) (by kernel_rfl) (fun _ _ _ h => h) (Or.inl ⟨by rfl, ?_⟩) hS0 ?_
  rotate_left
  · intro w1 _; go_simp; with_reducible rfl
  try simp only [List.getElem_toArray, List.getElem_cons_zero, List.getElem_cons_succ, Act.put, List.setIfInBounds_toArray, List.set_cons_zero, List.set_cons_succ]
  refine wpAnyH_take (i := 5) (v := ?_) rfl (by kernel_rfl) (by kernel_rfl) (by kernel_rfl) (fun _ _ _ h => h) (Or.inl ⟨by rfl, ?_⟩) hS0 ?_
  rotate_left
  · intro w1 _; go_simp; with_reducible rfl
  try simp only [List.getElem_toArray, List.getElem_cons_zero, List.getElem_cons_succ, Act.put, List.setIfInBounds_toArray, List.set_cons_zero, List.set_cons_succ]
  refine wpAnyH_take (i := 6) (v := ?_) rfl (by kernel_rfl) (by kernel_rfl) (by kernel_rfl) (fun _ _ _ h => h) (Or.inl ⟨by rfl, ?_⟩) hS0 ?_
  rotate_left
  · intro w1 _; go_simp; with_reducible rfl
  try simp only [List.getElem_toArray, List.getElem_cons_zero, List.getElem_cons_succ, Act.put, List.setIfInBounds_toArray, List.set_cons_zero, List.set_cons_succ]
  refine wpAnyH_take (i := 7) (v := ?_) rfl (by kernel_rfl) (by kernel_rfl) (by kernel_rfl) (fun _ _ _ h => h) (Or.inl ⟨by rfl, ?_⟩) hS0 ?_
  rotate_left
  · intro w1 _; go_simp; with_reducible rfl
  try simp only [List.getElem_toArray, List.getElem_cons_zero, List.getElem_cons_succ, Act.put, List.setIfInBounds_toArray, List.set_cons_zero, List.set_cons_succ]
  refine wpAnyH_take (i := 8) (v := .slice (some ⟨g, 0, none⟩) (qs.length + 1) cap) rfl (by kernel_rfl) (by kernel_rfl) (by kernel_rfl) (fun _ _ _ h => h) (Or.inl ⟨by rfl, fun w1 hS1 => by have h0 : w1.cell? ⟨b, 1, none⟩ = some (.slice (some ⟨g, 0, none⟩) (qs.length + 1) cap) := Blk.cell (hS1.1 : Blk w1 b 71 _) 1; go_simp⟩) hS0 ?_
  try simp only [List.getElem_toArray, List.getElem_cons_zero, List.getElem_cons_succ, Act.put, List.setIfInBounds_toArray, List.set_cons_zero, List.set_cons_succ]
  refine wpAnyH_take (i := 9) (v := ?_) rfl (by kernel_rfl) (by kernel_rfl) (by kernel_rfl) (fun _ _ _ h => h) (Or.inl ⟨by rfl, ?_⟩) hS0 ?_
  rotate_left
  · intro w1 _; go_simp; with_reducible rfl
  try simp only [List.getElem_toArray, List.getElem_cons_zero, List.getElem_cons_succ, Act.put, List.setIfInBounds_toArray, List.set_cons_zero, List.set_cons_succ]
  refine wpAnyH_take (i := 10) (v := ?_) rfl (by kernel_rfl) (by kernel_rfl) (by kernel_rfl) (fun _ _ _ h => h) (Or.inl ⟨by rfl, ?_⟩) hS0 ?_
  rotate_left
  · intro w1 _; go_simp; with_reducible rfl
  try simp only [List.getElem_toArray, List.getElem_cons_zero, List.getElem_cons_succ, Act.put, List.setIfInBounds_toArray, List.set_cons_zero, List.set_cons_succ]
  refine wpAnyH_take (i := 12) (v := .agg D.cells) rfl (by kernel_rfl) (by kernel_rfl) (by kernel_rfl) (fun _ _ _ h => h) (yields_row rfl 109 _ rfl w1.heap.size rfl 109 _ (0, 0) _ (fun w1 hS1 => hS1.2) Tryz.underlying109 rfl (sizeD _)) hS0 ?_
  try simp only [List.getElem_toArray, List.getElem_cons_zero, List.getElem_cons_succ, Act.put, List.setIfInBounds_toArray, List.set_cons_zero, List.set_cons_succ]
  refine wpAnyH_ready (rs := [11, 13]) (by kernel_rfl) (by simp) ?_
  refine AllReadyH.cons rfl (fun K hK => ?_) (AllReadyH.cons rfl (fun K hK => ?_) AllReadyH.nil)
  · obtain ⟨hc, _⟩ := HCE.out _ hfd
    go_simp
    refine hK.out _ _ (hS0) (fun hS1 => ?_); clear hK K
    refine wpAnyH_ready (rs := [13]) (by kernel_rfl) (by simp) ?_
    refine AllReadyH.cons rfl (fun K hK => ?_) AllReadyH.nil
    refine step_lit_deed rfl _ rfl D rfl ?_
    refine hK.out _ _ (⟨(hS1).1.alloc _, (hS1).2.alloc _⟩) (fun hS2 => ?_); clear hK K
    refine wpAnyH_ready (rs := [14]) (by kernel_rfl) (by simp) ?_
    refine AllReadyH.cons rfl (fun K hK => ?_) AllReadyH.nil
    refine step_append_deed rfl _ _ rfl B (v := .slice up p.length uc) (hu2.alloc (.cells D.cells 109)) rfl W.drew.heap.size rfl D (Blk.new W.drew 109 D.cells) (by omega) (by simp; have := hbd.size; omega) ?_
    intro v' w3 ho4 hb4 hnw hf4
    obtain ⟨vp, vc, rfl⟩ := own_shape9 ho4
    have hf5 : Foot (fun k => (Value.slice up p.length uc).ownBlock = some k) w w3 := (hfd.alloc (.cells D.cells 109)).trans hf4
    obtain ⟨hc5, hr5⟩ := HCE.out _ hf5
    have hkb : Blk w3 b 71 #[ov, .slice (some ⟨g, 0, none⟩) (qs.length + 1) cap, .slice sp dr.starts.length sc] := hk.foot hf5 (fun e => own_ne_blk hu hk (by decide) e)
    have hkd : Blk w3 w1.heap.size 109 D.cells := Blk.foot (hD3.alloc (.cells D.cells 109)) hf4 (fun e => by have := (hu.lt _ e).2; omega)
    refine hK.out _ _ (⟨hkb, hkd⟩) (fun hS3 => ?_); clear hK K
    refine wpAnyH_take (i := 15) (v := ?_) rfl (by kernel_rfl) (by kernel_rfl) (by kernel_rfl) (fun _ _ _ h => h) (Or.inl ⟨by rfl, ?_⟩) hS3 ?_
    rotate_left
    · intro w1 _; go_simp; with_reducible rfl
    try simp only [List.getElem_toArray, List.getElem_cons_zero, List.getElem_cons_succ, Act.put, List.setIfInBounds_toArray, List.set_cons_zero, List.set_cons_succ]
    refine wpAnyH_ready (rs := [16]) (by kernel_rfl) (by simp) ?_
    refine AllReadyH.cons rfl (fun K hK => ?_) AllReadyH.nil
    go_simp
    refine hK.out _ _ (⟨hkb.far (fun e => hgb e.symm) _, hkd.far (fun e => by have : w1.heap.size = g := e; omega) _⟩) (fun hS4 => ?_); clear hK K
    refine wpAnyH_done (by kernel_rfl) ?_ _
    go_wp2
    go_ret
    have hfg := foot_g w3 g qs.length (.slice vp (p.length + 1) vc) (.slice (some ⟨g, 0, none⟩) (qs.length + 1) cap) rfl
    have ho6 := hf5.own ho2 (own_apart ho2 hu (by decide))
    refine ⟨rfl, ?_, hBb, ov, _, _, hkb.far (fun e => hgb e.symm) _, h0, ?_, ?_, ?_⟩
    · exact ((hbd.mono hB).trans (((Below.refl B W.drew).alloc (Nat.le_trans hB hbd.size) _).trans hb4)).trans (hfg.below (by have := hf5.size; omega) (fun k hk => (by simpa [Value.ownBlock] using hk : g = k) ▸ hBg))
    · have q1 := hf5.own h1 (own_apart h1 hu (by decide))
      exact hfg.own q1 (own_apart q1 ho6 (by decide))
    · exact HMK.out _ (p ++ [D]) w3 (by rw [List.length_append]; exact ho4) hf5 (hnw.imp id (fun hh k hk => by have := hh k hk; have := hbd.size; simp at *; omega))
    · exact (h3.apart hu (by decide) (by decide) hf5).apart ho6 (by decide) (by decide) hfg
  · refine step_lit_deed rfl _ rfl D rfl ?_
    refine hK.out _ _ (⟨(hS0).1.alloc _, (hS0).2.alloc _⟩) (fun hS1 => ?_); clear hK K
    refine wpAnyH_ready (rs := [11]) (by kernel_rfl) (by simp) ?_
    refine AllReadyH.cons rfl (fun K hK => ?_) AllReadyH.nil
    obtain ⟨hc, _⟩ := HCE.out _ (hfd.alloc (.cells D.cells 109))
    have hc2 : (W.alloc (.cells D.cells 109)).drew.cell? ⟨g, qs.length, none⟩ = some (.slice up p.length uc) := hc
    go_simp
    refine hK.out _ _ (hS1) (fun hS2 => ?_); clear hK K
    refine wpAnyH_ready (rs := [14]) (by kernel_rfl) (by simp) ?_
    refine AllReadyH.cons rfl (fun K hK => ?_) AllReadyH.nil
    refine step_append_deed rfl _ _ rfl B (v := .slice up p.length uc) (hu2.alloc (.cells D.cells 109)) rfl W.drew.heap.size rfl D (Blk.new W.drew 109 D.cells) (by omega) (by simp; have := hbd.size; omega) ?_
    intro v' w3 ho4 hb4 hnw hf4
    obtain ⟨vp, vc, rfl⟩ := own_shape9 ho4
    have hf5 : Foot (fun k => (Value.slice up p.length uc).ownBlock = some k) w w3 := (hfd.alloc (.cells D.cells 109)).trans hf4
    obtain ⟨hc5, hr5⟩ := HCE.out _ hf5
    have hkb : Blk w3 b 71 #[ov, .slice (some ⟨g, 0, none⟩) (qs.length + 1) cap, .slice sp dr.starts.length sc] := hk.foot hf5 (fun e => own_ne_blk hu hk (by decide) e)
    have hkd : Blk w3 w1.heap.size 109 D.cells := Blk.foot (hD3.alloc (.cells D.cells 109)) hf4 (fun e => by have := (hu.lt _ e).2; omega)
    refine hK.out _ _ (⟨hkb, hkd⟩) (fun hS3 => ?_); clear hK K
    refine wpAnyH_take (i := 15) (v := ?_) rfl (by kernel_rfl) (by kernel_rfl) (by kernel_rfl) (fun _ _ _ h => h) (Or.inl ⟨by rfl, ?_⟩) hS3 ?_
    rotate_left
    · intro w1 _; go_simp; with_reducible rfl
    try simp only [List.getElem_toArray, List.getElem_cons_zero, List.getElem_cons_succ, Act.put, List.setIfInBounds_toArray, List.set_cons_zero, List.set_cons_succ]
    refine wpAnyH_ready (rs := [16]) (by kernel_rfl) (by simp) ?_
    refine AllReadyH.cons rfl (fun K hK => ?_) AllReadyH.nil
    go_simp
    refine hK.out _ _ (⟨hkb.far (fun e => hgb e.symm) _, hkd.far (fun e => by have : w1.heap.size = g := e; omega) _⟩) (fun hS4 => ?_); clear hK K
    refine wpAnyH_done (by kernel_rfl) ?_ _
    go_wp2
    go_ret
    have hfg := foot_g w3 g qs.length (.slice vp (p.length + 1) vc) (.slice (some ⟨g, 0, none⟩) (qs.length + 1) cap) rfl
    have ho6 := hf5.own ho2 (own_apart ho2 hu (by decide))
    refine ⟨rfl, ?_, hBb, ov, _, _, hkb.far (fun e => hgb e.symm) _, h0, ?_, ?_, ?_⟩
    · exact ((hbd.mono hB).trans (((Below.refl B W.drew).alloc (Nat.le_trans hB hbd.size) _).trans hb4)).trans (hfg.below (by have := hf5.size; omega) (fun k hk => (by simpa [Value.ownBlock] using hk : g = k) ▸ hBg))
    · have q1 := hf5.own h1 (own_apart h1 hu (by decide))
      exact hfg.own q1 (own_apart q1 ho6 (by decide))
    · exact HMK.out _ (p ++ [D]) w3 (by rw [List.length_append]; exact ho4) hf5 (hnw.imp id (fun hh k hk => by have := hh k hk; have := hbd.size; simp at *; omega))
    · exact (h3.apart hu (by decide) (by decide) hf5).apart ho6 (by decide) (by decide) hfg
end Go.Proofs.YtbdimfcdpkldpaaGreatDoor
