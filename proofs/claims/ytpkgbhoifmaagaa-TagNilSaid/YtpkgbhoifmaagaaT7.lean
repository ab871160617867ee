/- The contract of the reference's Next. -/
import Derived.Test.YtpkgbhoifmaagaaT6
import Derived.Laws.ResultCell
import Derived.Deep.RegionWith
namespace Go.Proofs.Ytpkgbhoifmaagaa
open Go.RowKit

section
variable {P : Program}
theorem results_row_tmp {fn : Func} {p u : Tmp} {ty : TypeId} (h : fn.results = #[.cell p ty, .tmp u]) (tmps : Array Value) (w : World) (g : Nat) (t : TypeId) (cs : Array Value) (fr : Nat × Nat) (d : TypeDesc)
    (hp : tmps.getD p undef = .pointer (some ⟨g, 0, none⟩)) (hg : w.heap[g]? = some (.cells cs t fr))
    (hu : P.underlying ty = some d) (hd : (match d with | .struct _ | .array _ _ => true | _ => false) = true) (hi : (P.info? ty).map (·.size) = some cs.size) :
    (results fn tmps).run P w = .ok (.tuple #[.agg cs, tmps.getD u undef]) w := by
  rw [results_cell_tmp h]
  simp only [hp, asAddr, Sem.run_pure, Result.andThen_ok, run_loadVar_row w g t ty cs fr d hg hu hd hi]
end

section
variable {P : Program}
theorem step_load_row {ops : Array Oper} {o : Oper} {a : Act} {w : World} {K : Act → World → Prop} {Q : Exit → Act → World → Prop} {E : Prop} (hgd : o.guard = none) (ty : TypeId) (x : Operand) (ho : o.op = .load ty x)
    (g : Nat) (hx : a.eval x = .pointer (some ⟨g, 0, none⟩)) (t : TypeId) (cs : Array Value) (fr : Nat × Nat) (d : TypeDesc) (hg : w.heap[g]? = some (.cells cs t fr))
    (hu : P.underlying ty = some d) (hd : (match d with | .struct _ | .array _ _ => true | _ => false) = true) (hi : (P.info? ty).map (·.size) = some cs.size)
    (h : K (a.put o.dst (.agg cs)) w) : if Region.wanted o (yielded ops a.tmps) = true then Oper.wp P o a w K Q else E := by
  rw [if_pos (by simp [Region.wanted, hgd])]
  exact wp_load_row ty x ho g hx t cs fr d hg hu hd hi h
theorem step_store_row {ops : Array Oper} {o : Oper} {a : Act} {w : World} {K : Act → World → Prop} {Q : Exit → Act → World → Prop} {E : Prop} (hgd : o.guard = none) (ty : TypeId) (x y : Operand) (ho : o.op = .store ty x y)
    (g : Nat) (cells : Array Value) (hx : a.eval x = .pointer (some ⟨g, 0, none⟩)) (hy : a.eval y = .agg cells)
    (t : TypeId) (old : Array Value) (hg : w.heap[g]? = some (.cells old t (0, 0))) (hi : (P.info? ty).map (·.size) = some cells.size)
    (hold : old.size = cells.size) (h1 : cells.all (·.oneCell') = true)
    (h : K (a.put o.dst undef) (w.setRow g cells)) : if Region.wanted o (yielded ops a.tmps) = true then Oper.wp P o a w K Q else E := by
  rw [if_pos (by simp [Region.wanted, hgd])]
  exact wp_store_row ty x y ho g cells hx hy t old hg hi hold h1 h
end

/-- What the reference's Next answers: the last stamp, the stamps, the word. -/
def nextN (n : Nat) (st : Nat → Nat) (i : Int) : Nat × (Nat → Nat) × Nat := if mayN n i then (n + 1, putF st i.toNat (n + 1), wd (n + 1) i.toNat) else (n, st, 0)

theorem two_new (w : World) (o : Obj) (t : TypeId) (cs : Array Value) : Blk ((w.alloc o).alloc (.cells cs t)) (w.heap.size + 1) t cs := by
  have := Blk.new (w.alloc o) t cs
  rwa [show (w.alloc o).heap.size = w.heap.size + 1 by simp] at this

set_option maxHeartbeats 1600000 in
theorem RNext_no (n : Nat) (st : Nat → Nat) (hn : n ≤ lastN) (i : Int) (hm : mayN n i = false) (w : World) :
    Calls Try.prog 14 #[.agg (bookArr n st), .int .i64 i] w fun e w' => e = .returned (.tuple #[.agg (bookArr n st), .int .u64 0]) ∧ Below w.heap.size w w' := by
  obtain ⟨zs, hz, hne, HZ, hzz⟩ := zeroR'
  have hsz : zs.size = 65 := by rw [hzz, bookArr_size]
  clear hzz HZ
  have HS := Lib.hid hsz
  have hb := Lib.hid (below_alloc2 w)
  have HK := Lib.hid (fun o => (Blk.new w 38 (bookArr n st)).alloc o)
  have HK2 := Lib.hid (fun o => two_new w o 38 zs)
  have hR := Lib.hid (fun o => below_setRow (hb.out o (.cells zs 38)) (g := w.heap.size + 1) (by simp) (bookArr n st))
  have hc : ∀ o, ((w.alloc (.cells (bookArr n st) 38)).alloc o).cell? ⟨w.heap.size, 0, none⟩ = some (.int .u64 (n : Int)) := fun o => by rw [(HK.out o).cell, bookArr_get0]
  clear hsz
  by_cases h0 : i < 0
  · clear hm
    go_enter Try.func14, Try.ntmps14
    go_wp2_with (first | (refine wpList_alloc_agg rfl 38 rfl _ hz ?_) | (refine wpList_load_row rfl 38 _ rfl w.heap.size rfl 38 _ (0, 0) _ (HK.out _) Try.underlying38 rfl (sizeRb _ _) ?_) | (refine wpList_store_row rfl 38 _ _ rfl (w.heap.size + 1) _ rfl rfl 38 _ (HK2.out _) (sizeRb _ _) (by rw [bookArr_size, HS.out]) (bookArr_one _ _) ?_))
    refine bodyPost_ret (results_row_tmp rfl _ _ (w.heap.size + 1) 38 (bookArr n st) (0, 0) _ rfl (setRow_heap _ (w.heap.size + 1) _ _ 38 (0, 0) (HK2.out _)) Try.underlying38 rfl (sizeRb _ _)) rfl ?_
    exact ⟨rfl, hR.out _⟩
  by_cases h6 : 63 < i
  · clear hm
    go_enter Try.func14, Try.ntmps14
    go_wp2_with (first | (refine wpList_alloc_agg rfl 38 rfl _ hz ?_) | (refine wpList_load_row rfl 38 _ rfl w.heap.size rfl 38 _ (0, 0) _ (HK.out _) Try.underlying38 rfl (sizeRb _ _) ?_) | (refine wpList_store_row rfl 38 _ _ rfl (w.heap.size + 1) _ rfl rfl 38 _ (HK2.out _) (sizeRb _ _) (by rw [bookArr_size, HS.out]) (bookArr_one _ _) ?_))
    refine bodyPost_ret (results_row_tmp rfl _ _ (w.heap.size + 1) 38 (bookArr n st) (0, 0) _ rfl (setRow_heap _ (w.heap.size + 1) _ _ 38 (0, 0) (HK2.out _)) Try.underlying38 rfl (sizeRb _ _)) rfl ?_
    exact ⟨rfl, hR.out _⟩
  · have ht : ((n : Int) == 72057594037927935) = true := by
      unfold mayN inB lastN at *
      simp at hm ⊢
      omega
    clear hm
    go_enter Try.func14, Try.ntmps14
    go_wp2_with (first | (refine wpList_alloc_agg rfl 38 rfl _ hz ?_) | (refine wpList_load_row rfl 38 _ rfl w.heap.size rfl 38 _ (0, 0) _ (HK.out _) Try.underlying38 rfl (sizeRb _ _) ?_) | (refine wpList_store_row rfl 38 _ _ rfl (w.heap.size + 1) _ rfl rfl 38 _ (HK2.out _) (sizeRb _ _) (by rw [bookArr_size, HS.out]) (bookArr_one _ _) ?_))
    refine bodyPost_ret (results_row_tmp rfl _ _ (w.heap.size + 1) 38 (bookArr n st) (0, 0) _ rfl (setRow_heap _ (w.heap.size + 1) _ _ 38 (0, 0) (HK2.out _)) Try.underlying38 rfl (sizeRb _ _)) rfl ?_
    exact ⟨rfl, hR.out _⟩

set_option maxHeartbeats 3200000 in
theorem RNext_yes (n n1 m : Nat) (hn1 : n1 = n + 1) (st : Nat → Nat) (hn : n < lastN) (hm : m < 64) (w : World) :
    Calls Try.prog 14 #[.agg (bookArr n st), .int .i64 (m : Int)] w fun e w' => e = .returned (.tuple #[.agg (bookArr n1 (putF st m n1)), .int .u64 ((wd n1 m : Nat) : Int)]) ∧ Below w.heap.size w w' := by
  obtain ⟨zs, hz, hne, HZ, hzz⟩ := zeroR'
  have hsz : zs.size = 65 := by rw [hzz, bookArr_size]
  clear hzz HZ
  have HS := Lib.hid hsz
  have hb := Lib.hid (below_alloc2 w)
  have hw : IntKind.u64.wrap ((n : Int) + 1) = (n1 : Int) := by rw [wrap_next n (Nat.le_of_lt hn), hn1]
  have hr := Lib.hid (RWord_any n1 m (by omega) hm (by omega))
  have HK := Lib.hid (fun f o => (Blk.new w 38 f).alloc o)
  have hc : ∀ k f o, ((w.alloc (.cells (bookArr k f) 38)).alloc o).cell? ⟨w.heap.size, 0, none⟩ = some (.int .u64 (k : Int)) := fun k f o => by rw [(HK.out _ o).cell, bookArr_get0]
  have hf : ∀ f o i, ((w.alloc (.cells f 38)).alloc o).frozen? ⟨w.heap.size, i, none⟩ = false := fun f o i => (HK.out f o).frozen i
  have hc2 : ∀ k f o, ((w.alloc (.cells (bookArr k f) 38)).alloc o).cell? ⟨w.heap.size, 1 + m, none⟩ = some (.int .u64 (f m : Int)) := fun k f o => by rw [(HK.out _ o).cell, Nat.add_comm, bookArr_get _ _ m hm]
  have hs0 : (bookArr n st).setIfInBounds 0 (.int .u64 (n1 : Int)) = bookArr n1 st := bookArr_set0 _ _ _
  have hs1 : (bookArr n1 st).setIfInBounds (1 + m) (.int .u64 (n1 : Int)) = bookArr n1 (putF st m n1) := by rw [Nat.add_comm]; exact bookArr_set _ _ _ _
  have ht : ((n : Int) == 72057594037927935) = false := by rw [beq_eq_false_iff_ne]; unfold lastN at hn; omega
  have hm0 : (0 : Int) ≤ (m : Int) := by omega
  have hm63 : (m : Int) ≤ 63 := by omega
  clear hsz hn hn1
  go_enter Try.func14, Try.ntmps14
  go_wp2_with (first | (refine wpList_alloc_agg rfl 38 rfl _ hz ?_))
  have hB1 : Blk ((w.alloc (.cells (bookArr n1 (putF st m n1)) 38)).alloc (.cells zs 38)).drew w.heap.size 38 (bookArr n1 (putF st m n1)) := HK.out _ _
  have hB2 : Blk ((w.alloc (.cells (bookArr n1 (putF st m n1)) 38)).alloc (.cells zs 38)).drew (w.heap.size + 1) 38 zs := two_new _ _ _ _
  have hBel := (hb.out (.cells (bookArr n1 (putF st m n1)) 38) (.cells zs 38)).drew
  obtain ⟨W, hW⟩ : ∃ W, W = (w.alloc (.cells (bookArr n1 (putF st m n1)) 38)).alloc (.cells zs 38) := ⟨_, rfl⟩
  rw [← hW] at hB1 hB2 hBel ⊢
  have hcc : W.drew.cell? ⟨w.heap.size, 0, none⟩ = some (.int .u64 (n1 : Int)) := by rw [hB1.cell, bookArr_get0]
  have HBel := Lib.hid (below_setRow hBel (g := w.heap.size + 1) (by simp) (bookArr n1 (putF st m n1)))
  have HR := Lib.hid (setRow_heap W.drew (w.heap.size + 1) zs (bookArr n1 (putF st m n1)) 38 (0, 0) hB2)
  have HB1 := Lib.hid hB1
  have HB2 := Lib.hid hB2
  clear hW hBel hc hc2 hf hB1 hB2
  refine wp_region_any (by kernel_rfl) ?_
  change wpAny _ _ _ _ _ _ _ (World.drew _)
  refine wpAny_take (i := 1) (v := ?_) rfl (by kernel_rfl) (by kernel_rfl) (by kernel_rfl) (fun _ _ _ h => h) (Or.inl ⟨by rfl, ?_⟩) ?_
  rotate_left
  · intro w; go_simp; with_reducible rfl
  refine wpAny_take (i := 3) (v := ?_) rfl (by kernel_rfl) (by kernel_rfl) (by kernel_rfl) (fun _ _ _ h => h) (Or.inl ⟨by rfl, ?_⟩) ?_
  rotate_left
  · intro w; go_simp; with_reducible rfl
  refine wpAny_ready (rs := [0, 2]) (by kernel_rfl) (by simp) ?_
  refine AllReady.cons rfl (fun K hK => ?_) (AllReady.cons rfl (fun K hK => ?_) AllReady.nil)
  · refine step_load_row rfl 38 _ rfl w.heap.size rfl 38 _ (0, 0) _ HB1.out Try.underlying38 rfl (sizeRb _ _) ?_
    refine hK _ _ ?_; clear hK K
    refine wpAny_ready (rs := [2]) (by kernel_rfl) (by simp) ?_
    refine AllReady.cons rfl (fun K hK => ?_) AllReady.nil
    go_simp
    refine hK _ _ ?_; clear hK K
    refine wpAny_ready (rs := [4]) (by kernel_rfl) (by simp) ?_
    refine AllReady.cons rfl (fun K hK => ?_) AllReady.nil
    go_simp
    go_wp2_with (go_at_call 9; refine (hr.out _).mono ?_; rintro e w1 ⟨rfl, rfl⟩)
    refine wpAny_ready (rs := [5]) (by kernel_rfl) (by simp) ?_
    refine AllReady.cons rfl (fun K hK => ?_) AllReady.nil
    refine step_store_row rfl 38 _ _ rfl (w.heap.size + 1) _ rfl rfl 38 _ HB2.out (sizeRb _ _) (by rw [bookArr_size, HS.out]) (bookArr_one _ _) ?_
    refine hK _ _ ?_; clear hK K
    refine wpAny_ready (rs := [6]) (by kernel_rfl) (by simp) ?_
    refine AllReady.cons rfl (fun K hK => ?_) AllReady.nil
    go_simp
    refine hK _ _ ?_; clear hK K
    refine wpAny_done (by kernel_rfl) ?_ _
    go_wp2
    refine bodyPost_ret (results_row_tmp rfl _ _ (w.heap.size + 1) 38 (bookArr n1 (putF st m n1)) (0, 0) _ rfl HR.out Try.underlying38 rfl (sizeRb _ _)) rfl ?_
    exact ⟨rfl, HBel.out⟩
  · go_simp
    refine hK _ _ ?_; clear hK K
    refine wpAny_ready (rs := [0, 4]) (by kernel_rfl) (by simp) ?_
    refine AllReady.cons rfl (fun K hK => ?_) (AllReady.cons rfl (fun K hK => ?_) AllReady.nil)
    · refine step_load_row rfl 38 _ rfl w.heap.size rfl 38 _ (0, 0) _ HB1.out Try.underlying38 rfl (sizeRb _ _) ?_
      refine hK _ _ ?_; clear hK K
      refine wpAny_ready (rs := [4]) (by kernel_rfl) (by simp) ?_
      refine AllReady.cons rfl (fun K hK => ?_) AllReady.nil
      go_simp
      go_wp2_with (go_at_call 9; refine (hr.out _).mono ?_; rintro e w1 ⟨rfl, rfl⟩)
      refine wpAny_ready (rs := [5]) (by kernel_rfl) (by simp) ?_
      refine AllReady.cons rfl (fun K hK => ?_) AllReady.nil
      refine step_store_row rfl 38 _ _ rfl (w.heap.size + 1) _ rfl rfl 38 _ HB2.out (sizeRb _ _) (by rw [bookArr_size, HS.out]) (bookArr_one _ _) ?_
      refine hK _ _ ?_; clear hK K
      refine wpAny_ready (rs := [6]) (by kernel_rfl) (by simp) ?_
      refine AllReady.cons rfl (fun K hK => ?_) AllReady.nil
      go_simp
      refine hK _ _ ?_; clear hK K
      refine wpAny_done (by kernel_rfl) ?_ _
      go_wp2
      refine bodyPost_ret (results_row_tmp rfl _ _ (w.heap.size + 1) 38 (bookArr n1 (putF st m n1)) (0, 0) _ rfl HR.out Try.underlying38 rfl (sizeRb _ _)) rfl ?_
      exact ⟨rfl, HBel.out⟩
    · go_simp
      go_wp2_with (go_at_call 9; refine (hr.out _).mono ?_; rintro e w1 ⟨rfl, rfl⟩)
      refine wpAny_ready (rs := [0]) (by kernel_rfl) (by simp) ?_
      refine AllReady.cons rfl (fun K hK => ?_) AllReady.nil
      refine step_load_row rfl 38 _ rfl w.heap.size rfl 38 _ (0, 0) _ HB1.out Try.underlying38 rfl (sizeRb _ _) ?_
      refine hK _ _ ?_; clear hK K
      refine wpAny_ready (rs := [5]) (by kernel_rfl) (by simp) ?_
      refine AllReady.cons rfl (fun K hK => ?_) AllReady.nil
      refine step_store_row rfl 38 _ _ rfl (w.heap.size + 1) _ rfl rfl 38 _ HB2.out (sizeRb _ _) (by rw [bookArr_size, HS.out]) (bookArr_one _ _) ?_
      refine hK _ _ ?_; clear hK K
      refine wpAny_ready (rs := [6]) (by kernel_rfl) (by simp) ?_
      refine AllReady.cons rfl (fun K hK => ?_) AllReady.nil
      go_simp
      refine hK _ _ ?_; clear hK K
      refine wpAny_done (by kernel_rfl) ?_ _
      go_wp2
      refine bodyPost_ret (results_row_tmp rfl _ _ (w.heap.size + 1) 38 (bookArr n1 (putF st m n1)) (0, 0) _ rfl HR.out Try.underlying38 rfl (sizeRb _ _)) rfl ?_
      exact ⟨rfl, HBel.out⟩
end Go.Proofs.Ytpkgbhoifmaagaa
