/- The contract of the reference's Same of duties. -/
import Derived.Test.YtbdimfcdpkldpaaGreatDoorZ5
import Derived.Test.YtbdimfcdpkldpaaGreatDoorTS
import Derived.ChangeKeysEq
namespace Go.Proofs.YtbdimfcdpkldpaaGreatDoor
open Go.RowKit

theorem keyLits_u64 (a : Nat) (h : a < 18446744073709551616) : Tryz.prog.keyLits 10 22 [uV a] = some [.int .u64 a] := by
  unfold Program.keyLits uV
  rw [Tryz.underlying22]
  simp only
  rw [if_pos]
  refine ⟨trivial, ?_⟩
  simp [Lit.wf, show IntKind.u64.min = 0 from rfl, show IntKind.u64.max = 18446744073709551615 from rfl]
  omega
theorem neq7_run (a b c d e f g a' b' c' d' e' f' g' : Nat) (h : ∀ x ∈ [a, b, c, d, e, f, g], x < 18446744073709551616) (h' : ∀ x ∈ [a', b', c', d', e', f', g'], x < 18446744073709551616) (w : World) :
    (binOp .neq 61 (.agg #[uV a, uV b, uV c, uV d, uV e, uV f, uV g]) (.agg #[uV a', uV b', uV c', uV d', uV e', uV f', uV g'])).run Tryz.prog w = .ok (.bool (!decide ([a, b, c, d, e, f, g] = [a', b', c', d', e', f', g']))) w := by
  obtain ⟨i, hi, _, hs, _⟩ := info_parts (show (Tryz.prog.info? 22).map (fun i => (i.zero, i.size, i.bytes)) = some (some (.int .u64 0), 1, 8) by kernel_rfl)
  have hc : Tryz.prog.cellsOf 22 = 1 := by kernel_rfl
  have key : ∀ a b c d e f g : Nat, (∀ x ∈ [a, b, c, d, e, f, g], x < 18446744073709551616) → (List.range 7).mapM (fun i => Tryz.prog.keyLits 10 22 (((#[uV a, uV b, uV c, uV d, uV e, uV f, uV g] : Array Value).toList.drop (i * Tryz.prog.cellsOf 22)).take (Tryz.prog.cellsOf 22))) = some [[.int .u64 a], [.int .u64 b], [.int .u64 c], [.int .u64 d], [.int .u64 e], [.int .u64 f], [.int .u64 g]] := by
    intro a b c d e f g h
    rw [hc, show List.range 7 = [0, 1, 2, 3, 4, 5, 6] from rfl]
    simp [List.mapM_cons, keyLits_u64 a (h a (by simp)), keyLits_u64 b (h b (by simp)), keyLits_u64 c (h c (by simp)), keyLits_u64 d (h d (by simp)), keyLits_u64 e (h e (by simp)), keyLits_u64 f (h f (by simp)), keyLits_u64 g (h g (by simp))]
  obtain ⟨r, hr, hiff⟩ := run_eqItems_plain (P := Tryz.prog) w 9998 (e := 22) (by kernel_rfl) #[uV a, uV b, uV c, uV d, uV e, uV f, uV g] #[uV a', uV b', uV c', uV d', uV e', uV f', uV g'] (D := 10) (D' := 10) (List.range 7) _ _ (key _ _ _ _ _ _ _ h) (key _ _ _ _ _ _ _ h')
  have h2 := run_equalIn_array (P := Tryz.prog) w 9999 (t := 61) (e := 22) (n := 7) #[uV a, uV b, uV c, uV d, uV e, uV f, uV g] #[uV a', uV b', uV c', uV d', uV e', uV f', uV g'] Tryz.underlying61 hi
  rw [hr] at h2
  have h3 : (Op.equalIn 10000 61 (.agg #[uV a, uV b, uV c, uV d, uV e, uV f, uV g]) (.agg #[uV a', uV b', uV c', uV d', uV e', uV f', uV g'])).run Tryz.prog w = .ok r w := h2
  have h4 : r = decide ([a, b, c, d, e, f, g] = [a', b', c', d', e', f', g']) := by
    rw [Bool.eq_iff_iff, hiff, decide_eq_true_eq]
    simp
    omega
  rw [run_neq_struct, h3, h4]
  rfl
theorem exec_neq7 {o : Oper} {ρ : Operand → Value} (x y : Operand) (t' : TypeId) (ho : o.op = .binOp .neq 61 x y t') (a b : Dut) (ha : a.ok) (hb : b.ok) (hx : ρ x = .agg (numsA a)) (hy : ρ y = .agg (numsA b)) (r : Bool) (hr : decide (numsY a = numsY b) = r) (w : World) :
    (execOp ρ o).run Tryz.prog w = .ok (.value (.bool (!r))) w := by
  unfold execOp
  have h := neq7_run _ _ _ _ _ _ _ _ _ _ _ _ _ _ (numsY_lt ha) (numsY_lt hb) w
  have e : ∀ d : Dut, numsA d = #[uV (wrapN d.cpus), uV (wrapN d.threads), uV (wrapN d.locks), uV (wrapN d.cap), uV d.boost, uV d.keep, uV d.ratio] := fun _ => rfl
  have e2 : ∀ d : Dut, numsY d = [wrapN d.cpus, wrapN d.threads, wrapN d.locks, wrapN d.cap, d.boost, d.keep, d.ratio] := fun _ => rfl
  rw [← e2, ← e2, hr] at h
  rw [e] at hx hy
  simp only [ho, hx, hy, Sem.run_bind, run_eqGuard_agg (P := Tryz.prog) w .neq 61 x y _ _ (by kernel_rfl), Result.andThen_ok, h, Sem.run_pure]
theorem neqS_run (s t : St) (w : World) : (binOp .neq 58 (.agg #[.int .i64 s.prog, .int .i64 s.grade, .int .u64 (s.mask : Int)]) (.agg #[.int .i64 t.prog, .int .i64 t.grade, .int .u64 (t.mask : Int)])).run Tryz.prog w = .ok (.bool (!decide (s = t))) w := by
  have e : decide (s = t) = (s.prog == t.prog && s.grade == t.grade && (s.mask : Int) == (t.mask : Int)) := by
    rw [Bool.eq_iff_iff]
    cases s; cases t
    simp
    omega
  rw [e]
  go_simp
  (repeat' split) <;> simp_all
theorem exec_neqS {o : Oper} {ρ : Operand → Value} (x y : Operand) (t' : TypeId) (ho : o.op = .binOp .neq 58 x y t') (s t : St) (hx : ρ x = .agg #[.int .i64 s.prog, .int .i64 s.grade, .int .u64 (s.mask : Int)]) (hy : ρ y = .agg #[.int .i64 t.prog, .int .i64 t.grade, .int .u64 (t.mask : Int)]) (r : Bool) (hr : decide (s = t) = r) (w : World) :
    (execOp ρ o).run Tryz.prog w = .ok (.value (.bool (!r))) w := by
  unfold execOp
  simp only [ho, hx, hy, Sem.run_bind, run_eqGuard_agg (P := Tryz.prog) w .neq 58 x y _ _ (by kernel_rfl), Result.andThen_ok, neqS_run, Sem.run_pure, hr]
theorem RV.G_lt {w : World} {G : Nat → Prop} {v : Value} {n sz : Nat} {xs : List Value} (h : RV w G v n sz xs) : RV w (fun k => k < w.heap.size) v n sz xs := RV.mono h fun _ hk _ => hk


set_option maxRecDepth 100000 in
set_option maxHeartbeats 4000000 in
theorem RSameY_0 (a b : Dut) (ha : a.ok) (hb : b.ok) (pp ps qp qs : Option Addr) (cp cs dp ds : Nat) (w : World) (hn : decide (numsY a = numsY b) = false) :
    Calls Tryz.prog 13 #[.agg (a.cells (.slice pp a.progs.length cp) (.slice ps a.starts.length cs)), .agg (b.cells (.slice qp b.progs.length dp) (.slice qs b.starts.length ds))] w fun e w' => e = .returned (.bool false) ∧ Below w.heap.size w w' := by
  have hA : Blk ((w.alloc (.cells (a.cells (.slice pp a.progs.length cp) (.slice ps a.starts.length cs)) 27)).alloc (.cells (b.cells (.slice qp b.progs.length dp) (.slice qs b.starts.length ds)) 27)) w.heap.size 27 (a.cells (.slice pp a.progs.length cp) (.slice ps a.starts.length cs)) := (Blk.new w _ _).alloc _
  have hB : Blk ((w.alloc (.cells (a.cells (.slice pp a.progs.length cp) (.slice ps a.starts.length cs)) 27)).alloc (.cells (b.cells (.slice qp b.progs.length dp) (.slice qs b.starts.length ds)) 27)) (w.heap.size + 1) 27 (b.cells (.slice qp b.progs.length dp) (.slice qs b.starts.length ds)) := two_new w _ _ _
  have hbw := below_alloc2 w (.cells (a.cells (.slice pp a.progs.length cp) (.slice ps a.starts.length cs)) 27) (.cells (b.cells (.slice qp b.progs.length dp) (.slice qs b.starts.length ds)) 27)
  go_enter Tryz.func13, Tryz.ntmps13
  go_wp2_with (first
    | (refine wpList_box_agg rfl 27 _ rfl (a.cells (.slice pp a.progs.length cp) (.slice ps a.starts.length cs)) rfl ?_)
    | (refine wpList_box_agg rfl 27 _ rfl (b.cells (.slice qp b.progs.length dp) (.slice qs b.starts.length ds)) rfl ?_))
  try simp only [World.size_alloc]
  obtain ⟨W, hW⟩ : ∃ W, W = (w.alloc (.cells (a.cells (.slice pp a.progs.length cp) (.slice ps a.starts.length cs)) 27)).alloc (.cells (b.cells (.slice qp b.progs.length dp) (.slice qs b.starts.length ds)) 27) := ⟨_, rfl⟩
  rw [← hW] at hA hB hbw ⊢
  have hA0 : Blk W.drew w.heap.size 27 (a.cells (.slice pp a.progs.length cp) (.slice ps a.starts.length cs)) := hA
  have hB0 : Blk W.drew (w.heap.size + 1) 27 (b.cells (.slice qp b.progs.length dp) (.slice qs b.starts.length ds)) := hB
  have hb0 : Below w.heap.size w W.drew := hbw.drew
  clear hW
  refine wp_region_held_drew (S := fun w' => Below W.drew.heap.size W.drew w') (by kernel_rfl) (Below.refl _ _) (fun hS0 => ?_)
  refine wpAnyH_take (i := 0) (v := .agg (a.cells (.slice pp a.progs.length cp) (.slice ps a.starts.length cs))) rfl (by kernel_rfl) (by kernel_rfl) (by kernel_rfl) (fun _ _ _ h => h) (yields_row rfl 27 _ rfl w.heap.size rfl 27 _ (0, 0) _ (fun w1 hS1 => Blk.below hA0 hS1 hA0.lt) Tryz.underlying27 rfl (sizeY _ _ _)) hS0 ?_
  try simp only [List.getElem_toArray, List.getElem_cons_zero, Act.put, List.setIfInBounds_toArray, List.set_cons_zero, List.set_cons_succ]
  refine wpAnyH_take (i := 2) (v := .agg (b.cells (.slice qp b.progs.length dp) (.slice qs b.starts.length ds))) rfl (by kernel_rfl) (by kernel_rfl) (by kernel_rfl) (fun _ _ _ h => h) (yields_row rfl 27 _ rfl (w.heap.size + 1) rfl 27 _ (0, 0) _ (fun w1 hS1 => Blk.below hB0 hS1 hB0.lt) Tryz.underlying27 rfl (sizeY _ _ _)) hS0 ?_
  try simp only [List.getElem_toArray, List.getElem_cons_zero, List.getElem_cons_succ, Act.put, List.setIfInBounds_toArray, List.set_cons_zero, List.set_cons_succ]
  refine wpAnyH_ready (rs := [1]) (by kernel_rfl) (by simp) ?_
  refine AllReadyH.cons rfl (fun K hK => ?_) AllReadyH.nil
  go_simp
  refine (RNumbers_any a ha pp ps _ cp _ cs _).mono ?_
  rintro e v1 ⟨rfl, hv1⟩
  dsimp only
  refine hK.out _ _ (Below.trans hS0 (hv1.mono (hS0).size)) (fun hS1 => ?_); clear hK K
  refine wpAnyH_ready (rs := [3]) (by kernel_rfl) (by simp) ?_
  refine AllReadyH.cons rfl (fun K hK => ?_) AllReadyH.nil
  go_simp
  refine (RNumbers_any b hb qp qs _ dp _ ds _).mono ?_
  rintro e v2 ⟨rfl, hv2⟩
  dsimp only
  refine hK.out _ _ (Below.trans hS1 (hv2.mono (hS1).size)) (fun hS2 => ?_); clear hK K
  refine wpAnyH_take (i := 4) (v := .bool true) rfl (by kernel_rfl) (by kernel_rfl) (by kernel_rfl) (fun _ _ _ h => h) (Or.inl ⟨by rfl, fun w1 hS1 => exec_neq7 _ _ _ rfl a b ha hb rfl rfl false hn w1⟩) hS2 ?_
  try simp only [List.getElem_toArray, List.getElem_cons_zero, List.getElem_cons_succ, Act.put, List.setIfInBounds_toArray, List.set_cons_zero, List.set_cons_succ]
  refine wpAnyH_take (i := 5) (v := ?_) rfl (by kernel_rfl) (by kernel_rfl) (by kernel_rfl) (fun _ _ _ h => h) (Or.inl ⟨by rfl, ?_⟩) hS2 ?_
  rotate_left
  · intro w1 _; go_simp; with_reducible rfl
  try simp only [List.getElem_toArray, List.getElem_cons_zero, List.getElem_cons_succ, Act.put, List.setIfInBounds_toArray, List.set_cons_zero, List.set_cons_succ]
  refine wpAnyH_take (i := 6) (v := undef) rfl (by kernel_rfl) (by kernel_rfl) (by kernel_rfl) (fun _ _ _ h => h) (Or.inr ⟨by rfl, rfl⟩) hS2 ?_
  try simp only [List.getElem_toArray, List.getElem_cons_zero, List.getElem_cons_succ, Act.put, List.setIfInBounds_toArray, List.set_cons_zero, List.set_cons_succ]
  refine wpAnyH_take (i := 7) (v := undef) rfl (by kernel_rfl) (by kernel_rfl) (by kernel_rfl) (fun _ _ _ h => h) (Or.inr ⟨by rfl, rfl⟩) hS2 ?_
  try simp only [List.getElem_toArray, List.getElem_cons_zero, List.getElem_cons_succ, Act.put, List.setIfInBounds_toArray, List.set_cons_zero, List.set_cons_succ]
  refine wpAnyH_take (i := 8) (v := undef) rfl (by kernel_rfl) (by kernel_rfl) (by kernel_rfl) (fun _ _ _ h => h) (Or.inr ⟨by rfl, rfl⟩) hS2 ?_
  try simp only [List.getElem_toArray, List.getElem_cons_zero, List.getElem_cons_succ, Act.put, List.setIfInBounds_toArray, List.set_cons_zero, List.set_cons_succ]
  refine wpAnyH_take (i := 9) (v := undef) rfl (by kernel_rfl) (by kernel_rfl) (by kernel_rfl) (fun _ _ _ h => h) (Or.inr ⟨by rfl, rfl⟩) hS2 ?_
  try simp only [List.getElem_toArray, List.getElem_cons_zero, List.getElem_cons_succ, Act.put, List.setIfInBounds_toArray, List.set_cons_zero, List.set_cons_succ]
  refine wpAnyH_take (i := 10) (v := undef) rfl (by kernel_rfl) (by kernel_rfl) (by kernel_rfl) (fun _ _ _ h => h) (Or.inr ⟨by rfl, rfl⟩) hS2 ?_
  try simp only [List.getElem_toArray, List.getElem_cons_zero, List.getElem_cons_succ, Act.put, List.setIfInBounds_toArray, List.set_cons_zero, List.set_cons_succ]
  refine wpAnyH_take (i := 11) (v := undef) rfl (by kernel_rfl) (by kernel_rfl) (by kernel_rfl) (fun _ _ _ h => h) (Or.inr ⟨by rfl, rfl⟩) hS2 ?_
  try simp only [List.getElem_toArray, List.getElem_cons_zero, List.getElem_cons_succ, Act.put, List.setIfInBounds_toArray, List.set_cons_zero, List.set_cons_succ]
  refine wpAnyH_take (i := 12) (v := undef) rfl (by kernel_rfl) (by kernel_rfl) (by kernel_rfl) (fun _ _ _ h => h) (Or.inr ⟨by rfl, rfl⟩) hS2 ?_
  try simp only [List.getElem_toArray, List.getElem_cons_zero, List.getElem_cons_succ, Act.put, List.setIfInBounds_toArray, List.set_cons_zero, List.set_cons_succ]
  refine wpAnyH_take (i := 13) (v := ?_) rfl (by kernel_rfl) (by kernel_rfl) (by kernel_rfl) (fun _ _ _ h => h) (Or.inl ⟨by rfl, ?_⟩) hS2 ?_
  rotate_left
  · intro w1 _; go_simp; with_reducible rfl
  try simp only [List.getElem_toArray, List.getElem_cons_zero, List.getElem_cons_succ, Act.put, List.setIfInBounds_toArray, List.set_cons_zero, List.set_cons_succ]
  refine wpAnyH_take (i := 14) (v := ?_) rfl (by kernel_rfl) (by kernel_rfl) (by kernel_rfl) (fun _ _ _ h => h) (Or.inl ⟨by rfl, ?_⟩) hS2 ?_
  rotate_left
  · intro w1 _; go_simp; with_reducible rfl
  try simp only [List.getElem_toArray, List.getElem_cons_zero, List.getElem_cons_succ, Act.put, List.setIfInBounds_toArray, List.set_cons_zero, List.set_cons_succ]
  refine wpAnyH_take (i := 15) (v := undef) rfl (by kernel_rfl) (by kernel_rfl) (by kernel_rfl) (fun _ _ _ h => h) (Or.inr ⟨by rfl, rfl⟩) hS2 ?_
  try simp only [List.getElem_toArray, List.getElem_cons_zero, List.getElem_cons_succ, Act.put, List.setIfInBounds_toArray, List.set_cons_zero, List.set_cons_succ]
  refine wpAnyH_take (i := 16) (v := undef) rfl (by kernel_rfl) (by kernel_rfl) (by kernel_rfl) (fun _ _ _ h => h) (Or.inr ⟨by rfl, rfl⟩) hS2 ?_
  try simp only [List.getElem_toArray, List.getElem_cons_zero, List.getElem_cons_succ, Act.put, List.setIfInBounds_toArray, List.set_cons_zero, List.set_cons_succ]
  refine wpAnyH_take (i := 17) (v := undef) rfl (by kernel_rfl) (by kernel_rfl) (by kernel_rfl) (fun _ _ _ h => h) (Or.inr ⟨by rfl, rfl⟩) hS2 ?_
  try simp only [List.getElem_toArray, List.getElem_cons_zero, List.getElem_cons_succ, Act.put, List.setIfInBounds_toArray, List.set_cons_zero, List.set_cons_succ]
  refine wpAnyH_take (i := 18) (v := undef) rfl (by kernel_rfl) (by kernel_rfl) (by kernel_rfl) (fun _ _ _ h => h) (Or.inr ⟨by rfl, rfl⟩) hS2 ?_
  try simp only [List.getElem_toArray, List.getElem_cons_zero, List.getElem_cons_succ, Act.put, List.setIfInBounds_toArray, List.set_cons_zero, List.set_cons_succ]
  refine wpAnyH_take (i := 19) (v := undef) rfl (by kernel_rfl) (by kernel_rfl) (by kernel_rfl) (fun _ _ _ h => h) (Or.inr ⟨by rfl, rfl⟩) hS2 ?_
  try simp only [List.getElem_toArray, List.getElem_cons_zero, List.getElem_cons_succ, Act.put, List.setIfInBounds_toArray, List.set_cons_zero, List.set_cons_succ]
  refine wpAnyH_take (i := 20) (v := undef) rfl (by kernel_rfl) (by kernel_rfl) (by kernel_rfl) (fun _ _ _ h => h) (Or.inr ⟨by rfl, rfl⟩) hS2 ?_
  try simp only [List.getElem_toArray, List.getElem_cons_zero, List.getElem_cons_succ, Act.put, List.setIfInBounds_toArray, List.set_cons_zero, List.set_cons_succ]
  refine wpAnyH_take (i := 21) (v := undef) rfl (by kernel_rfl) (by kernel_rfl) (by kernel_rfl) (fun _ _ _ h => h) (Or.inr ⟨by rfl, rfl⟩) hS2 ?_
  try simp only [List.getElem_toArray, List.getElem_cons_zero, List.getElem_cons_succ, Act.put, List.setIfInBounds_toArray, List.set_cons_zero, List.set_cons_succ]
  refine wpAnyH_take (i := 22) (v := ?_) rfl (by kernel_rfl) (by kernel_rfl) (by kernel_rfl) (fun _ _ _ h => h) (Or.inl ⟨by rfl, ?_⟩) hS2 ?_
  rotate_left
  · intro w1 _; go_simp; with_reducible rfl
  try simp only [List.getElem_toArray, List.getElem_cons_zero, List.getElem_cons_succ, Act.put, List.setIfInBounds_toArray, List.set_cons_zero, List.set_cons_succ]
  refine wpAnyH_done (by kernel_rfl) ?_ _
  go_wp2
  go_ret
  exact ⟨rfl, hb0.trans (Below.mono (hS2 : Below W.drew.heap.size W.drew _) hb0.size)⟩

set_option maxRecDepth 100000 in
set_option maxHeartbeats 4000000 in
theorem RSameY_1 (a b : Dut) (ha : a.ok) (hb : b.ok) (pp ps qp qs : Option Addr) (cp cs dp ds : Nat) (w : World) (hn : decide (numsY a = numsY b) = true) (hp : ((a.progs.length : Int) != (b.progs.length : Int)) = true) :
    Calls Tryz.prog 13 #[.agg (a.cells (.slice pp a.progs.length cp) (.slice ps a.starts.length cs)), .agg (b.cells (.slice qp b.progs.length dp) (.slice qs b.starts.length ds))] w fun e w' => e = .returned (.bool false) ∧ Below w.heap.size w w' := by
  have hA : Blk ((w.alloc (.cells (a.cells (.slice pp a.progs.length cp) (.slice ps a.starts.length cs)) 27)).alloc (.cells (b.cells (.slice qp b.progs.length dp) (.slice qs b.starts.length ds)) 27)) w.heap.size 27 (a.cells (.slice pp a.progs.length cp) (.slice ps a.starts.length cs)) := (Blk.new w _ _).alloc _
  have hB : Blk ((w.alloc (.cells (a.cells (.slice pp a.progs.length cp) (.slice ps a.starts.length cs)) 27)).alloc (.cells (b.cells (.slice qp b.progs.length dp) (.slice qs b.starts.length ds)) 27)) (w.heap.size + 1) 27 (b.cells (.slice qp b.progs.length dp) (.slice qs b.starts.length ds)) := two_new w _ _ _
  have hbw := below_alloc2 w (.cells (a.cells (.slice pp a.progs.length cp) (.slice ps a.starts.length cs)) 27) (.cells (b.cells (.slice qp b.progs.length dp) (.slice qs b.starts.length ds)) 27)
  go_enter Tryz.func13, Tryz.ntmps13
  go_wp2_with (first
    | (refine wpList_box_agg rfl 27 _ rfl (a.cells (.slice pp a.progs.length cp) (.slice ps a.starts.length cs)) rfl ?_)
    | (refine wpList_box_agg rfl 27 _ rfl (b.cells (.slice qp b.progs.length dp) (.slice qs b.starts.length ds)) rfl ?_))
  try simp only [World.size_alloc]
  obtain ⟨W, hW⟩ : ∃ W, W = (w.alloc (.cells (a.cells (.slice pp a.progs.length cp) (.slice ps a.starts.length cs)) 27)).alloc (.cells (b.cells (.slice qp b.progs.length dp) (.slice qs b.starts.length ds)) 27) := ⟨_, rfl⟩
  rw [← hW] at hA hB hbw ⊢
  have hA0 : Blk W.drew w.heap.size 27 (a.cells (.slice pp a.progs.length cp) (.slice ps a.starts.length cs)) := hA
  have hB0 : Blk W.drew (w.heap.size + 1) 27 (b.cells (.slice qp b.progs.length dp) (.slice qs b.starts.length ds)) := hB
  have hb0 : Below w.heap.size w W.drew := hbw.drew
  clear hW
  refine wp_region_held_drew (S := fun w' => Below W.drew.heap.size W.drew w') (by kernel_rfl) (Below.refl _ _) (fun hS0 => ?_)
  refine wpAnyH_take (i := 0) (v := .agg (a.cells (.slice pp a.progs.length cp) (.slice ps a.starts.length cs))) rfl (by kernel_rfl) (by kernel_rfl) (by kernel_rfl) (fun _ _ _ h => h) (yields_row rfl 27 _ rfl w.heap.size rfl 27 _ (0, 0) _ (fun w1 hS1 => Blk.below hA0 hS1 hA0.lt) Tryz.underlying27 rfl (sizeY _ _ _)) hS0 ?_
  try simp only [List.getElem_toArray, List.getElem_cons_zero, Act.put, List.setIfInBounds_toArray, List.set_cons_zero, List.set_cons_succ]
  refine wpAnyH_take (i := 2) (v := .agg (b.cells (.slice qp b.progs.length dp) (.slice qs b.starts.length ds))) rfl (by kernel_rfl) (by kernel_rfl) (by kernel_rfl) (fun _ _ _ h => h) (yields_row rfl 27 _ rfl (w.heap.size + 1) rfl 27 _ (0, 0) _ (fun w1 hS1 => Blk.below hB0 hS1 hB0.lt) Tryz.underlying27 rfl (sizeY _ _ _)) hS0 ?_
  try simp only [List.getElem_toArray, List.getElem_cons_zero, List.getElem_cons_succ, Act.put, List.setIfInBounds_toArray, List.set_cons_zero, List.set_cons_succ]
  refine wpAnyH_ready (rs := [1]) (by kernel_rfl) (by simp) ?_
  refine AllReadyH.cons rfl (fun K hK => ?_) AllReadyH.nil
  go_simp
  refine (RNumbers_any a ha pp ps _ cp _ cs _).mono ?_
  rintro e v1 ⟨rfl, hv1⟩
  dsimp only
  refine hK.out _ _ (Below.trans hS0 (hv1.mono (hS0).size)) (fun hS1 => ?_); clear hK K
  refine wpAnyH_ready (rs := [3]) (by kernel_rfl) (by simp) ?_
  refine AllReadyH.cons rfl (fun K hK => ?_) AllReadyH.nil
  go_simp
  refine (RNumbers_any b hb qp qs _ dp _ ds _).mono ?_
  rintro e v2 ⟨rfl, hv2⟩
  dsimp only
  refine hK.out _ _ (Below.trans hS1 (hv2.mono (hS1).size)) (fun hS2 => ?_); clear hK K
  refine wpAnyH_take (i := 4) (v := .bool false) rfl (by kernel_rfl) (by kernel_rfl) (by kernel_rfl) (fun _ _ _ h => h) (Or.inl ⟨by rfl, fun w1 hS1 => exec_neq7 _ _ _ rfl a b ha hb rfl rfl true hn w1⟩) hS2 ?_
  try simp only [List.getElem_toArray, List.getElem_cons_zero, List.getElem_cons_succ, Act.put, List.setIfInBounds_toArray, List.set_cons_zero, List.set_cons_succ]
  refine wpAnyH_take (i := 5) (v := ?_) rfl (by kernel_rfl) (by kernel_rfl) (by kernel_rfl) (fun _ _ _ h => h) (Or.inl ⟨by rfl, ?_⟩) hS2 ?_
  rotate_left
  · intro w1 _; go_simp; with_reducible rfl
  try simp only [List.getElem_toArray, List.getElem_cons_zero, List.getElem_cons_succ, Act.put, List.setIfInBounds_toArray, List.set_cons_zero, List.set_cons_succ]
  refine wpAnyH_take (i := 6) (v := ?_) rfl (by kernel_rfl) (by kernel_rfl) (by kernel_rfl) (fun _ _ _ h => h) (Or.inl ⟨by rfl, ?_⟩) hS2 ?_
  rotate_left
  · intro w1 _; go_simp; with_reducible rfl
  try simp only [List.getElem_toArray, List.getElem_cons_zero, List.getElem_cons_succ, Act.put, List.setIfInBounds_toArray, List.set_cons_zero, List.set_cons_succ]
  refine wpAnyH_take (i := 7) (v := .slice pp a.progs.length cp) rfl (by kernel_rfl) (by kernel_rfl) (by kernel_rfl) (fun _ _ _ h => h) (Or.inl ⟨by rfl, fun w1 hS1 => by have h0 : w1.cell? ⟨w.heap.size, 7, none⟩ = some (.slice pp a.progs.length cp) := Blk.cell (Blk.below hA0 hS1 hA0.lt) 7; go_simp⟩) hS2 ?_
  try simp only [List.getElem_toArray, List.getElem_cons_zero, List.getElem_cons_succ, Act.put, List.setIfInBounds_toArray, List.set_cons_zero, List.set_cons_succ]
  refine wpAnyH_take (i := 8) (v := ?_) rfl (by kernel_rfl) (by kernel_rfl) (by kernel_rfl) (fun _ _ _ h => h) (Or.inl ⟨by rfl, ?_⟩) hS2 ?_
  rotate_left
  · intro w1 _; go_simp; with_reducible rfl
  try simp only [List.getElem_toArray, List.getElem_cons_zero, List.getElem_cons_succ, Act.put, List.setIfInBounds_toArray, List.set_cons_zero, List.set_cons_succ]
  refine wpAnyH_take (i := 9) (v := ?_) rfl (by kernel_rfl) (by kernel_rfl) (by kernel_rfl) (fun _ _ _ h => h) (Or.inl ⟨by rfl, ?_⟩) hS2 ?_
  rotate_left
  · intro w1 _; go_simp; with_reducible rfl
  try simp only [List.getElem_toArray, List.getElem_cons_zero, List.getElem_cons_succ, Act.put, List.setIfInBounds_toArray, List.set_cons_zero, List.set_cons_succ]
  refine wpAnyH_take (i := 10) (v := .slice qp b.progs.length dp) rfl (by kernel_rfl) (by kernel_rfl) (by kernel_rfl) (fun _ _ _ h => h) (Or.inl ⟨by rfl, fun w1 hS1 => by have h0 : w1.cell? ⟨w.heap.size + 1, 7, none⟩ = some (.slice qp b.progs.length dp) := Blk.cell (Blk.below hB0 hS1 hB0.lt) 7; go_simp⟩) hS2 ?_
  try simp only [List.getElem_toArray, List.getElem_cons_zero, List.getElem_cons_succ, Act.put, List.setIfInBounds_toArray, List.set_cons_zero, List.set_cons_succ]
  refine wpAnyH_take (i := 11) (v := ?_) rfl (by kernel_rfl) (by kernel_rfl) (by kernel_rfl) (fun _ _ _ h => h) (Or.inl ⟨by rfl, ?_⟩) hS2 ?_
  rotate_left
  · intro w1 _; go_simp; with_reducible rfl
  try simp only [List.getElem_toArray, List.getElem_cons_zero, List.getElem_cons_succ, Act.put, List.setIfInBounds_toArray, List.set_cons_zero, List.set_cons_succ]
  refine wpAnyH_take (i := 12) (v := .bool true) rfl (by kernel_rfl) (by kernel_rfl) (by kernel_rfl) (fun _ _ _ h => h) (Or.inl ⟨by rfl, fun w1 hS1 => by first | (go_simp; done) | (go_simp; rw [hp])⟩) hS2 ?_
  try simp only [List.getElem_toArray, List.getElem_cons_zero, List.getElem_cons_succ, Act.put, List.setIfInBounds_toArray, List.set_cons_zero, List.set_cons_succ]
  refine wpAnyH_take (i := 13) (v := ?_) rfl (by kernel_rfl) (by kernel_rfl) (by kernel_rfl) (fun _ _ _ h => h) (Or.inl ⟨by rfl, ?_⟩) hS2 ?_
  rotate_left
  · intro w1 _; go_simp; with_reducible rfl
  try simp only [List.getElem_toArray, List.getElem_cons_zero, List.getElem_cons_succ, Act.put, List.setIfInBounds_toArray, List.set_cons_zero, List.set_cons_succ]
  refine wpAnyH_take (i := 14) (v := ?_) rfl (by kernel_rfl) (by kernel_rfl) (by kernel_rfl) (fun _ _ _ h => h) (Or.inl ⟨by rfl, ?_⟩) hS2 ?_
  rotate_left
  · intro w1 _; go_simp; with_reducible rfl
  try simp only [List.getElem_toArray, List.getElem_cons_zero, List.getElem_cons_succ, Act.put, List.setIfInBounds_toArray, List.set_cons_zero, List.set_cons_succ]
  refine wpAnyH_take (i := 15) (v := undef) rfl (by kernel_rfl) (by kernel_rfl) (by kernel_rfl) (fun _ _ _ h => h) (Or.inr ⟨by rfl, rfl⟩) hS2 ?_
  try simp only [List.getElem_toArray, List.getElem_cons_zero, List.getElem_cons_succ, Act.put, List.setIfInBounds_toArray, List.set_cons_zero, List.set_cons_succ]
  refine wpAnyH_take (i := 16) (v := undef) rfl (by kernel_rfl) (by kernel_rfl) (by kernel_rfl) (fun _ _ _ h => h) (Or.inr ⟨by rfl, rfl⟩) hS2 ?_
  try simp only [List.getElem_toArray, List.getElem_cons_zero, List.getElem_cons_succ, Act.put, List.setIfInBounds_toArray, List.set_cons_zero, List.set_cons_succ]
  refine wpAnyH_take (i := 17) (v := undef) rfl (by kernel_rfl) (by kernel_rfl) (by kernel_rfl) (fun _ _ _ h => h) (Or.inr ⟨by rfl, rfl⟩) hS2 ?_
  try simp only [List.getElem_toArray, List.getElem_cons_zero, List.getElem_cons_succ, Act.put, List.setIfInBounds_toArray, List.set_cons_zero, List.set_cons_succ]
  refine wpAnyH_take (i := 18) (v := undef) rfl (by kernel_rfl) (by kernel_rfl) (by kernel_rfl) (fun _ _ _ h => h) (Or.inr ⟨by rfl, rfl⟩) hS2 ?_
  try simp only [List.getElem_toArray, List.getElem_cons_zero, List.getElem_cons_succ, Act.put, List.setIfInBounds_toArray, List.set_cons_zero, List.set_cons_succ]
  refine wpAnyH_take (i := 19) (v := undef) rfl (by kernel_rfl) (by kernel_rfl) (by kernel_rfl) (fun _ _ _ h => h) (Or.inr ⟨by rfl, rfl⟩) hS2 ?_
  try simp only [List.getElem_toArray, List.getElem_cons_zero, List.getElem_cons_succ, Act.put, List.setIfInBounds_toArray, List.set_cons_zero, List.set_cons_succ]
  refine wpAnyH_take (i := 20) (v := undef) rfl (by kernel_rfl) (by kernel_rfl) (by kernel_rfl) (fun _ _ _ h => h) (Or.inr ⟨by rfl, rfl⟩) hS2 ?_
  try simp only [List.getElem_toArray, List.getElem_cons_zero, List.getElem_cons_succ, Act.put, List.setIfInBounds_toArray, List.set_cons_zero, List.set_cons_succ]
  refine wpAnyH_take (i := 21) (v := undef) rfl (by kernel_rfl) (by kernel_rfl) (by kernel_rfl) (fun _ _ _ h => h) (Or.inr ⟨by rfl, rfl⟩) hS2 ?_
  try simp only [List.getElem_toArray, List.getElem_cons_zero, List.getElem_cons_succ, Act.put, List.setIfInBounds_toArray, List.set_cons_zero, List.set_cons_succ]
  refine wpAnyH_take (i := 22) (v := ?_) rfl (by kernel_rfl) (by kernel_rfl) (by kernel_rfl) (fun _ _ _ h => h) (Or.inl ⟨by rfl, ?_⟩) hS2 ?_
  rotate_left
  · intro w1 _; go_simp; with_reducible rfl
  try simp only [List.getElem_toArray, List.getElem_cons_zero, List.getElem_cons_succ, Act.put, List.setIfInBounds_toArray, List.set_cons_zero, List.set_cons_succ]
  refine wpAnyH_done (by kernel_rfl) ?_ _
  go_wp2
  go_ret
  exact ⟨rfl, hb0.trans (Below.mono (hS2 : Below W.drew.heap.size W.drew _) hb0.size)⟩

set_option maxRecDepth 100000 in
set_option maxHeartbeats 4000000 in
theorem RSameY_2 (a b : Dut) (ha : a.ok) (hb : b.ok) (pp ps qp qs : Option Addr) (cp cs dp ds : Nat) (w : World) (hn : decide (numsY a = numsY b) = true) (hp : ((a.progs.length : Int) != (b.progs.length : Int)) = false) (hs : ((a.starts.length : Int) != (b.starts.length : Int)) = true) :
    Calls Tryz.prog 13 #[.agg (a.cells (.slice pp a.progs.length cp) (.slice ps a.starts.length cs)), .agg (b.cells (.slice qp b.progs.length dp) (.slice qs b.starts.length ds))] w fun e w' => e = .returned (.bool false) ∧ Below w.heap.size w w' := by
  have hA : Blk ((w.alloc (.cells (a.cells (.slice pp a.progs.length cp) (.slice ps a.starts.length cs)) 27)).alloc (.cells (b.cells (.slice qp b.progs.length dp) (.slice qs b.starts.length ds)) 27)) w.heap.size 27 (a.cells (.slice pp a.progs.length cp) (.slice ps a.starts.length cs)) := (Blk.new w _ _).alloc _
  have hB : Blk ((w.alloc (.cells (a.cells (.slice pp a.progs.length cp) (.slice ps a.starts.length cs)) 27)).alloc (.cells (b.cells (.slice qp b.progs.length dp) (.slice qs b.starts.length ds)) 27)) (w.heap.size + 1) 27 (b.cells (.slice qp b.progs.length dp) (.slice qs b.starts.length ds)) := two_new w _ _ _
  have hbw := below_alloc2 w (.cells (a.cells (.slice pp a.progs.length cp) (.slice ps a.starts.length cs)) 27) (.cells (b.cells (.slice qp b.progs.length dp) (.slice qs b.starts.length ds)) 27)
  go_enter Tryz.func13, Tryz.ntmps13
  go_wp2_with (first
    | (refine wpList_box_agg rfl 27 _ rfl (a.cells (.slice pp a.progs.length cp) (.slice ps a.starts.length cs)) rfl ?_)
    | (refine wpList_box_agg rfl 27 _ rfl (b.cells (.slice qp b.progs.length dp) (.slice qs b.starts.length ds)) rfl ?_))
  try simp only [World.size_alloc]
  obtain ⟨W, hW⟩ : ∃ W, W = (w.alloc (.cells (a.cells (.slice pp a.progs.length cp) (.slice ps a.starts.length cs)) 27)).alloc (.cells (b.cells (.slice qp b.progs.length dp) (.slice qs b.starts.length ds)) 27) := ⟨_, rfl⟩
  rw [← hW] at hA hB hbw ⊢
  have hA0 : Blk W.drew w.heap.size 27 (a.cells (.slice pp a.progs.length cp) (.slice ps a.starts.length cs)) := hA
  have hB0 : Blk W.drew (w.heap.size + 1) 27 (b.cells (.slice qp b.progs.length dp) (.slice qs b.starts.length ds)) := hB
  have hb0 : Below w.heap.size w W.drew := hbw.drew
  clear hW
  refine wp_region_held_drew (S := fun w' => Below W.drew.heap.size W.drew w') (by kernel_rfl) (Below.refl _ _) (fun hS0 => ?_)
  refine wpAnyH_take (i := 0) (v := .agg (a.cells (.slice pp a.progs.length cp) (.slice ps a.starts.length cs))) rfl (by kernel_rfl) (by kernel_rfl) (by kernel_rfl) (fun _ _ _ h => h) (yields_row rfl 27 _ rfl w.heap.size rfl 27 _ (0, 0) _ (fun w1 hS1 => Blk.below hA0 hS1 hA0.lt) Tryz.underlying27 rfl (sizeY _ _ _)) hS0 ?_
  try simp only [List.getElem_toArray, List.getElem_cons_zero, Act.put, List.setIfInBounds_toArray, List.set_cons_zero, List.set_cons_succ]
  refine wpAnyH_take (i := 2) (v := .agg (b.cells (.slice qp b.progs.length dp) (.slice qs b.starts.length ds))) rfl (by kernel_rfl) (by kernel_rfl) (by kernel_rfl) (fun _ _ _ h => h) (yields_row rfl 27 _ rfl (w.heap.size + 1) rfl 27 _ (0, 0) _ (fun w1 hS1 => Blk.below hB0 hS1 hB0.lt) Tryz.underlying27 rfl (sizeY _ _ _)) hS0 ?_
  try simp only [List.getElem_toArray, List.getElem_cons_zero, List.getElem_cons_succ, Act.put, List.setIfInBounds_toArray, List.set_cons_zero, List.set_cons_succ]
  refine wpAnyH_ready (rs := [1]) (by kernel_rfl) (by simp) ?_
  refine AllReadyH.cons rfl (fun K hK => ?_) AllReadyH.nil
  go_simp
  refine (RNumbers_any a ha pp ps _ cp _ cs _).mono ?_
  rintro e v1 ⟨rfl, hv1⟩
  dsimp only
  refine hK.out _ _ (Below.trans hS0 (hv1.mono (hS0).size)) (fun hS1 => ?_); clear hK K
  refine wpAnyH_ready (rs := [3]) (by kernel_rfl) (by simp) ?_
  refine AllReadyH.cons rfl (fun K hK => ?_) AllReadyH.nil
  go_simp
  refine (RNumbers_any b hb qp qs _ dp _ ds _).mono ?_
  rintro e v2 ⟨rfl, hv2⟩
  dsimp only
  refine hK.out _ _ (Below.trans hS1 (hv2.mono (hS1).size)) (fun hS2 => ?_); clear hK K
  refine wpAnyH_take (i := 4) (v := .bool false) rfl (by kernel_rfl) (by kernel_rfl) (by kernel_rfl) (fun _ _ _ h => h) (Or.inl ⟨by rfl, fun w1 hS1 => exec_neq7 _ _ _ rfl a b ha hb rfl rfl true hn w1⟩) hS2 ?_
  try simp only [List.getElem_toArray, List.getElem_cons_zero, List.getElem_cons_succ, Act.put, List.setIfInBounds_toArray, List.set_cons_zero, List.set_cons_succ]
  refine wpAnyH_take (i := 5) (v := ?_) rfl (by kernel_rfl) (by kernel_rfl) (by kernel_rfl) (fun _ _ _ h => h) (Or.inl ⟨by rfl, ?_⟩) hS2 ?_
  rotate_left
  · intro w1 _; go_simp; with_reducible rfl
  try simp only [List.getElem_toArray, List.getElem_cons_zero, List.getElem_cons_succ, Act.put, List.setIfInBounds_toArray, List.set_cons_zero, List.set_cons_succ]
  refine wpAnyH_take (i := 6) (v := ?_) rfl (by kernel_rfl) (by kernel_rfl) (by kernel_rfl) (fun _ _ _ h => h) (Or.inl ⟨by rfl, ?_⟩) hS2 ?_
  rotate_left
  · intro w1 _; go_simp; with_reducible rfl
  try simp only [List.getElem_toArray, List.getElem_cons_zero, List.getElem_cons_succ, Act.put, List.setIfInBounds_toArray, List.set_cons_zero, List.set_cons_succ]
  refine wpAnyH_take (i := 7) (v := .slice pp a.progs.length cp) rfl (by kernel_rfl) (by kernel_rfl) (by kernel_rfl) (fun _ _ _ h => h) (Or.inl ⟨by rfl, fun w1 hS1 => by have h0 : w1.cell? ⟨w.heap.size, 7, none⟩ = some (.slice pp a.progs.length cp) := Blk.cell (Blk.below hA0 hS1 hA0.lt) 7; go_simp⟩) hS2 ?_
  try simp only [List.getElem_toArray, List.getElem_cons_zero, List.getElem_cons_succ, Act.put, List.setIfInBounds_toArray, List.set_cons_zero, List.set_cons_succ]
  refine wpAnyH_take (i := 8) (v := ?_) rfl (by kernel_rfl) (by kernel_rfl) (by kernel_rfl) (fun _ _ _ h => h) (Or.inl ⟨by rfl, ?_⟩) hS2 ?_
  rotate_left
  · intro w1 _; go_simp; with_reducible rfl
  try simp only [List.getElem_toArray, List.getElem_cons_zero, List.getElem_cons_succ, Act.put, List.setIfInBounds_toArray, List.set_cons_zero, List.set_cons_succ]
  refine wpAnyH_take (i := 9) (v := ?_) rfl (by kernel_rfl) (by kernel_rfl) (by kernel_rfl) (fun _ _ _ h => h) (Or.inl ⟨by rfl, ?_⟩) hS2 ?_
  rotate_left
  · intro w1 _; go_simp; with_reducible rfl
  try simp only [List.getElem_toArray, List.getElem_cons_zero, List.getElem_cons_succ, Act.put, List.setIfInBounds_toArray, List.set_cons_zero, List.set_cons_succ]
  refine wpAnyH_take (i := 10) (v := .slice qp b.progs.length dp) rfl (by kernel_rfl) (by kernel_rfl) (by kernel_rfl) (fun _ _ _ h => h) (Or.inl ⟨by rfl, fun w1 hS1 => by have h0 : w1.cell? ⟨w.heap.size + 1, 7, none⟩ = some (.slice qp b.progs.length dp) := Blk.cell (Blk.below hB0 hS1 hB0.lt) 7; go_simp⟩) hS2 ?_
  try simp only [List.getElem_toArray, List.getElem_cons_zero, List.getElem_cons_succ, Act.put, List.setIfInBounds_toArray, List.set_cons_zero, List.set_cons_succ]
  refine wpAnyH_take (i := 11) (v := ?_) rfl (by kernel_rfl) (by kernel_rfl) (by kernel_rfl) (fun _ _ _ h => h) (Or.inl ⟨by rfl, ?_⟩) hS2 ?_
  rotate_left
  · intro w1 _; go_simp; with_reducible rfl
  try simp only [List.getElem_toArray, List.getElem_cons_zero, List.getElem_cons_succ, Act.put, List.setIfInBounds_toArray, List.set_cons_zero, List.set_cons_succ]
  refine wpAnyH_take (i := 12) (v := .bool false) rfl (by kernel_rfl) (by kernel_rfl) (by kernel_rfl) (fun _ _ _ h => h) (Or.inl ⟨by rfl, fun w1 hS1 => by first | (go_simp; done) | (go_simp; rw [hp])⟩) hS2 ?_
  try simp only [List.getElem_toArray, List.getElem_cons_zero, List.getElem_cons_succ, Act.put, List.setIfInBounds_toArray, List.set_cons_zero, List.set_cons_succ]
  refine wpAnyH_take (i := 13) (v := ?_) rfl (by kernel_rfl) (by kernel_rfl) (by kernel_rfl) (fun _ _ _ h => h) (Or.inl ⟨by rfl, ?_⟩) hS2 ?_
  rotate_left
  · intro w1 _; go_simp; with_reducible rfl
  try simp only [List.getElem_toArray, List.getElem_cons_zero, List.getElem_cons_succ, Act.put, List.setIfInBounds_toArray, List.set_cons_zero, List.set_cons_succ]
  refine wpAnyH_take (i := 14) (v := ?_) rfl (by kernel_rfl) (by kernel_rfl) (by kernel_rfl) (fun _ _ _ h => h) (Or.inl ⟨by rfl, ?_⟩) hS2 ?_
  rotate_left
  · intro w1 _; go_simp; with_reducible rfl
  try simp only [List.getElem_toArray, List.getElem_cons_zero, List.getElem_cons_succ, Act.put, List.setIfInBounds_toArray, List.set_cons_zero, List.set_cons_succ]
  refine wpAnyH_take (i := 15) (v := ?_) rfl (by kernel_rfl) (by kernel_rfl) (by kernel_rfl) (fun _ _ _ h => h) (Or.inl ⟨by rfl, ?_⟩) hS2 ?_
  rotate_left
  · intro w1 _; go_simp; with_reducible rfl
  try simp only [List.getElem_toArray, List.getElem_cons_zero, List.getElem_cons_succ, Act.put, List.setIfInBounds_toArray, List.set_cons_zero, List.set_cons_succ]
  refine wpAnyH_take (i := 16) (v := .slice ps a.starts.length cs) rfl (by kernel_rfl) (by kernel_rfl) (by kernel_rfl) (fun _ _ _ h => h) (Or.inl ⟨by rfl, fun w1 hS1 => by have h0 : w1.cell? ⟨w.heap.size, 8, none⟩ = some (.slice ps a.starts.length cs) := Blk.cell (Blk.below hA0 hS1 hA0.lt) 8; go_simp⟩) hS2 ?_
  try simp only [List.getElem_toArray, List.getElem_cons_zero, List.getElem_cons_succ, Act.put, List.setIfInBounds_toArray, List.set_cons_zero, List.set_cons_succ]
  refine wpAnyH_take (i := 17) (v := ?_) rfl (by kernel_rfl) (by kernel_rfl) (by kernel_rfl) (fun _ _ _ h => h) (Or.inl ⟨by rfl, ?_⟩) hS2 ?_
  rotate_left
  · intro w1 _; go_simp; with_reducible rfl
  try simp only [List.getElem_toArray, List.getElem_cons_zero, List.getElem_cons_succ, Act.put, List.setIfInBounds_toArray, List.set_cons_zero, List.set_cons_succ]
  refine wpAnyH_take (i := 18) (v := ?_) rfl (by kernel_rfl) (by kernel_rfl) (by kernel_rfl) (fun _ _ _ h => h) (Or.inl ⟨by rfl, ?_⟩) hS2 ?_
  rotate_left
  · intro w1 _; go_simp; with_reducible rfl
  try simp only [List.getElem_toArray, List.getElem_cons_zero, List.getElem_cons_succ, Act.put, List.setIfInBounds_toArray, List.set_cons_zero, List.set_cons_succ]
  refine wpAnyH_take (i := 19) (v := .slice qs b.starts.length ds) rfl (by kernel_rfl) (by kernel_rfl) (by kernel_rfl) (fun _ _ _ h => h) (Or.inl ⟨by rfl, fun w1 hS1 => by have h0 : w1.cell? ⟨w.heap.size + 1, 8, none⟩ = some (.slice qs b.starts.length ds) := Blk.cell (Blk.below hB0 hS1 hB0.lt) 8; go_simp⟩) hS2 ?_
  try simp only [List.getElem_toArray, List.getElem_cons_zero, List.getElem_cons_succ, Act.put, List.setIfInBounds_toArray, List.set_cons_zero, List.set_cons_succ]
  refine wpAnyH_take (i := 20) (v := ?_) rfl (by kernel_rfl) (by kernel_rfl) (by kernel_rfl) (fun _ _ _ h => h) (Or.inl ⟨by rfl, ?_⟩) hS2 ?_
  rotate_left
  · intro w1 _; go_simp; with_reducible rfl
  try simp only [List.getElem_toArray, List.getElem_cons_zero, List.getElem_cons_succ, Act.put, List.setIfInBounds_toArray, List.set_cons_zero, List.set_cons_succ]
  refine wpAnyH_take (i := 21) (v := .bool true) rfl (by kernel_rfl) (by kernel_rfl) (by kernel_rfl) (fun _ _ _ h => h) (Or.inl ⟨by rfl, fun w1 hS1 => by first | (go_simp; done) | (go_simp; rw [hs])⟩) hS2 ?_
  try simp only [List.getElem_toArray, List.getElem_cons_zero, List.getElem_cons_succ, Act.put, List.setIfInBounds_toArray, List.set_cons_zero, List.set_cons_succ]
  refine wpAnyH_take (i := 22) (v := ?_) rfl (by kernel_rfl) (by kernel_rfl) (by kernel_rfl) (fun _ _ _ h => h) (Or.inl ⟨by rfl, ?_⟩) hS2 ?_
  rotate_left
  · intro w1 _; go_simp; with_reducible rfl
  try simp only [List.getElem_toArray, List.getElem_cons_zero, List.getElem_cons_succ, Act.put, List.setIfInBounds_toArray, List.set_cons_zero, List.set_cons_succ]
  refine wpAnyH_done (by kernel_rfl) ?_ _
  go_wp2
  go_ret
  exact ⟨rfl, hb0.trans (Below.mono (hS2 : Below W.drew.heap.size W.drew _) hb0.size)⟩

set_option maxRecDepth 100000 in
set_option maxHeartbeats 4000000 in
theorem RSameY_3 (a b : Dut) (ha : a.ok) (hb : b.ok) (pp ps qp qs : Option Addr) (cp cs dp ds : Nat) (w : World) (hn : decide (numsY a = numsY b) = true) (hpl : a.progs.length = b.progs.length) (hsl : a.starts.length = b.starts.length) (hsh : ∀ p ∈ a.progs, p.length ≤ 100000) (hmx : a.progs.length ≤ 100000) (hmx2 : a.starts.length ≤ 100000) (G G' : Nat → Prop) (h : DV w G (.slice pp a.progs.length cp) (.slice ps a.starts.length cs) a) (h' : DV w G' (.slice qp b.progs.length dp) (.slice qs b.starts.length ds) b) (R9 : Bool) (hR9 : Hid (R9 = true ↔ a.progs = b.progs ∧ a.starts = b.starts)) :
    Calls Tryz.prog 13 #[.agg (a.cells (.slice pp a.progs.length cp) (.slice ps a.starts.length cs)), .agg (b.cells (.slice qp b.progs.length dp) (.slice qs b.starts.length ds))] w fun e w' => e = .returned (.bool R9) ∧ Below w.heap.size w w' := by
  have HL1 : Hid (a.progs.length = b.progs.length) := Lib.hid hpl
  have HL2 : Hid (a.starts.length = b.starts.length) := Lib.hid hsl
  have hp : ((a.progs.length : Int) != (b.progs.length : Int)) = false := by simp [hpl]
  have hs : ((a.starts.length : Int) != (b.starts.length : Int)) = false := by simp [hsl]
  have HD := Lib.hid (h.later (below_alloc2 w (.cells (a.cells (.slice pp a.progs.length cp) (.slice ps a.starts.length cs)) 27) (.cells (b.cells (.slice qp b.progs.length dp) (.slice qs b.starts.length ds)) 27)))
  have HE := Lib.hid (h'.later (below_alloc2 w (.cells (a.cells (.slice pp a.progs.length cp) (.slice ps a.starts.length cs)) 27) (.cells (b.cells (.slice qp b.progs.length dp) (.slice qs b.starts.length ds)) 27)))
  have HSH : Hid (∀ p ∈ a.progs, p.length ≤ 100000) := Lib.hid hsh
  clear h h' hpl hsl hsh
  have hA : Blk ((w.alloc (.cells (a.cells (.slice pp a.progs.length cp) (.slice ps a.starts.length cs)) 27)).alloc (.cells (b.cells (.slice qp b.progs.length dp) (.slice qs b.starts.length ds)) 27)) w.heap.size 27 (a.cells (.slice pp a.progs.length cp) (.slice ps a.starts.length cs)) := (Blk.new w _ _).alloc _
  have hB : Blk ((w.alloc (.cells (a.cells (.slice pp a.progs.length cp) (.slice ps a.starts.length cs)) 27)).alloc (.cells (b.cells (.slice qp b.progs.length dp) (.slice qs b.starts.length ds)) 27)) (w.heap.size + 1) 27 (b.cells (.slice qp b.progs.length dp) (.slice qs b.starts.length ds)) := two_new w _ _ _
  have hbw := below_alloc2 w (.cells (a.cells (.slice pp a.progs.length cp) (.slice ps a.starts.length cs)) 27) (.cells (b.cells (.slice qp b.progs.length dp) (.slice qs b.starts.length ds)) 27)
  go_enter Tryz.func13, Tryz.ntmps13
  go_wp2_with (first
    | (refine wpList_box_agg rfl 27 _ rfl (a.cells (.slice pp a.progs.length cp) (.slice ps a.starts.length cs)) rfl ?_)
    | (refine wpList_box_agg rfl 27 _ rfl (b.cells (.slice qp b.progs.length dp) (.slice qs b.starts.length ds)) rfl ?_))
  try simp only [World.size_alloc]
  obtain ⟨W, hW⟩ : ∃ W, W = (w.alloc (.cells (a.cells (.slice pp a.progs.length cp) (.slice ps a.starts.length cs)) 27)).alloc (.cells (b.cells (.slice qp b.progs.length dp) (.slice qs b.starts.length ds)) 27) := ⟨_, rfl⟩
  rw [← hW] at hA hB hbw HD HE ⊢
  have hA0 : Blk W.drew w.heap.size 27 (a.cells (.slice pp a.progs.length cp) (.slice ps a.starts.length cs)) := hA
  have hB0 : Blk W.drew (w.heap.size + 1) 27 (b.cells (.slice qp b.progs.length dp) (.slice qs b.starts.length ds)) := hB
  have hb0 : Below w.heap.size w W.drew := hbw.drew
  clear hW
  refine wp_region_held_drew (S := fun w' => Below W.drew.heap.size W.drew w') (by kernel_rfl) (Below.refl _ _) (fun hS0 => ?_)
  refine wpAnyH_take (i := 0) (v := .agg (a.cells (.slice pp a.progs.length cp) (.slice ps a.starts.length cs))) rfl (by kernel_rfl) (by kernel_rfl) (by kernel_rfl) (fun _ _ _ h => h) (yields_row rfl 27 _ rfl w.heap.size rfl 27 _ (0, 0) _ (fun w1 hS1 => Blk.below hA0 hS1 hA0.lt) Tryz.underlying27 rfl (sizeY _ _ _)) hS0 ?_
  try simp only [List.getElem_toArray, List.getElem_cons_zero, Act.put, List.setIfInBounds_toArray, List.set_cons_zero, List.set_cons_succ]
  refine wpAnyH_take (i := 2) (v := .agg (b.cells (.slice qp b.progs.length dp) (.slice qs b.starts.length ds))) rfl (by kernel_rfl) (by kernel_rfl) (by kernel_rfl) (fun _ _ _ h => h) (yields_row rfl 27 _ rfl (w.heap.size + 1) rfl 27 _ (0, 0) _ (fun w1 hS1 => Blk.below hB0 hS1 hB0.lt) Tryz.underlying27 rfl (sizeY _ _ _)) hS0 ?_
  try simp only [List.getElem_toArray, List.getElem_cons_zero, List.getElem_cons_succ, Act.put, List.setIfInBounds_toArray, List.set_cons_zero, List.set_cons_succ]
  refine wpAnyH_ready (rs := [1]) (by kernel_rfl) (by simp) ?_
  refine AllReadyH.cons rfl (fun K hK => ?_) AllReadyH.nil
  go_simp
  refine (RNumbers_any a ha pp ps _ cp _ cs _).mono ?_
  rintro e v1 ⟨rfl, hv1⟩
  dsimp only
  refine hK.out _ _ (Below.trans hS0 (hv1.mono (hS0).size)) (fun hS1 => ?_); clear hK K
  refine wpAnyH_ready (rs := [3]) (by kernel_rfl) (by simp) ?_
  refine AllReadyH.cons rfl (fun K hK => ?_) AllReadyH.nil
  go_simp
  refine (RNumbers_any b hb qp qs _ dp _ ds _).mono ?_
  rintro e v2 ⟨rfl, hv2⟩
  dsimp only
  refine hK.out _ _ (Below.trans hS1 (hv2.mono (hS1).size)) (fun hS2 => ?_); clear hK K
  refine wpAnyH_take (i := 4) (v := .bool false) rfl (by kernel_rfl) (by kernel_rfl) (by kernel_rfl) (fun _ _ _ h => h) (Or.inl ⟨by rfl, fun w1 hS1 => exec_neq7 _ _ _ rfl a b ha hb rfl rfl true hn w1⟩) hS2 ?_
  try simp only [List.getElem_toArray, List.getElem_cons_zero, List.getElem_cons_succ, Act.put, List.setIfInBounds_toArray, List.set_cons_zero, List.set_cons_succ]
  refine wpAnyH_take (i := 5) (v := ?_) rfl (by kernel_rfl) (by kernel_rfl) (by kernel_rfl) (fun _ _ _ h => h) (Or.inl ⟨by rfl, ?_⟩) hS2 ?_
  rotate_left
  · intro w1 _; go_simp; with_reducible rfl
  try simp only [List.getElem_toArray, List.getElem_cons_zero, List.getElem_cons_succ, Act.put, List.setIfInBounds_toArray, List.set_cons_zero, List.set_cons_succ]
  refine wpAnyH_take (i := 6) (v := ?_) rfl (by kernel_rfl) (by kernel_rfl) (by kernel_rfl) (fun _ _ _ h => h) (Or.inl ⟨by rfl, ?_⟩) hS2 ?_
  rotate_left
  · intro w1 _; go_simp; with_reducible rfl
  try simp only [List.getElem_toArray, List.getElem_cons_zero, List.getElem_cons_succ, Act.put, List.setIfInBounds_toArray, List.set_cons_zero, List.set_cons_succ]
  refine wpAnyH_take (i := 7) (v := .slice pp a.progs.length cp) rfl (by kernel_rfl) (by kernel_rfl) (by kernel_rfl) (fun _ _ _ h => h) (Or.inl ⟨by rfl, fun w1 hS1 => by have h0 : w1.cell? ⟨w.heap.size, 7, none⟩ = some (.slice pp a.progs.length cp) := Blk.cell (Blk.below hA0 hS1 hA0.lt) 7; go_simp⟩) hS2 ?_
  try simp only [List.getElem_toArray, List.getElem_cons_zero, List.getElem_cons_succ, Act.put, List.setIfInBounds_toArray, List.set_cons_zero, List.set_cons_succ]
  refine wpAnyH_take (i := 8) (v := ?_) rfl (by kernel_rfl) (by kernel_rfl) (by kernel_rfl) (fun _ _ _ h => h) (Or.inl ⟨by rfl, ?_⟩) hS2 ?_
  rotate_left
  · intro w1 _; go_simp; with_reducible rfl
  try simp only [List.getElem_toArray, List.getElem_cons_zero, List.getElem_cons_succ, Act.put, List.setIfInBounds_toArray, List.set_cons_zero, List.set_cons_succ]
  refine wpAnyH_take (i := 9) (v := ?_) rfl (by kernel_rfl) (by kernel_rfl) (by kernel_rfl) (fun _ _ _ h => h) (Or.inl ⟨by rfl, ?_⟩) hS2 ?_
  rotate_left
  · intro w1 _; go_simp; with_reducible rfl
  try simp only [List.getElem_toArray, List.getElem_cons_zero, List.getElem_cons_succ, Act.put, List.setIfInBounds_toArray, List.set_cons_zero, List.set_cons_succ]
  refine wpAnyH_take (i := 10) (v := .slice qp b.progs.length dp) rfl (by kernel_rfl) (by kernel_rfl) (by kernel_rfl) (fun _ _ _ h => h) (Or.inl ⟨by rfl, fun w1 hS1 => by have h0 : w1.cell? ⟨w.heap.size + 1, 7, none⟩ = some (.slice qp b.progs.length dp) := Blk.cell (Blk.below hB0 hS1 hB0.lt) 7; go_simp⟩) hS2 ?_
  try simp only [List.getElem_toArray, List.getElem_cons_zero, List.getElem_cons_succ, Act.put, List.setIfInBounds_toArray, List.set_cons_zero, List.set_cons_succ]
  refine wpAnyH_take (i := 11) (v := ?_) rfl (by kernel_rfl) (by kernel_rfl) (by kernel_rfl) (fun _ _ _ h => h) (Or.inl ⟨by rfl, ?_⟩) hS2 ?_
  rotate_left
  · intro w1 _; go_simp; with_reducible rfl
  try simp only [List.getElem_toArray, List.getElem_cons_zero, List.getElem_cons_succ, Act.put, List.setIfInBounds_toArray, List.set_cons_zero, List.set_cons_succ]
  refine wpAnyH_take (i := 12) (v := .bool false) rfl (by kernel_rfl) (by kernel_rfl) (by kernel_rfl) (fun _ _ _ h => h) (Or.inl ⟨by rfl, fun w1 hS1 => by first | (go_simp; done) | (go_simp; rw [hp])⟩) hS2 ?_
  try simp only [List.getElem_toArray, List.getElem_cons_zero, List.getElem_cons_succ, Act.put, List.setIfInBounds_toArray, List.set_cons_zero, List.set_cons_succ]
  refine wpAnyH_take (i := 13) (v := ?_) rfl (by kernel_rfl) (by kernel_rfl) (by kernel_rfl) (fun _ _ _ h => h) (Or.inl ⟨by rfl, ?_⟩) hS2 ?_
  rotate_left
  · intro w1 _; go_simp; with_reducible rfl
  try simp only [List.getElem_toArray, List.getElem_cons_zero, List.getElem_cons_succ, Act.put, List.setIfInBounds_toArray, List.set_cons_zero, List.set_cons_succ]
  refine wpAnyH_take (i := 14) (v := ?_) rfl (by kernel_rfl) (by kernel_rfl) (by kernel_rfl) (fun _ _ _ h => h) (Or.inl ⟨by rfl, ?_⟩) hS2 ?_
  rotate_left
  · intro w1 _; go_simp; with_reducible rfl
  try simp only [List.getElem_toArray, List.getElem_cons_zero, List.getElem_cons_succ, Act.put, List.setIfInBounds_toArray, List.set_cons_zero, List.set_cons_succ]
  refine wpAnyH_take (i := 15) (v := ?_) rfl (by kernel_rfl) (by kernel_rfl) (by kernel_rfl) (fun _ _ _ h => h) (Or.inl ⟨by rfl, ?_⟩) hS2 ?_
  rotate_left
  · intro w1 _; go_simp; with_reducible rfl
  try simp only [List.getElem_toArray, List.getElem_cons_zero, List.getElem_cons_succ, Act.put, List.setIfInBounds_toArray, List.set_cons_zero, List.set_cons_succ]
  refine wpAnyH_take (i := 16) (v := .slice ps a.starts.length cs) rfl (by kernel_rfl) (by kernel_rfl) (by kernel_rfl) (fun _ _ _ h => h) (Or.inl ⟨by rfl, fun w1 hS1 => by have h0 : w1.cell? ⟨w.heap.size, 8, none⟩ = some (.slice ps a.starts.length cs) := Blk.cell (Blk.below hA0 hS1 hA0.lt) 8; go_simp⟩) hS2 ?_
  try simp only [List.getElem_toArray, List.getElem_cons_zero, List.getElem_cons_succ, Act.put, List.setIfInBounds_toArray, List.set_cons_zero, List.set_cons_succ]
  refine wpAnyH_take (i := 17) (v := ?_) rfl (by kernel_rfl) (by kernel_rfl) (by kernel_rfl) (fun _ _ _ h => h) (Or.inl ⟨by rfl, ?_⟩) hS2 ?_
  rotate_left
  · intro w1 _; go_simp; with_reducible rfl
  try simp only [List.getElem_toArray, List.getElem_cons_zero, List.getElem_cons_succ, Act.put, List.setIfInBounds_toArray, List.set_cons_zero, List.set_cons_succ]
  refine wpAnyH_take (i := 18) (v := ?_) rfl (by kernel_rfl) (by kernel_rfl) (by kernel_rfl) (fun _ _ _ h => h) (Or.inl ⟨by rfl, ?_⟩) hS2 ?_
  rotate_left
  · intro w1 _; go_simp; with_reducible rfl
  try simp only [List.getElem_toArray, List.getElem_cons_zero, List.getElem_cons_succ, Act.put, List.setIfInBounds_toArray, List.set_cons_zero, List.set_cons_succ]
  refine wpAnyH_take (i := 19) (v := .slice qs b.starts.length ds) rfl (by kernel_rfl) (by kernel_rfl) (by kernel_rfl) (fun _ _ _ h => h) (Or.inl ⟨by rfl, fun w1 hS1 => by have h0 : w1.cell? ⟨w.heap.size + 1, 8, none⟩ = some (.slice qs b.starts.length ds) := Blk.cell (Blk.below hB0 hS1 hB0.lt) 8; go_simp⟩) hS2 ?_
  try simp only [List.getElem_toArray, List.getElem_cons_zero, List.getElem_cons_succ, Act.put, List.setIfInBounds_toArray, List.set_cons_zero, List.set_cons_succ]
  refine wpAnyH_take (i := 20) (v := ?_) rfl (by kernel_rfl) (by kernel_rfl) (by kernel_rfl) (fun _ _ _ h => h) (Or.inl ⟨by rfl, ?_⟩) hS2 ?_
  rotate_left
  · intro w1 _; go_simp; with_reducible rfl
  try simp only [List.getElem_toArray, List.getElem_cons_zero, List.getElem_cons_succ, Act.put, List.setIfInBounds_toArray, List.set_cons_zero, List.set_cons_succ]
  refine wpAnyH_take (i := 21) (v := .bool false) rfl (by kernel_rfl) (by kernel_rfl) (by kernel_rfl) (fun _ _ _ h => h) (Or.inl ⟨by rfl, fun w1 hS1 => by first | (go_simp; done) | (go_simp; rw [hs])⟩) hS2 ?_
  try simp only [List.getElem_toArray, List.getElem_cons_zero, List.getElem_cons_succ, Act.put, List.setIfInBounds_toArray, List.set_cons_zero, List.set_cons_succ]
  refine wpAnyH_take (i := 22) (v := ?_) rfl (by kernel_rfl) (by kernel_rfl) (by kernel_rfl) (fun _ _ _ h => h) (Or.inl ⟨by rfl, ?_⟩) hS2 ?_
  rotate_left
  · intro w1 _; go_simp; with_reducible rfl
  try simp only [List.getElem_toArray, List.getElem_cons_zero, List.getElem_cons_succ, Act.put, List.setIfInBounds_toArray, List.set_cons_zero, List.set_cons_succ]
  refine wpAnyH_done (by kernel_rfl) ?_ _
  have hb1 : Below w.heap.size w v2 := hb0.trans (Below.mono (hS2 : Below W.drew.heap.size W.drew v2) hb0.size)
  have HA1 := Lib.hid (Blk.below hA0 (hS2 : Below W.drew.heap.size W.drew v2) hA0.lt)
  have HB1 := Lib.hid (Blk.below hB0 (hS2 : Below W.drew.heap.size W.drew v2) hB0.lt)
  have HD1 : Hid (DV v2 G (.slice pp a.progs.length cp) (.slice ps a.starts.length cs) a) := Lib.hid (DV.later HD.out.drew (hS2 : Below W.drew.heap.size W.drew v2))
  have HE1 : Hid (DV v2 G' (.slice qp b.progs.length dp) (.slice qs b.starts.length ds) b) := Lib.hid (DV.later HE.out.drew (hS2 : Below W.drew.heap.size W.drew v2))
  clear hA0 hB0 hA hB hb0 hbw HD HE hv1 hv2 hn hp hs
  go_wp2
  go_loopw [5] (fun t wr => ∃ k : Nat, k ≤ a.progs.length ∧ t = .int .i64 k ∧ Hid (a.progs.take k = b.progs.take k) ∧ Hid (DV wr G (.slice pp a.progs.length cp) (.slice ps a.starts.length cs) a) ∧ Hid (DV wr G' (.slice qp b.progs.length dp) (.slice qs b.starts.length ds) b) ∧ Hid (Blk wr w.heap.size 27 (a.cells (.slice pp a.progs.length cp) (.slice ps a.starts.length cs))) ∧ Hid (Blk wr (w.heap.size + 1) 27 (b.cells (.slice qp b.progs.length dp) (.slice qs b.starts.length ds))) ∧ Below w.heap.size w wr) (fun t _ => a.progs.length - (intOf t).toNat)
  case atStart => exact ⟨0, by omega, rfl, Lib.hid (by simp), HD1, HE1, HA1, HB1, hb1⟩
  case round =>
    clear HD1 HE1 HA1 HB1 hb1
    obtain ⟨k, hk, rfl, hg, hD, hE, hA, hB, hb⟩ := hrel
    obtain ⟨_, _, _, _, _, _, _, q7, q8⟩ := duty_at hA.out
    obtain ⟨_, _, _, _, _, _, _, r7, r8⟩ := duty_at hB.out
    by_cases hlt : k < a.progs.length
    · obtain ⟨p, hp⟩ : ∃ p, a.progs[k]? = some p := ⟨_, List.getElem?_eq_getElem hlt⟩
      obtain ⟨q, hq⟩ : ∃ q, b.progs[k]? = some q := ⟨_, List.getElem?_eq_getElem (by rw [← HL1.out]; exact hlt)⟩
      obtain ⟨b1, o1, u1, c1, rfl, hb1l, _, hc1, hr1⟩ := hD.out.progs.at hp
      obtain ⟨b2, o2, u2, c2, rfl, hb2l, _, hc2, hr2⟩ := hE.out.progs.at hq
      have hlt2 : k < b.progs.length := by rw [← HL1.out]; exact hlt
      have hsm := fun W (h1 : RP W G (.slice u1 p.length c1) p) (h2 : RP W G' (.slice u2 q.length c2) q) => Same_any u1 u2 c1 c2 p q (HSH.out p (List.mem_of_getElem? hp)) G G' W h1 h2
      have HP := Lib.hid hp
      have HQ := Lib.hid hq
      have HR1 : Hid (RP wr.drew G (.slice u1 p.length c1) p) := Lib.hid hr1
      have HR2 : Hid (RP wr.drew G' (.slice u2 q.length c2) q) := Lib.hid hr2
      clear hp hq hr1 hr2
      have hbd : Below w.heap.size w wr.drew := hb.drew
      obtain ⟨R, hR⟩ : ∃ R, sameP p q = R := ⟨_, rfl⟩
      simp only [hR] at hsm
      go_wp2_with fail
      refine wp_region_held_drew (S := fun w' => Below wr.drew.heap.size wr.drew w') (by kernel_rfl) (Below.refl _ _) (fun hT0 => ?_)
      refine wpAnyH_take (i := 0) (v := ?_) rfl (by kernel_rfl) (by kernel_rfl) (by kernel_rfl) (fun _ _ _ h => h) (Or.inl ⟨by rfl, ?_⟩) hT0 ?_
      rotate_left
      · intro w1 _; go_simp; with_reducible rfl
      try simp only [List.getElem_toArray, List.getElem_cons_zero, Act.put, List.setIfInBounds_toArray, List.set_cons_zero, List.set_cons_succ]
      refine wpAnyH_take (i := 1) (v := .slice (some ⟨b1, o1, none⟩) a.progs.length cp) rfl (by kernel_rfl) (by kernel_rfl) (by kernel_rfl) (fun _ _ _ h => h) (Or.inl ⟨by rfl, fun w1 hS1 => by have h0 : w1.cell? ⟨w.heap.size, 7, none⟩ = some (.slice (some ⟨b1, o1, none⟩) a.progs.length cp) := Blk.cell (Blk.below (w := wr.drew) hA.out hS1 hA.out.lt) 7; go_simp⟩) hT0 ?_
      try simp only [List.getElem_toArray, List.getElem_cons_zero, List.getElem_cons_succ, Act.put, List.setIfInBounds_toArray, List.set_cons_zero, List.set_cons_succ]
      refine wpAnyH_take (i := 2) (v := ?_) rfl (by kernel_rfl) (by kernel_rfl) (by kernel_rfl) (fun _ _ _ h => h) (Or.inl ⟨by rfl, ?_⟩) hT0 ?_
      rotate_left
      · intro w1 _; go_simp; with_reducible rfl
      try simp only [List.getElem_toArray, List.getElem_cons_zero, List.getElem_cons_succ, Act.put, List.setIfInBounds_toArray, List.set_cons_zero, List.set_cons_succ]
      refine wpAnyH_take (i := 3) (v := ?_) rfl (by kernel_rfl) (by kernel_rfl) (by kernel_rfl) (fun _ _ _ h => h) (Or.inl ⟨by rfl, ?_⟩) hT0 ?_
      rotate_left
      · intro w1 _; go_simp; with_reducible rfl
      try simp only [List.getElem_toArray, List.getElem_cons_zero, List.getElem_cons_succ, Act.put, List.setIfInBounds_toArray, List.set_cons_zero, List.set_cons_succ]
      refine wpAnyH_take (i := 4) (v := .slice u1 p.length c1) rfl (by kernel_rfl) (by kernel_rfl) (by kernel_rfl) (fun _ _ _ h => h) (Or.inl ⟨by rfl, fun w1 hS1 => by have h0 : w1.cell? ⟨b1, o1 + k, none⟩ = some (.slice u1 p.length c1) := (World.cell?_of_block (a := ⟨b1, o1 + k, none⟩) (hS1.block b1 hb1l)).trans hc1; go_simp⟩) hT0 ?_
      try simp only [List.getElem_toArray, List.getElem_cons_zero, List.getElem_cons_succ, Act.put, List.setIfInBounds_toArray, List.set_cons_zero, List.set_cons_succ]
      refine wpAnyH_take (i := 5) (v := ?_) rfl (by kernel_rfl) (by kernel_rfl) (by kernel_rfl) (fun _ _ _ h => h) (Or.inl ⟨by rfl, ?_⟩) hT0 ?_
      rotate_left
      · intro w1 _; go_simp; with_reducible rfl
      try simp only [List.getElem_toArray, List.getElem_cons_zero, List.getElem_cons_succ, Act.put, List.setIfInBounds_toArray, List.set_cons_zero, List.set_cons_succ]
      refine wpAnyH_take (i := 6) (v := .slice (some ⟨b2, o2, none⟩) b.progs.length dp) rfl (by kernel_rfl) (by kernel_rfl) (by kernel_rfl) (fun _ _ _ h => h) (Or.inl ⟨by rfl, fun w1 hS1 => by have h0 : w1.cell? ⟨w.heap.size + 1, 7, none⟩ = some (.slice (some ⟨b2, o2, none⟩) b.progs.length dp) := Blk.cell (Blk.below (w := wr.drew) hB.out hS1 hB.out.lt) 7; go_simp⟩) hT0 ?_
      try simp only [List.getElem_toArray, List.getElem_cons_zero, List.getElem_cons_succ, Act.put, List.setIfInBounds_toArray, List.set_cons_zero, List.set_cons_succ]
      refine wpAnyH_take (i := 7) (v := ?_) rfl (by kernel_rfl) (by kernel_rfl) (by kernel_rfl) (fun _ _ _ h => h) (Or.inl ⟨by rfl, ?_⟩) hT0 ?_
      rotate_left
      · intro w1 _; go_simp; with_reducible rfl
      try simp only [List.getElem_toArray, List.getElem_cons_zero, List.getElem_cons_succ, Act.put, List.setIfInBounds_toArray, List.set_cons_zero, List.set_cons_succ]
      refine wpAnyH_take (i := 8) (v := ?_) rfl (by kernel_rfl) (by kernel_rfl) (by kernel_rfl) (fun _ _ _ h => h) (Or.inl ⟨by rfl, ?_⟩) hT0 ?_
      rotate_left
      · intro w1 _; go_simp; with_reducible rfl
      try simp only [List.getElem_toArray, List.getElem_cons_zero, List.getElem_cons_succ, Act.put, List.setIfInBounds_toArray, List.set_cons_zero, List.set_cons_succ]
      refine wpAnyH_take (i := 9) (v := .slice u2 q.length c2) rfl (by kernel_rfl) (by kernel_rfl) (by kernel_rfl) (fun _ _ _ h => h) (Or.inl ⟨by rfl, fun w1 hS1 => by have h0 : w1.cell? ⟨b2, o2 + k, none⟩ = some (.slice u2 q.length c2) := (World.cell?_of_block (a := ⟨b2, o2 + k, none⟩) (hS1.block b2 hb2l)).trans hc2; go_simp⟩) hT0 ?_
      try simp only [List.getElem_toArray, List.getElem_cons_zero, List.getElem_cons_succ, Act.put, List.setIfInBounds_toArray, List.set_cons_zero, List.set_cons_succ]
      refine wpAnyH_ready (rs := [10]) (by kernel_rfl) (by simp) ?_
      refine AllReadyH.cons rfl (fun K hK => ?_) AllReadyH.nil
      go_simp
      refine (hsm _ (HR1.out.later hT0) (HR2.out.later hT0)).mono ?_
      rintro e w2 ⟨rfl, hb2⟩
      dsimp only
      refine hK.out _ _ (Below.trans hT0 (hb2.mono (hT0).size)) (fun hS1 => ?_); clear hK K
      refine wpAnyH_take (i := 11) (v := ?_) rfl (by kernel_rfl) (by kernel_rfl) (by kernel_rfl) (fun _ _ _ h => h) (Or.inl ⟨by rfl, ?_⟩) hS1 ?_
      rotate_left
      · intro w1 _; go_simp; with_reducible rfl
      try simp only [List.getElem_toArray, List.getElem_cons_zero, List.getElem_cons_succ, Act.put, List.setIfInBounds_toArray, List.set_cons_zero, List.set_cons_succ]
      refine wpAnyH_done (by kernel_rfl) ?_ _
      have hbf : Below w.heap.size w w2 := hbd.trans (Below.mono (hS1 : Below wr.drew.heap.size wr.drew w2) hbd.size)
      cases R
      · go_wp2
        go_ret
        have hne : p ≠ q := fun e => by rw [(sameP_iff p q).2 e] at hR; cases hR
        have hz : R9 = false := by rw [Bool.eq_false_iff]; exact fun h => sameL_not HP.out HQ.out hne (hR9.out.1 h).1
        exact ⟨ret_b9 hz.symm, hbf⟩
      · have hpq := (sameP_iff p q).1 hR
        have HG2 := Lib.hid ((sameL_at HP.out HQ.out hg.out).2 hpq)
        clear hpq hR
        go_wp2
        go_roundw
        case rel => exact ⟨k + 1, by omega, by go_num, HG2, Lib.hid (DV.later hD.out.drew (hS1 : Below wr.drew.heap.size wr.drew w2)), Lib.hid (DV.later hE.out.drew (hS1 : Below wr.drew.heap.size wr.drew w2)), Lib.hid (Blk.below (w := wr.drew) hA.out (hS1 : Below wr.drew.heap.size wr.drew w2) hA.out.lt), Lib.hid (Blk.below (w := wr.drew) hB.out (hS1 : Below wr.drew.heap.size wr.drew w2) hB.out.lt), hbf⟩
        case measure => simp [intOf]; omega
    · obtain rfl : k = a.progs.length := by omega
      have hpe : a.progs = b.progs := by have := hg.out; rwa [List.take_length, HL1.out, List.take_length] at this
      have HPE := Lib.hid hpe
      clear hpe hg hlt hk q7 q8 r7 r8
      obtain ⟨_, _, _, _, _, _, _, q7, q8⟩ := duty_at hA.out
      go_wp2
      go_loopw [6] (fun t wr => ∃ k : Nat, k ≤ a.starts.length ∧ t = .int .i64 k ∧ Hid (a.starts.take k = b.starts.take k) ∧ Hid (DV wr G (.slice pp a.progs.length cp) (.slice ps a.starts.length cs) a) ∧ Hid (DV wr G' (.slice qp b.progs.length dp) (.slice qs b.starts.length ds) b) ∧ Hid (Blk wr w.heap.size 27 (a.cells (.slice pp a.progs.length cp) (.slice ps a.starts.length cs))) ∧ Hid (Blk wr (w.heap.size + 1) 27 (b.cells (.slice qp b.progs.length dp) (.slice qs b.starts.length ds))) ∧ Below w.heap.size w wr) (fun t _ => a.starts.length - (intOf t).toNat)
      case atStart => exact ⟨0, by omega, rfl, Lib.hid (by simp), hD, hE, hA, hB, hb⟩
      case round =>
        clear hD hE hA hB hb q7 q8
        obtain ⟨k, hk, rfl, hg, hD, hE, hA, hB, hb⟩ := hrel
        obtain ⟨_, _, _, _, _, _, _, q7, q8⟩ := duty_at hA.out
        obtain ⟨_, _, _, _, _, _, _, r7, r8⟩ := duty_at hB.out
        by_cases hlt : k < a.starts.length
        · obtain ⟨s, hs⟩ : ∃ s, a.starts[k]? = some s := ⟨_, List.getElem?_eq_getElem hlt⟩
          obtain ⟨t, ht⟩ : ∃ t, b.starts[k]? = some t := ⟨_, List.getElem?_eq_getElem (by rw [← HL2.out]; exact hlt)⟩
          obtain ⟨b1, o1, rfl, _, _, _, e0, e1, e2⟩ := hD.out.starts.at hs
          obtain ⟨b2, o2, rfl, _, _, _, f0, f1, f2⟩ := hE.out.starts.at ht
          have hlt2 : k < b.starts.length := by rw [← HL2.out]; exact hlt
          have hD9 := Lib.hid hs
          have hE9 := Lib.hid ht
          clear hs ht
          have hbd : Below w.heap.size w wr.drew := hb.drew
          obtain ⟨R, hR⟩ : ∃ R, decide (s = t) = R := ⟨_, rfl⟩
          go_wp2_with fail
          refine wp_region_held_drew (S := fun w' => w' = wr.drew) (by kernel_rfl) rfl (fun hT0 => ?_)
          refine wpAnyH_take (i := 0) (v := ?_) rfl (by kernel_rfl) (by kernel_rfl) (by kernel_rfl) (fun _ _ _ h => h) (Or.inl ⟨by rfl, ?_⟩) hT0 ?_
          rotate_left
          · intro w1 _; go_simp; with_reducible rfl
          try simp only [List.getElem_toArray, List.getElem_cons_zero, Act.put, List.setIfInBounds_toArray, List.set_cons_zero, List.set_cons_succ]
          refine wpAnyH_take (i := 1) (v := .slice (some ⟨b1, o1, none⟩) a.starts.length cs) rfl (by kernel_rfl) (by kernel_rfl) (by kernel_rfl) (fun _ _ _ h => h) (Or.inl ⟨by rfl, fun w1 hS1 => by subst hS1; go_simp⟩) hT0 ?_
          try simp only [List.getElem_toArray, List.getElem_cons_zero, List.getElem_cons_succ, Act.put, List.setIfInBounds_toArray, List.set_cons_zero, List.set_cons_succ]
          refine wpAnyH_take (i := 2) (v := ?_) rfl (by kernel_rfl) (by kernel_rfl) (by kernel_rfl) (fun _ _ _ h => h) (Or.inl ⟨by rfl, ?_⟩) hT0 ?_
          rotate_left
          · intro w1 _; go_simp; with_reducible rfl
          try simp only [List.getElem_toArray, List.getElem_cons_zero, List.getElem_cons_succ, Act.put, List.setIfInBounds_toArray, List.set_cons_zero, List.set_cons_succ]
          refine wpAnyH_take (i := 3) (v := ?_) rfl (by kernel_rfl) (by kernel_rfl) (by kernel_rfl) (fun _ _ _ h => h) (Or.inl ⟨by rfl, ?_⟩) hT0 ?_
          rotate_left
          · intro w1 _; go_simp; with_reducible rfl
          try simp only [List.getElem_toArray, List.getElem_cons_zero, List.getElem_cons_succ, Act.put, List.setIfInBounds_toArray, List.set_cons_zero, List.set_cons_succ]
          refine wpAnyH_take (i := 4) (v := .agg #[.int .i64 s.prog, .int .i64 s.grade, .int .u64 (s.mask : Int)]) rfl (by kernel_rfl) (by kernel_rfl) (by kernel_rfl) (fun _ _ _ h => h) (Or.inl ⟨by rfl, fun w1 hS1 => by subst hS1; go_simp⟩) hT0 ?_
          try simp only [List.getElem_toArray, List.getElem_cons_zero, List.getElem_cons_succ, Act.put, List.setIfInBounds_toArray, List.set_cons_zero, List.set_cons_succ]
          refine wpAnyH_take (i := 5) (v := ?_) rfl (by kernel_rfl) (by kernel_rfl) (by kernel_rfl) (fun _ _ _ h => h) (Or.inl ⟨by rfl, ?_⟩) hT0 ?_
          rotate_left
          · intro w1 _; go_simp; with_reducible rfl
          try simp only [List.getElem_toArray, List.getElem_cons_zero, List.getElem_cons_succ, Act.put, List.setIfInBounds_toArray, List.set_cons_zero, List.set_cons_succ]
          refine wpAnyH_take (i := 6) (v := .slice (some ⟨b2, o2, none⟩) b.starts.length ds) rfl (by kernel_rfl) (by kernel_rfl) (by kernel_rfl) (fun _ _ _ h => h) (Or.inl ⟨by rfl, fun w1 hS1 => by subst hS1; go_simp⟩) hT0 ?_
          try simp only [List.getElem_toArray, List.getElem_cons_zero, List.getElem_cons_succ, Act.put, List.setIfInBounds_toArray, List.set_cons_zero, List.set_cons_succ]
          refine wpAnyH_take (i := 7) (v := ?_) rfl (by kernel_rfl) (by kernel_rfl) (by kernel_rfl) (fun _ _ _ h => h) (Or.inl ⟨by rfl, ?_⟩) hT0 ?_
          rotate_left
          · intro w1 _; go_simp; with_reducible rfl
          try simp only [List.getElem_toArray, List.getElem_cons_zero, List.getElem_cons_succ, Act.put, List.setIfInBounds_toArray, List.set_cons_zero, List.set_cons_succ]
          refine wpAnyH_take (i := 8) (v := ?_) rfl (by kernel_rfl) (by kernel_rfl) (by kernel_rfl) (fun _ _ _ h => h) (Or.inl ⟨by rfl, ?_⟩) hT0 ?_
          rotate_left
          · intro w1 _; go_simp; with_reducible rfl
          try simp only [List.getElem_toArray, List.getElem_cons_zero, List.getElem_cons_succ, Act.put, List.setIfInBounds_toArray, List.set_cons_zero, List.set_cons_succ]
          refine wpAnyH_take (i := 9) (v := .agg #[.int .i64 t.prog, .int .i64 t.grade, .int .u64 (t.mask : Int)]) rfl (by kernel_rfl) (by kernel_rfl) (by kernel_rfl) (fun _ _ _ h => h) (Or.inl ⟨by rfl, fun w1 hS1 => by subst hS1; go_simp⟩) hT0 ?_
          try simp only [List.getElem_toArray, List.getElem_cons_zero, List.getElem_cons_succ, Act.put, List.setIfInBounds_toArray, List.set_cons_zero, List.set_cons_succ]
          refine wpAnyH_take (i := 10) (v := .bool (!R)) rfl (by kernel_rfl) (by kernel_rfl) (by kernel_rfl) (fun _ _ _ h => h) (Or.inl ⟨by rfl, fun w1 hS1 => exec_neqS _ _ _ rfl s t rfl rfl R hR w1⟩) hT0 ?_
          try simp only [List.getElem_toArray, List.getElem_cons_zero, List.getElem_cons_succ, Act.put, List.setIfInBounds_toArray, List.set_cons_zero, List.set_cons_succ]
          refine wpAnyH_done (by kernel_rfl) ?_ _
          cases R
          · go_wp2
            go_ret
            have hne : s ≠ t := fun e => by rw [decide_eq_true e] at hR; cases hR
            have hz : R9 = false := by rw [Bool.eq_false_iff]; exact fun h => sameL_not hD9.out hE9.out hne (hR9.out.1 h).2
            exact ⟨ret_b9 hz.symm, hbd⟩
          · have hst := of_decide_eq_true hR
            have HG2 := Lib.hid ((sameL_at hD9.out hE9.out hg.out).2 hst)
            clear hst hR
            go_wp2
            go_roundw
            case rel => exact ⟨k + 1, by omega, by go_num, HG2, Lib.hid hD.out.drew, Lib.hid hE.out.drew, Lib.hid hA.out, Lib.hid hB.out, hbd⟩
            case measure => simp [intOf]; omega
        · obtain rfl : k = a.starts.length := by omega
          have hse : a.starts = b.starts := by have := hg.out; rwa [List.take_length, HL2.out, List.take_length] at this
          go_wp2
          go_ret
          have hz : R9 = true := hR9.out.2 ⟨HPE.out, hse⟩
          exact ⟨ret_b9 hz.symm, hb⟩

theorem RSameY_any (a b : Dut) (ha : a.ok) (hb : b.ok) (hsh : ∀ p ∈ a.progs, p.length ≤ 100000) (hmx : a.progs.length ≤ 100000) (hmx2 : a.starts.length ≤ 100000) (vp vs vp' vs' : Value) (G G' : Nat → Prop) (w : World) (h : DV w G vp vs a) (h' : DV w G' vp' vs' b) :
    Calls Tryz.prog 13 #[.agg (a.cells vp vs), .agg (b.cells vp' vs')] w fun e w' => (∃ r : Bool, e = .returned (.bool r) ∧ (r = true ↔ a = b)) ∧ Below w.heap.size w w' := by
  obtain ⟨pp, cp, rfl, _, _⟩ := h.progs.shape
  obtain ⟨ps, cs, rfl, _, _⟩ := h.starts.shape
  obtain ⟨qp, dp, rfl, _, _⟩ := h'.progs.shape
  obtain ⟨qs, ds, rfl, _, _⟩ := h'.starts.shape
  have hno : ∀ {e : Ending} {w' : World}, ¬ a = b → (e = .returned (.bool false) ∧ Below w.heap.size w w') → (∃ r : Bool, e = .returned (.bool r) ∧ (r = true ↔ a = b)) ∧ Below w.heap.size w w' := fun hn hh => ⟨⟨false, hh.1, by simp [hn]⟩, hh.2⟩
  cases hn : decide (numsY a = numsY b)
  case false => exact (RSameY_0 a b ha hb pp ps qp qs cp cs dp ds w hn).mono fun _ _ hh => hno (fun e => by subst e; simp at hn) hh
  case true =>
    by_cases hpl : a.progs.length = b.progs.length
    · by_cases hsl : a.starts.length = b.starts.length
      · obtain ⟨r, hr⟩ : ∃ r : Bool, r = true ↔ a.progs = b.progs ∧ a.starts = b.starts := by
          by_cases hc : a.progs = b.progs ∧ a.starts = b.starts
          · exact ⟨true, by simp [hc]⟩
          · exact ⟨false, by simp [hc]⟩
        refine (RSameY_3 a b ha hb pp ps qp qs cp cs dp ds w hn hpl hsl hsh hmx hmx2 G G' h h' r (Lib.hid hr)).mono ?_
        rintro e w' ⟨he, hbb⟩
        refine ⟨⟨r, he, ?_⟩, hbb⟩
        rw [hr, ← sameY_iff]
        have := (numsY_inj ha hb).1 (of_decide_eq_true hn)
        exact ⟨fun h => ⟨this, h.1, h.2⟩, fun h => ⟨h.2.1, h.2.2⟩⟩
      · exact (RSameY_2 a b ha hb pp ps qp qs cp cs dp ds w hn (by simp [hpl]) (by simp; omega)).mono fun _ _ hh => hno (fun e => hsl (by rw [e])) hh
    · exact (RSameY_1 a b ha hb pp ps qp qs cp cs dp ds w hn (by simp; omega)).mono fun _ _ hh => hno (fun e => hpl (by rw [e])) hh
end Go.Proofs.YtbdimfcdpkldpaaGreatDoor
