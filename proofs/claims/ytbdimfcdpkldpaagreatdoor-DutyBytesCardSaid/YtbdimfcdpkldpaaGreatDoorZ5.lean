/- A duty's numbers and a start's, as the program and its reference make them. -/
import Derived.Test.YtbdimfcdpkldpaaGreatDoorLZ1
namespace Go.Proofs.YtbdimfcdpkldpaaGreatDoor
open Go.RowKit

section
variable {P : Program}
/-- One result, a struct or an array in a cell of its own. -/
theorem results_row1 {fn : Func} {p : Tmp} {ty : TypeId} (h : fn.results = #[.cell p ty]) (tmps : Array Value) (w : World) (g : Nat) (t : TypeId) (cs : Array Value) (fr : Nat × Nat) (d : TypeDesc)
    (hp : tmps.getD p undef = .pointer (some ⟨g, 0, none⟩)) (hg : w.heap[g]? = some (.cells cs t fr))
    (hu : P.underlying ty = some d) (hd : (match d with | .struct _ | .array _ _ => true | _ => false) = true) (hi : (P.info? ty).map (·.size) = some cs.size) :
    (results fn tmps).run P w = .ok (.agg cs) w := by
  have e : (results fn tmps).run P w = ((asAddr (tmps.getD p undef)).run P w).andThen fun a w₁ => (loadVar ty a).run P w₁ := by
    simp only [results, h]
    simp [Sem.run_bind, Result.andThen]
  rw [e]
  simp only [hp, asAddr, Sem.run_pure, Result.andThen_ok, run_loadVar_row w g t ty cs fr d hg hu hd hi]
/-- Three results, the first a struct in a cell of its own. -/
theorem results_row_tmp2 {fn : Func} {p u v : Tmp} {ty : TypeId} (h : fn.results = #[.cell p ty, .tmp u, .tmp v]) (tmps : Array Value) (w : World) (g : Nat) (t : TypeId) (cs : Array Value) (fr : Nat × Nat) (d : TypeDesc)
    (hp : tmps.getD p undef = .pointer (some ⟨g, 0, none⟩)) (hg : w.heap[g]? = some (.cells cs t fr))
    (hu : P.underlying ty = some d) (hd : (match d with | .struct _ | .array _ _ => true | _ => false) = true) (hi : (P.info? ty).map (·.size) = some cs.size) :
    (results fn tmps).run P w = .ok (.tuple #[.agg cs, tmps.getD u undef, tmps.getD v undef]) w := by
  have e : (results fn tmps).run P w = ((asAddr (tmps.getD p undef)).run P w).andThen fun a w₁ => ((loadVar ty a).run P w₁).andThen fun x w₂ => .ok (.tuple #[x, tmps.getD u undef, tmps.getD v undef]) w₂ := by
    simp only [results, h]
    simp [Sem.run_bind, Result.andThen]
  rw [e]
  simp only [hp, asAddr, Sem.run_pure, Result.andThen_ok, run_loadVar_row w g t ty cs fr d hg hu hd hi]
end

/-- A duty's numbers as an array of seven. -/
def numsA (d : Dut) : Array Value := #[.int .u64 (wrapN d.cpus : Nat), .int .u64 (wrapN d.threads : Nat), .int .u64 (wrapN d.locks : Nat), .int .u64 (wrapN d.cap : Nat), .int .u64 (d.boost : Int), .int .u64 (d.keep : Int), .int .u64 (d.ratio : Int)]
theorem numsA_list (d : Dut) : (numsA d).toList = (numsY d).map uV := rfl
theorem size7 (d : Dut) : (Tryz.prog.info? 61).map (·.size) = some (numsA d).size := by kernel_rfl
theorem one7 (d : Dut) : (numsA d).all (·.oneCell') = true := by simp [numsA, Value.oneCell']
def zero7 : Array Value := #[.int .u64 0, .int .u64 0, .int .u64 0, .int .u64 0, .int .u64 0, .int .u64 0, .int .u64 0]
theorem zero7R : ∀ w, (zeroValue 61).run Tryz.prog w = .ok (.agg zero7) w := (zero_of_info (n := 7) (by kernel_rfl)).1

set_option maxRecDepth 100000 in
set_option maxHeartbeats 4000000 in
theorem RNumbers_any (d : Dut) (hd : d.ok) (pp ps : Option Addr) (np cp ns cs : Nat) (w : World) :
    Calls Tryz.prog 26 #[.agg (d.cells (.slice pp np cp) (.slice ps ns cs))] w fun e w' => e = .returned (.agg (numsA d)) ∧ Below w.heap.size w w' := by
  have e0 := Lib.hid (wrapN_eq d.cpus hd.cpus)
  have e1 := Lib.hid (wrapN_eq d.threads hd.threads)
  have e2 := Lib.hid (wrapN_eq d.locks hd.locks)
  have e3 := Lib.hid (wrapN_eq d.cap hd.cap)
  clear hd
  go_enter Tryz.func26, Tryz.ntmps26
  go_wp2_with (first
    | (refine wpList_box_agg rfl 27 _ rfl (d.cells (.slice pp np cp) (.slice ps ns cs)) rfl ?_)
    | (refine wpList_alloc_agg rfl 61 rfl zero7 zero7R ?_))
  simp only [World.size_alloc]
  have hB0 : Blk ((w.alloc (.cells (d.cells (.slice pp np cp) (.slice ps ns cs)) 27)).alloc (.cells zero7 61)) w.heap.size 27 (d.cells (.slice pp np cp) (.slice ps ns cs)) := (Blk.new w _ _).alloc _
  have hk0 : Blk ((w.alloc (.cells (d.cells (.slice pp np cp) (.slice ps ns cs)) 27)).alloc (.cells zero7 61)) (w.heap.size + 1) 61 zero7 := two_new w _ _ _
  have hb0 := below_alloc2 w (.cells (d.cells (.slice pp np cp) (.slice ps ns cs)) 27) (.cells zero7 61)
  obtain ⟨W, hW⟩ : ∃ W, W = (w.alloc (.cells (d.cells (.slice pp np cp) (.slice ps ns cs)) 27)).alloc (.cells zero7 61) := ⟨_, rfl⟩
  rw [← hW] at hB0 hk0 hb0 ⊢
  have hk : Blk W.drew (w.heap.size + 1) 61 zero7 := hk0
  have hb : Below w.heap.size w W.drew := hb0.drew
  clear hW hk0 hb0
  refine wp_region_held_drew (S := fun w' => Blk w' w.heap.size 27 (d.cells (.slice pp np cp) (.slice ps ns cs))) (by kernel_rfl) hB0 (fun hS0 => ?_)
  refine wpAnyH_take (i := 0) (v := ?_) rfl (by kernel_rfl) (by kernel_rfl) (by kernel_rfl) (fun _ _ _ h => h) (Or.inl ⟨by rfl, ?_⟩) hS0 ?_
  rotate_left
  · intro w1 _; go_simp; with_reducible rfl
  try simp only [List.getElem_toArray, List.getElem_cons_zero, Act.put, List.setIfInBounds_toArray, List.set_cons_zero, List.set_cons_succ]
  refine wpAnyH_take (i := 1) (v := .int .i64 d.cpus) rfl (by kernel_rfl) (by kernel_rfl) (by kernel_rfl) (fun _ _ _ h => h) (Or.inl ⟨by rfl, fun w1 hS1 => by have h0 : w1.cell? ⟨w.heap.size, 0, none⟩ = some (.int .i64 d.cpus) := Blk.cell (hS1 : Blk w1 w.heap.size 27 (d.cells (.slice pp np cp) (.slice ps ns cs))) 0; go_simp⟩) hS0 ?_
  try simp only [List.getElem_toArray, List.getElem_cons_zero, List.getElem_cons_succ, Act.put, List.setIfInBounds_toArray, List.set_cons_zero, List.set_cons_succ]
  refine wpAnyH_take (i := 2) (v := .int .u64 (wrapN d.cpus : Nat)) rfl (by kernel_rfl) (by kernel_rfl) (by kernel_rfl) (fun _ _ _ h => h) (Or.inl ⟨by rfl, fun w1 hS1 => by go_simp; rw [e0.out]⟩) hS0 ?_
  try simp only [List.getElem_toArray, List.getElem_cons_zero, List.getElem_cons_succ, Act.put, List.setIfInBounds_toArray, List.set_cons_zero, List.set_cons_succ]
  refine wpAnyH_take (i := 3) (v := ?_) rfl (by kernel_rfl) (by kernel_rfl) (by kernel_rfl) (fun _ _ _ h => h) (Or.inl ⟨by rfl, ?_⟩) hS0 ?_
  rotate_left
  · intro w1 _; go_simp; with_reducible rfl
  try simp only [List.getElem_toArray, List.getElem_cons_zero, List.getElem_cons_succ, Act.put, List.setIfInBounds_toArray, List.set_cons_zero, List.set_cons_succ]
  refine wpAnyH_take (i := 4) (v := .int .i64 d.threads) rfl (by kernel_rfl) (by kernel_rfl) (by kernel_rfl) (fun _ _ _ h => h) (Or.inl ⟨by rfl, fun w1 hS1 => by have h0 : w1.cell? ⟨w.heap.size, 1, none⟩ = some (.int .i64 d.threads) := Blk.cell (hS1 : Blk w1 w.heap.size 27 (d.cells (.slice pp np cp) (.slice ps ns cs))) 1; go_simp⟩) hS0 ?_
  try simp only [List.getElem_toArray, List.getElem_cons_zero, List.getElem_cons_succ, Act.put, List.setIfInBounds_toArray, List.set_cons_zero, List.set_cons_succ]
  refine wpAnyH_take (i := 5) (v := .int .u64 (wrapN d.threads : Nat)) rfl (by kernel_rfl) (by kernel_rfl) (by kernel_rfl) (fun _ _ _ h => h) (Or.inl ⟨by rfl, fun w1 hS1 => by go_simp; rw [e1.out]⟩) hS0 ?_
  try simp only [List.getElem_toArray, List.getElem_cons_zero, List.getElem_cons_succ, Act.put, List.setIfInBounds_toArray, List.set_cons_zero, List.set_cons_succ]
  refine wpAnyH_take (i := 6) (v := ?_) rfl (by kernel_rfl) (by kernel_rfl) (by kernel_rfl) (fun _ _ _ h => h) (Or.inl ⟨by rfl, ?_⟩) hS0 ?_
  rotate_left
  · intro w1 _; go_simp; with_reducible rfl
  try simp only [List.getElem_toArray, List.getElem_cons_zero, List.getElem_cons_succ, Act.put, List.setIfInBounds_toArray, List.set_cons_zero, List.set_cons_succ]
  refine wpAnyH_take (i := 7) (v := .int .i64 d.locks) rfl (by kernel_rfl) (by kernel_rfl) (by kernel_rfl) (fun _ _ _ h => h) (Or.inl ⟨by rfl, fun w1 hS1 => by have h0 : w1.cell? ⟨w.heap.size, 2, none⟩ = some (.int .i64 d.locks) := Blk.cell (hS1 : Blk w1 w.heap.size 27 (d.cells (.slice pp np cp) (.slice ps ns cs))) 2; go_simp⟩) hS0 ?_
  try simp only [List.getElem_toArray, List.getElem_cons_zero, List.getElem_cons_succ, Act.put, List.setIfInBounds_toArray, List.set_cons_zero, List.set_cons_succ]
  refine wpAnyH_take (i := 8) (v := .int .u64 (wrapN d.locks : Nat)) rfl (by kernel_rfl) (by kernel_rfl) (by kernel_rfl) (fun _ _ _ h => h) (Or.inl ⟨by rfl, fun w1 hS1 => by go_simp; rw [e2.out]⟩) hS0 ?_
  try simp only [List.getElem_toArray, List.getElem_cons_zero, List.getElem_cons_succ, Act.put, List.setIfInBounds_toArray, List.set_cons_zero, List.set_cons_succ]
  refine wpAnyH_take (i := 9) (v := ?_) rfl (by kernel_rfl) (by kernel_rfl) (by kernel_rfl) (fun _ _ _ h => h) (Or.inl ⟨by rfl, ?_⟩) hS0 ?_
  rotate_left
  · intro w1 _; go_simp; with_reducible rfl
  try simp only [List.getElem_toArray, List.getElem_cons_zero, List.getElem_cons_succ, Act.put, List.setIfInBounds_toArray, List.set_cons_zero, List.set_cons_succ]
  refine wpAnyH_take (i := 10) (v := .int .i64 d.cap) rfl (by kernel_rfl) (by kernel_rfl) (by kernel_rfl) (fun _ _ _ h => h) (Or.inl ⟨by rfl, fun w1 hS1 => by have h0 : w1.cell? ⟨w.heap.size, 3, none⟩ = some (.int .i64 d.cap) := Blk.cell (hS1 : Blk w1 w.heap.size 27 (d.cells (.slice pp np cp) (.slice ps ns cs))) 3; go_simp⟩) hS0 ?_
  try simp only [List.getElem_toArray, List.getElem_cons_zero, List.getElem_cons_succ, Act.put, List.setIfInBounds_toArray, List.set_cons_zero, List.set_cons_succ]
  refine wpAnyH_take (i := 11) (v := .int .u64 (wrapN d.cap : Nat)) rfl (by kernel_rfl) (by kernel_rfl) (by kernel_rfl) (fun _ _ _ h => h) (Or.inl ⟨by rfl, fun w1 hS1 => by go_simp; rw [e3.out]⟩) hS0 ?_
  try simp only [List.getElem_toArray, List.getElem_cons_zero, List.getElem_cons_succ, Act.put, List.setIfInBounds_toArray, List.set_cons_zero, List.set_cons_succ]
  refine wpAnyH_take (i := 12) (v := ?_) rfl (by kernel_rfl) (by kernel_rfl) (by kernel_rfl) (fun _ _ _ h => h) (Or.inl ⟨by rfl, ?_⟩) hS0 ?_
  rotate_left
  · intro w1 _; go_simp; with_reducible rfl
  try simp only [List.getElem_toArray, List.getElem_cons_zero, List.getElem_cons_succ, Act.put, List.setIfInBounds_toArray, List.set_cons_zero, List.set_cons_succ]
  refine wpAnyH_take (i := 13) (v := .int .u64 (d.boost : Int)) rfl (by kernel_rfl) (by kernel_rfl) (by kernel_rfl) (fun _ _ _ h => h) (Or.inl ⟨by rfl, fun w1 hS1 => by have h0 : w1.cell? ⟨w.heap.size, 4, none⟩ = some (.int .u64 (d.boost : Int)) := Blk.cell (hS1 : Blk w1 w.heap.size 27 (d.cells (.slice pp np cp) (.slice ps ns cs))) 4; go_simp⟩) hS0 ?_
  try simp only [List.getElem_toArray, List.getElem_cons_zero, List.getElem_cons_succ, Act.put, List.setIfInBounds_toArray, List.set_cons_zero, List.set_cons_succ]
  refine wpAnyH_take (i := 14) (v := ?_) rfl (by kernel_rfl) (by kernel_rfl) (by kernel_rfl) (fun _ _ _ h => h) (Or.inl ⟨by rfl, ?_⟩) hS0 ?_
  rotate_left
  · intro w1 _; go_simp; with_reducible rfl
  try simp only [List.getElem_toArray, List.getElem_cons_zero, List.getElem_cons_succ, Act.put, List.setIfInBounds_toArray, List.set_cons_zero, List.set_cons_succ]
  refine wpAnyH_take (i := 15) (v := .float .f64 d.keep) rfl (by kernel_rfl) (by kernel_rfl) (by kernel_rfl) (fun _ _ _ h => h) (Or.inl ⟨by rfl, fun w1 hS1 => by have h0 : w1.cell? ⟨w.heap.size, 5, none⟩ = some (.float .f64 d.keep) := Blk.cell (hS1 : Blk w1 w.heap.size 27 (d.cells (.slice pp np cp) (.slice ps ns cs))) 5; go_simp⟩) hS0 ?_
  try simp only [List.getElem_toArray, List.getElem_cons_zero, List.getElem_cons_succ, Act.put, List.setIfInBounds_toArray, List.set_cons_zero, List.set_cons_succ]
  refine wpAnyH_take (i := 16) (v := .int .u64 (d.keep : Int)) rfl (by kernel_rfl) (by kernel_rfl) (by kernel_rfl) (fun _ _ _ h => h) (Or.inl ⟨by rfl, fun w1 hS1 => by go_simp; rw [f64bits_run]⟩) hS0 ?_
  try simp only [List.getElem_toArray, List.getElem_cons_zero, List.getElem_cons_succ, Act.put, List.setIfInBounds_toArray, List.set_cons_zero, List.set_cons_succ]
  refine wpAnyH_take (i := 17) (v := ?_) rfl (by kernel_rfl) (by kernel_rfl) (by kernel_rfl) (fun _ _ _ h => h) (Or.inl ⟨by rfl, ?_⟩) hS0 ?_
  rotate_left
  · intro w1 _; go_simp; with_reducible rfl
  try simp only [List.getElem_toArray, List.getElem_cons_zero, List.getElem_cons_succ, Act.put, List.setIfInBounds_toArray, List.set_cons_zero, List.set_cons_succ]
  refine wpAnyH_take (i := 18) (v := .float .f64 d.ratio) rfl (by kernel_rfl) (by kernel_rfl) (by kernel_rfl) (fun _ _ _ h => h) (Or.inl ⟨by rfl, fun w1 hS1 => by have h0 : w1.cell? ⟨w.heap.size, 6, none⟩ = some (.float .f64 d.ratio) := Blk.cell (hS1 : Blk w1 w.heap.size 27 (d.cells (.slice pp np cp) (.slice ps ns cs))) 6; go_simp⟩) hS0 ?_
  try simp only [List.getElem_toArray, List.getElem_cons_zero, List.getElem_cons_succ, Act.put, List.setIfInBounds_toArray, List.set_cons_zero, List.set_cons_succ]
  refine wpAnyH_take (i := 19) (v := .int .u64 (d.ratio : Int)) rfl (by kernel_rfl) (by kernel_rfl) (by kernel_rfl) (fun _ _ _ h => h) (Or.inl ⟨by rfl, fun w1 hS1 => by go_simp; rw [f64bits_run]⟩) hS0 ?_
  try simp only [List.getElem_toArray, List.getElem_cons_zero, List.getElem_cons_succ, Act.put, List.setIfInBounds_toArray, List.set_cons_zero, List.set_cons_succ]
  refine wpAnyH_take (i := 20) (v := .agg (numsA d)) rfl (by kernel_rfl) (by kernel_rfl) (by kernel_rfl) (fun _ _ _ h => h) (Or.inl ⟨by rfl, fun w1 hS1 => by go_simp; rfl⟩) hS0 ?_
  try simp only [List.getElem_toArray, List.getElem_cons_zero, List.getElem_cons_succ, Act.put, List.setIfInBounds_toArray, List.set_cons_zero, List.set_cons_succ]
  refine wpAnyH_ready (rs := [21]) (by kernel_rfl) (by simp) ?_
  refine AllReadyH.cons rfl (fun K hK => ?_) AllReadyH.nil
  refine step_store_row rfl 61 _ _ rfl (w.heap.size + 1) (numsA d) rfl rfl 61 zero7 hk (size7 d) rfl (one7 d) ?_
  have hk2 := hk.row (numsA d)
  refine hK.out _ _ (Blk.foot hS0 (foot_setRow _ _ _) (by omega)) (fun hS1 => ?_); clear hK K
  refine wpAnyH_done (by kernel_rfl) ?_ _
  go_wp2
  refine bodyPost_ret (results_row1 rfl _ _ (w.heap.size + 1) 61 (numsA d) (0, 0) _ rfl hk2 Tryz.underlying61 rfl (size7 d)) rfl ?_
  exact ⟨rfl, hb.trans (foot_row _ (by omega))⟩

set_option maxRecDepth 100000 in
set_option maxHeartbeats 4000000 in
theorem HeadOf_any (d : Dut) (hd : d.ok) (pp ps : Option Addr) (np cp ns cs : Nat) (w : World) :
    Calls Tryz.prog 22 #[.agg (d.cells (.slice pp np cp) (.slice ps ns cs))] w fun e w' => (∃ g, e = .returned (.slice (some ⟨g, 0, none⟩) 7 7) ∧ Blk w' g 22 (numsA d) ∧ w.heap.size ≤ g) ∧ Below w.heap.size w w' := by
  have e0 := Lib.hid (wrapN_eq d.cpus hd.cpus)
  have e1 := Lib.hid (wrapN_eq d.threads hd.threads)
  have e2 := Lib.hid (wrapN_eq d.locks hd.locks)
  have e3 := Lib.hid (wrapN_eq d.cap hd.cap)
  clear hd
  go_enter Tryz.func22, Tryz.ntmps22
  go_wp2_with (first
    | (refine wpList_box_agg rfl 27 _ rfl (d.cells (.slice pp np cp) (.slice ps ns cs)) rfl ?_)
    | (refine wpList_alloc_agg rfl 61 rfl zero7 zero7R ?_))
  have hB0 := Blk.new w 27 (d.cells (.slice pp np cp) (.slice ps ns cs))
  have hb0 := below_alloc1 w (.cells (d.cells (.slice pp np cp) (.slice ps ns cs)) 27)
  obtain ⟨W, hW⟩ : ∃ W, W = w.alloc (.cells (d.cells (.slice pp np cp) (.slice ps ns cs)) 27) := ⟨_, rfl⟩
  rw [← hW] at hB0 hb0 ⊢
  have hb : Below w.heap.size w W.drew := hb0.drew
  clear hW hb0
  refine wp_region_held_drew (S := fun w' => Blk w' w.heap.size 27 (d.cells (.slice pp np cp) (.slice ps ns cs))) (by kernel_rfl) hB0 (fun hS0 => ?_)
  refine wpAnyH_take (i := 0) (v := ?_) rfl (by kernel_rfl) (by kernel_rfl) (by kernel_rfl) (fun _ _ _ h => h) (Or.inl ⟨by rfl, ?_⟩) hS0 ?_
  rotate_left
  · intro w1 _; go_simp; with_reducible rfl
  try simp only [List.getElem_toArray, List.getElem_cons_zero, Act.put, List.setIfInBounds_toArray, List.set_cons_zero, List.set_cons_succ]
  refine wpAnyH_take (i := 1) (v := .int .i64 d.cpus) rfl (by kernel_rfl) (by kernel_rfl) (by kernel_rfl) (fun _ _ _ h => h) (Or.inl ⟨by rfl, fun w1 hS1 => by have h0 : w1.cell? ⟨w.heap.size, 0, none⟩ = some (.int .i64 d.cpus) := Blk.cell (hS1 : Blk w1 w.heap.size 27 (d.cells (.slice pp np cp) (.slice ps ns cs))) 0; go_simp⟩) hS0 ?_
  try simp only [List.getElem_toArray, List.getElem_cons_zero, List.getElem_cons_succ, Act.put, List.setIfInBounds_toArray, List.set_cons_zero, List.set_cons_succ]
  refine wpAnyH_take (i := 2) (v := .int .u64 (wrapN d.cpus : Nat)) rfl (by kernel_rfl) (by kernel_rfl) (by kernel_rfl) (fun _ _ _ h => h) (Or.inl ⟨by rfl, fun w1 hS1 => by go_simp; rw [e0.out]⟩) hS0 ?_
  try simp only [List.getElem_toArray, List.getElem_cons_zero, List.getElem_cons_succ, Act.put, List.setIfInBounds_toArray, List.set_cons_zero, List.set_cons_succ]
  refine wpAnyH_take (i := 3) (v := ?_) rfl (by kernel_rfl) (by kernel_rfl) (by kernel_rfl) (fun _ _ _ h => h) (Or.inl ⟨by rfl, ?_⟩) hS0 ?_
  rotate_left
  · intro w1 _; go_simp; with_reducible rfl
  try simp only [List.getElem_toArray, List.getElem_cons_zero, List.getElem_cons_succ, Act.put, List.setIfInBounds_toArray, List.set_cons_zero, List.set_cons_succ]
  refine wpAnyH_take (i := 4) (v := .int .i64 d.threads) rfl (by kernel_rfl) (by kernel_rfl) (by kernel_rfl) (fun _ _ _ h => h) (Or.inl ⟨by rfl, fun w1 hS1 => by have h0 : w1.cell? ⟨w.heap.size, 1, none⟩ = some (.int .i64 d.threads) := Blk.cell (hS1 : Blk w1 w.heap.size 27 (d.cells (.slice pp np cp) (.slice ps ns cs))) 1; go_simp⟩) hS0 ?_
  try simp only [List.getElem_toArray, List.getElem_cons_zero, List.getElem_cons_succ, Act.put, List.setIfInBounds_toArray, List.set_cons_zero, List.set_cons_succ]
  refine wpAnyH_take (i := 5) (v := .int .u64 (wrapN d.threads : Nat)) rfl (by kernel_rfl) (by kernel_rfl) (by kernel_rfl) (fun _ _ _ h => h) (Or.inl ⟨by rfl, fun w1 hS1 => by go_simp; rw [e1.out]⟩) hS0 ?_
  try simp only [List.getElem_toArray, List.getElem_cons_zero, List.getElem_cons_succ, Act.put, List.setIfInBounds_toArray, List.set_cons_zero, List.set_cons_succ]
  refine wpAnyH_take (i := 6) (v := ?_) rfl (by kernel_rfl) (by kernel_rfl) (by kernel_rfl) (fun _ _ _ h => h) (Or.inl ⟨by rfl, ?_⟩) hS0 ?_
  rotate_left
  · intro w1 _; go_simp; with_reducible rfl
  try simp only [List.getElem_toArray, List.getElem_cons_zero, List.getElem_cons_succ, Act.put, List.setIfInBounds_toArray, List.set_cons_zero, List.set_cons_succ]
  refine wpAnyH_take (i := 7) (v := .int .i64 d.locks) rfl (by kernel_rfl) (by kernel_rfl) (by kernel_rfl) (fun _ _ _ h => h) (Or.inl ⟨by rfl, fun w1 hS1 => by have h0 : w1.cell? ⟨w.heap.size, 2, none⟩ = some (.int .i64 d.locks) := Blk.cell (hS1 : Blk w1 w.heap.size 27 (d.cells (.slice pp np cp) (.slice ps ns cs))) 2; go_simp⟩) hS0 ?_
  try simp only [List.getElem_toArray, List.getElem_cons_zero, List.getElem_cons_succ, Act.put, List.setIfInBounds_toArray, List.set_cons_zero, List.set_cons_succ]
  refine wpAnyH_take (i := 8) (v := .int .u64 (wrapN d.locks : Nat)) rfl (by kernel_rfl) (by kernel_rfl) (by kernel_rfl) (fun _ _ _ h => h) (Or.inl ⟨by rfl, fun w1 hS1 => by go_simp; rw [e2.out]⟩) hS0 ?_
  try simp only [List.getElem_toArray, List.getElem_cons_zero, List.getElem_cons_succ, Act.put, List.setIfInBounds_toArray, List.set_cons_zero, List.set_cons_succ]
  refine wpAnyH_take (i := 9) (v := ?_) rfl (by kernel_rfl) (by kernel_rfl) (by kernel_rfl) (fun _ _ _ h => h) (Or.inl ⟨by rfl, ?_⟩) hS0 ?_
  rotate_left
  · intro w1 _; go_simp; with_reducible rfl
  try simp only [List.getElem_toArray, List.getElem_cons_zero, List.getElem_cons_succ, Act.put, List.setIfInBounds_toArray, List.set_cons_zero, List.set_cons_succ]
  refine wpAnyH_take (i := 10) (v := .int .i64 d.cap) rfl (by kernel_rfl) (by kernel_rfl) (by kernel_rfl) (fun _ _ _ h => h) (Or.inl ⟨by rfl, fun w1 hS1 => by have h0 : w1.cell? ⟨w.heap.size, 3, none⟩ = some (.int .i64 d.cap) := Blk.cell (hS1 : Blk w1 w.heap.size 27 (d.cells (.slice pp np cp) (.slice ps ns cs))) 3; go_simp⟩) hS0 ?_
  try simp only [List.getElem_toArray, List.getElem_cons_zero, List.getElem_cons_succ, Act.put, List.setIfInBounds_toArray, List.set_cons_zero, List.set_cons_succ]
  refine wpAnyH_take (i := 11) (v := .int .u64 (wrapN d.cap : Nat)) rfl (by kernel_rfl) (by kernel_rfl) (by kernel_rfl) (fun _ _ _ h => h) (Or.inl ⟨by rfl, fun w1 hS1 => by go_simp; rw [e3.out]⟩) hS0 ?_
  try simp only [List.getElem_toArray, List.getElem_cons_zero, List.getElem_cons_succ, Act.put, List.setIfInBounds_toArray, List.set_cons_zero, List.set_cons_succ]
  refine wpAnyH_take (i := 12) (v := ?_) rfl (by kernel_rfl) (by kernel_rfl) (by kernel_rfl) (fun _ _ _ h => h) (Or.inl ⟨by rfl, ?_⟩) hS0 ?_
  rotate_left
  · intro w1 _; go_simp; with_reducible rfl
  try simp only [List.getElem_toArray, List.getElem_cons_zero, List.getElem_cons_succ, Act.put, List.setIfInBounds_toArray, List.set_cons_zero, List.set_cons_succ]
  refine wpAnyH_take (i := 13) (v := .int .u64 (d.boost : Int)) rfl (by kernel_rfl) (by kernel_rfl) (by kernel_rfl) (fun _ _ _ h => h) (Or.inl ⟨by rfl, fun w1 hS1 => by have h0 : w1.cell? ⟨w.heap.size, 4, none⟩ = some (.int .u64 (d.boost : Int)) := Blk.cell (hS1 : Blk w1 w.heap.size 27 (d.cells (.slice pp np cp) (.slice ps ns cs))) 4; go_simp⟩) hS0 ?_
  try simp only [List.getElem_toArray, List.getElem_cons_zero, List.getElem_cons_succ, Act.put, List.setIfInBounds_toArray, List.set_cons_zero, List.set_cons_succ]
  refine wpAnyH_take (i := 14) (v := ?_) rfl (by kernel_rfl) (by kernel_rfl) (by kernel_rfl) (fun _ _ _ h => h) (Or.inl ⟨by rfl, ?_⟩) hS0 ?_
  rotate_left
  · intro w1 _; go_simp; with_reducible rfl
  try simp only [List.getElem_toArray, List.getElem_cons_zero, List.getElem_cons_succ, Act.put, List.setIfInBounds_toArray, List.set_cons_zero, List.set_cons_succ]
  refine wpAnyH_take (i := 15) (v := .float .f64 d.keep) rfl (by kernel_rfl) (by kernel_rfl) (by kernel_rfl) (fun _ _ _ h => h) (Or.inl ⟨by rfl, fun w1 hS1 => by have h0 : w1.cell? ⟨w.heap.size, 5, none⟩ = some (.float .f64 d.keep) := Blk.cell (hS1 : Blk w1 w.heap.size 27 (d.cells (.slice pp np cp) (.slice ps ns cs))) 5; go_simp⟩) hS0 ?_
  try simp only [List.getElem_toArray, List.getElem_cons_zero, List.getElem_cons_succ, Act.put, List.setIfInBounds_toArray, List.set_cons_zero, List.set_cons_succ]
  refine wpAnyH_take (i := 16) (v := .int .u64 (d.keep : Int)) rfl (by kernel_rfl) (by kernel_rfl) (by kernel_rfl) (fun _ _ _ h => h) (Or.inl ⟨by rfl, fun w1 hS1 => by go_simp; rw [f64bits_run]⟩) hS0 ?_
  try simp only [List.getElem_toArray, List.getElem_cons_zero, List.getElem_cons_succ, Act.put, List.setIfInBounds_toArray, List.set_cons_zero, List.set_cons_succ]
  refine wpAnyH_take (i := 17) (v := ?_) rfl (by kernel_rfl) (by kernel_rfl) (by kernel_rfl) (fun _ _ _ h => h) (Or.inl ⟨by rfl, ?_⟩) hS0 ?_
  rotate_left
  · intro w1 _; go_simp; with_reducible rfl
  try simp only [List.getElem_toArray, List.getElem_cons_zero, List.getElem_cons_succ, Act.put, List.setIfInBounds_toArray, List.set_cons_zero, List.set_cons_succ]
  refine wpAnyH_take (i := 18) (v := .float .f64 d.ratio) rfl (by kernel_rfl) (by kernel_rfl) (by kernel_rfl) (fun _ _ _ h => h) (Or.inl ⟨by rfl, fun w1 hS1 => by have h0 : w1.cell? ⟨w.heap.size, 6, none⟩ = some (.float .f64 d.ratio) := Blk.cell (hS1 : Blk w1 w.heap.size 27 (d.cells (.slice pp np cp) (.slice ps ns cs))) 6; go_simp⟩) hS0 ?_
  try simp only [List.getElem_toArray, List.getElem_cons_zero, List.getElem_cons_succ, Act.put, List.setIfInBounds_toArray, List.set_cons_zero, List.set_cons_succ]
  refine wpAnyH_take (i := 19) (v := .int .u64 (d.ratio : Int)) rfl (by kernel_rfl) (by kernel_rfl) (by kernel_rfl) (fun _ _ _ h => h) (Or.inl ⟨by rfl, fun w1 hS1 => by go_simp; rw [f64bits_run]⟩) hS0 ?_
  try simp only [List.getElem_toArray, List.getElem_cons_zero, List.getElem_cons_succ, Act.put, List.setIfInBounds_toArray, List.set_cons_zero, List.set_cons_succ]
  refine wpAnyH_ready (rs := [20]) (by kernel_rfl) (by simp) ?_
  refine AllReadyH.cons rfl (fun K hK => ?_) AllReadyH.nil
  go_simp
  refine hK.out _ _ (Blk.alloc hS0 _) (fun hS1 => ?_); clear hK K
  refine wpAnyH_take (i := 21) (v := ?_) rfl (by kernel_rfl) (by kernel_rfl) (by kernel_rfl) (fun _ _ _ h => h) (Or.inl ⟨by rfl, ?_⟩) hS1 ?_
  rotate_left
  · intro w1 _; go_simp; with_reducible rfl
  try simp only [List.getElem_toArray, List.getElem_cons_zero, List.getElem_cons_succ, Act.put, List.setIfInBounds_toArray, List.set_cons_zero, List.set_cons_succ]
  refine wpAnyH_done (by kernel_rfl) ?_ _
  go_wp2
  go_ret
  refine ⟨⟨W.heap.size, rfl, ?_, ?_⟩, hb.alloc hb.size _⟩
  · exact Blk.new W.drew 22 (numsA d)
  · exact hb.size

set_option maxHeartbeats 2000000 in
theorem StartOf_any (s : St) (hs : s.ok) (w : World) :
    Calls Tryz.prog 24 #[.agg #[.int .i64 s.prog, .int .i64 s.grade, .int .u64 (s.mask : Int)]] w fun e w' => (∃ g, e = .returned (.slice (some ⟨g, 0, none⟩) 3 3) ∧ Blk w' g 22 #[uV (wrapN s.prog), uV (wrapN s.grade), uV s.mask] ∧ w.heap.size ≤ g) ∧ Below w.heap.size w w' := by
  have e0 := Lib.hid (wrapN_eq s.prog hs.prog)
  have e1 := Lib.hid (wrapN_eq s.grade hs.grade)
  clear hs
  unfold uV
  go_enter Tryz.func24, Tryz.ntmps24
  go_wp2_with (first | rw [e0.out] | rw [e1.out])
  go_ret
  refine ⟨⟨w.heap.size + 1, by simp, ?_, by omega⟩, below_alloc2 _ _ _⟩
  exact two_new w _ _ _
end Go.Proofs.YtbdimfcdpkldpaaGreatDoor
