/- The contract of the reference's Same of programs. The contract of the reference's Same of duties. How much of a duty is looked at, and the page's example. -/
import Derived.Test.YtbdimfcdpkldpaaGreatDoorQ1
import Derived.Test.YtbdimfcdpkldpaaGreatDoorLD1
import Derived.Deep.QuietTactic
import Derived.BigQuiet
import Derived.Test.YtbdimfcdpkldpaaGreatDoorZ5
import Derived.ChangeKeysEq
import Derived.Test.YtbdimfcdpkldpaaGreatDoorZ8
import Derived.Test.YtbdimfcdpkldpaaGreatDoorLY1
namespace Go.Proofs.YtbdimfcdpkldpaaGreatDoor
open Go.RowKit

/-- Are two programs the same? -/
def sameP : List Deed → List Deed → Bool
  | [], [] => true
  | d :: ps, e :: qs => eqD d e && sameP ps qs
  | _, _ => false
theorem sameP_iff : ∀ ps qs : List Deed, sameP ps qs = true ↔ ps = qs
  | [], [] => by simp [sameP]
  | d :: ps, e :: qs => by simp [sameP, sameP_iff ps qs, eqD_iff]
  | [], _ :: _ => by simp [sameP]
  | _ :: _, [] => by simp [sameP]
theorem same_step {ps qs : List Deed} {k : Nat} {d e : Deed} (hd : ps[k]? = some d) (he : qs[k]? = some e) (h : ps.take k = qs.take k) (hde : d = e) : ps.take (k + 1) = qs.take (k + 1) := by
  rw [List.take_add_one, List.take_add_one, hd, he, h, hde]
theorem same_not {ps qs : List Deed} {k : Nat} {d e : Deed} (hd : ps[k]? = some d) (he : qs[k]? = some e) (hde : ¬ d = e) : sameP ps qs = false := by
  rw [Bool.eq_false_iff]
  intro hs
  obtain rfl := (sameP_iff _ _).1 hs
  rw [hd] at he
  exact hde (Option.some.inj he)

set_option maxRecDepth 100000 in
set_option maxHeartbeats 4000000 in
theorem Same_any (p p' : Option Addr) (c c' : Nat) (ps qs : List Deed) (hpl : ps.length ≤ 100000) (G G' : Nat → Prop) (w : World) (h : RP w G (.slice p ps.length c) ps) (h' : RP w G' (.slice p' qs.length c') qs) :
    Calls Tryz.prog 38 #[.slice p ps.length c, .slice p' qs.length c'] w fun e w' => e = .returned (.bool (sameP ps qs)) ∧ Below w.heap.size w w' := by
  by_cases hl : ps.length = qs.length
  · obtain ⟨R, hR⟩ : ∃ R, sameP ps qs = R := ⟨_, rfl⟩
    rw [hR]
    have HR := Lib.hid hR
    have ht : ((ps.length : Int) != (qs.length : Int)) = false := by simp [hl]
    have HL := Lib.hid hl
    have H := Lib.hid h
    have H' := Lib.hid h'
    clear h h' hl hR
    go_enter Tryz.func38, Tryz.ntmps38
    go_wp2
    go_loopw [5] (fun t wr => ∃ k : Nat, k ≤ ps.length ∧ t = .int .i64 k ∧ Hid (ps.take k = qs.take k) ∧ Hid (RP wr G (.slice p ps.length c) ps) ∧ Hid (RP wr G' (.slice p' qs.length c') qs) ∧ Below w.heap.size w wr) (fun t _ => ps.length - (intOf t).toNat)
    case atStart => exact ⟨0, by omega, rfl, Lib.hid (by simp), H, H', Below.refl _ _⟩
    case round =>
      obtain ⟨k, hk, rfl, hE, hP, hQ, hb⟩ := hrel
      clear H H'
      by_cases hlt : k < ps.length
      · have hlt' : k < qs.length := by have := HL.out; omega
        obtain ⟨d, hd⟩ : ∃ d, ps[k]? = some d := ⟨_, List.getElem?_eq_getElem hlt⟩
        obtain ⟨e, he⟩ : ∃ e, qs[k]? = some e := ⟨_, List.getElem?_eq_getElem hlt'⟩
        obtain ⟨b, off, rfl, _, _, hra, _⟩ := hP.out.at hd
        obtain ⟨b', off', rfl, _, _, hra', _⟩ := hQ.out.at he
        have a0 : wr.cell? ⟨b, off + k * 7, none⟩ = some (.int .i64 d.op) := hra 0 _ rfl
        have a1 : wr.cell? ⟨b, off + k * 7 + 1, none⟩ = some (.int .i64 d.a) := hra 1 _ rfl
        have a2 : wr.cell? ⟨b, off + k * 7 + 2, none⟩ = some (.int .i64 d.b) := hra 2 _ rfl
        have a3 : wr.cell? ⟨b, off + k * 7 + 3, none⟩ = some (.int .i64 d.r) := hra 3 _ rfl
        have a4 : wr.cell? ⟨b, off + k * 7 + 4, none⟩ = some (.int .u64 (d.n : Int)) := hra 4 _ rfl
        have a5 : wr.cell? ⟨b, off + k * 7 + 5, none⟩ = some (.int .u64 (d.mask : Int)) := hra 5 _ rfl
        have a6 : wr.cell? ⟨b, off + k * 7 + 6, none⟩ = some (.bool d.loose) := hra 6 _ rfl
        have c0 : wr.cell? ⟨b', off' + k * 7, none⟩ = some (.int .i64 e.op) := hra' 0 _ rfl
        have c1 : wr.cell? ⟨b', off' + k * 7 + 1, none⟩ = some (.int .i64 e.a) := hra' 1 _ rfl
        have c2 : wr.cell? ⟨b', off' + k * 7 + 2, none⟩ = some (.int .i64 e.b) := hra' 2 _ rfl
        have c3 : wr.cell? ⟨b', off' + k * 7 + 3, none⟩ = some (.int .i64 e.r) := hra' 3 _ rfl
        have c4 : wr.cell? ⟨b', off' + k * 7 + 4, none⟩ = some (.int .u64 (e.n : Int)) := hra' 4 _ rfl
        have c5 : wr.cell? ⟨b', off' + k * 7 + 5, none⟩ = some (.int .u64 (e.mask : Int)) := hra' 5 _ rfl
        have c6 : wr.cell? ⟨b', off' + k * 7 + 6, none⟩ = some (.bool e.loose) := hra' 6 _ rfl
        have q3 := neq_run d e
        simp only [Deed.cells] at q3
        by_cases hde : d = e
        · have HX := Lib.hid (same_step hd he hE.out hde)
          rw [(eqD_iff d e).2 hde] at q3
          clear hd he hde hra hra' hE
          go_wp2_with fail
          go_quiet (fail)
          go_wp2
          go_roundw
          case rel => exact ⟨k + 1, by omega, by go_num, HX, Lib.hid (hP.out.drewN _), Lib.hid (hQ.out.drewN _), Below.drewN' hb _⟩
          case measure => simp [intOf]; omega
        · have HX := Lib.hid (same_not hd he hde)
          rw [show eqD d e = false by rw [Bool.eq_false_iff]; exact fun h => hde ((eqD_iff d e).1 h)] at q3
          clear hd he hde hra hra' hE
          go_wp2_with fail
          go_quiet (fail)
          go_wp2
          go_ret
          exact ⟨by rw [← HR.out, HX.out]; rfl, Below.drewN' hb _⟩
      · obtain rfl : k = ps.length := by omega
        have hx := hE.out
        rw [List.take_length, HL.out, List.take_length] at hx
        have hr : R = true := by rw [← HR.out]; exact (sameP_iff _ _).2 hx
        subst hr
        clear hx
        go_wp2
        go_ret
        exact ⟨rfl, hb⟩
  · have hr : sameP ps qs = false := by
      rw [Bool.eq_false_iff]
      intro hs
      exact hl (congrArg List.length ((sameP_iff _ _).1 hs))
    rw [hr]
    have ht : ((ps.length : Int) != (qs.length : Int)) = true := by simp; omega
    clear hl h h' hr
    go_enter Tryz.func38, Tryz.ntmps38
    go_wp2
    go_ret
    exact ⟨rfl, Below.refl _ _⟩
end Go.Proofs.YtbdimfcdpkldpaaGreatDoor

namespace Go.Proofs.YtbdimfcdpkldpaaGreatDoor
open Go.RowKit

theorem keyLits_u64 (a : Nat) (h : a < 18446744073709551616) : Tryz.prog.keyLits 10 22 [uV a] = some [.int .u64 a] := by
  unfold Program.keyLits uV
  rw [Tryz.underlying22]
  simp only
  rw [if_pos]
  refine ⟨trivial, ?_⟩
  simp [Lit.wf, show IntKind.u64.min = 0 from rfl, show IntKind.u64.max = 18446744073709551615 from rfl]
  omega
theorem neq7_run (a b c d e f g a' b' c' d' e' f' g' : Nat) (h : ∀ x ∈ [a, b, c, d, e, f, g], x < 18446744073709551616) (h' : ∀ x ∈ [a', b', c', d', e', f', g'], x < 18446744073709551616) (w : World) :
    (binOp .neq 61 (.agg #[uV a, uV b, uV c, uV d, uV e, uV f, uV g]) (.agg #[uV a', uV b', uV c', uV d', uV e', uV f', uV g'])).run Tryz.prog w = .ok (.bool (!decide ([a, b, c, d, e, f, g] = [a', b', c', d', e', f', g']))) w := by
  obtain ⟨i, hi, _, hs, _⟩ := info_parts (show (Tryz.prog.info? 22).map (fun i => (i.zero, i.size, i.bytes)) = some (some (.int .u64 0), 1, 8) by kernel_rfl)
  have hc : Tryz.prog.cellsOf 22 = 1 := by kernel_rfl
  have key : ∀ a b c d e f g : Nat, (∀ x ∈ [a, b, c, d, e, f, g], x < 18446744073709551616) → (List.range 7).mapM (fun i => Tryz.prog.keyLits 10 22 (((#[uV a, uV b, uV c, uV d, uV e, uV f, uV g] : Array Value).toList.drop (i * Tryz.prog.cellsOf 22)).take (Tryz.prog.cellsOf 22))) = some [[.int .u64 a], [.int .u64 b], [.int .u64 c], [.int .u64 d], [.int .u64 e], [.int .u64 f], [.int .u64 g]] := by
    intro a b c d e f g h
    rw [hc, show List.range 7 = [0, 1, 2, 3, 4, 5, 6] from rfl]
    simp [List.mapM_cons, keyLits_u64 a (h a (by simp)), keyLits_u64 b (h b (by simp)), keyLits_u64 c (h c (by simp)), keyLits_u64 d (h d (by simp)), keyLits_u64 e (h e (by simp)), keyLits_u64 f (h f (by simp)), keyLits_u64 g (h g (by simp))]
  obtain ⟨r, hr, hiff⟩ := run_eqItems_plain (P := Tryz.prog) w 9998 (e := 22) (by kernel_rfl) #[uV a, uV b, uV c, uV d, uV e, uV f, uV g] #[uV a', uV b', uV c', uV d', uV e', uV f', uV g'] (D := 10) (D' := 10) (List.range 7) _ _ (key _ _ _ _ _ _ _ h) (key _ _ _ _ _ _ _ h')
  have h2 := run_equalIn_array (P := Tryz.prog) w 9999 (t := 61) (e := 22) (n := 7) #[uV a, uV b, uV c, uV d, uV e, uV f, uV g] #[uV a', uV b', uV c', uV d', uV e', uV f', uV g'] Tryz.underlying61 hi
  rw [hr] at h2
  have h3 : (Op.equalIn 10000 61 (.agg #[uV a, uV b, uV c, uV d, uV e, uV f, uV g]) (.agg #[uV a', uV b', uV c', uV d', uV e', uV f', uV g'])).run Tryz.prog w = .ok r w := h2
  have h4 : r = decide ([a, b, c, d, e, f, g] = [a', b', c', d', e', f', g']) := by
    rw [Bool.eq_iff_iff, hiff, decide_eq_true_eq]
    simp
    omega
  rw [run_neq_struct, h3, h4]
  rfl
theorem exec_neq7 {o : Oper} {ρ : Operand → Value} (x y : Operand) (t' : TypeId) (ho : o.op = .binOp .neq 61 x y t') (a b : Dut) (ha : a.ok) (hb : b.ok) (hx : ρ x = .agg (numsA a)) (hy : ρ y = .agg (numsA b)) (r : Bool) (hr : decide (numsY a = numsY b) = r) (w : World) :
    (execOp ρ o).run Tryz.prog w = .ok (.value (.bool (!r))) w := by
  unfold execOp
  have h := neq7_run _ _ _ _ _ _ _ _ _ _ _ _ _ _ (numsY_lt ha) (numsY_lt hb) w
  have e : ∀ d : Dut, numsA d = #[uV (wrapN d.cpus), uV (wrapN d.threads), uV (wrapN d.locks), uV (wrapN d.cap), uV d.boost, uV d.keep, uV d.ratio] := fun _ => rfl
  have e2 : ∀ d : Dut, numsY d = [wrapN d.cpus, wrapN d.threads, wrapN d.locks, wrapN d.cap, d.boost, d.keep, d.ratio] := fun _ => rfl
  rw [← e2, ← e2, hr] at h
  rw [e] at hx hy
  simp only [ho, hx, hy, Sem.run_bind, run_eqGuard_agg (P := Tryz.prog) w .neq 61 x y _ _ (by kernel_rfl), Result.andThen_ok, h, Sem.run_pure]
theorem neqS_run (s t : St) (w : World) : (binOp .neq 58 (.agg #[.int .i64 s.prog, .int .i64 s.grade, .int .u64 (s.mask : Int)]) (.agg #[.int .i64 t.prog, .int .i64 t.grade, .int .u64 (t.mask : Int)])).run Tryz.prog w = .ok (.bool (!decide (s = t))) w := by
  have e : decide (s = t) = (s.prog == t.prog && s.grade == t.grade && (s.mask : Int) == (t.mask : Int)) := by
    rw [Bool.eq_iff_iff]
    cases s; cases t
    simp
    omega
  rw [e]
  go_simp
  (repeat' split) <;> simp_all
theorem exec_neqS {o : Oper} {ρ : Operand → Value} (x y : Operand) (t' : TypeId) (ho : o.op = .binOp .neq 58 x y t') (s t : St) (hx : ρ x = .agg #[.int .i64 s.prog, .int .i64 s.grade, .int .u64 (s.mask : Int)]) (hy : ρ y = .agg #[.int .i64 t.prog, .int .i64 t.grade, .int .u64 (t.mask : Int)]) (r : Bool) (hr : decide (s = t) = r) (w : World) :
    (execOp ρ o).run Tryz.prog w = .ok (.value (.bool (!r))) w := by
  unfold execOp
  simp only [ho, hx, hy, Sem.run_bind, run_eqGuard_agg (P := Tryz.prog) w .neq 58 x y _ _ (by kernel_rfl), Result.andThen_ok, neqS_run, Sem.run_pure, hr]
theorem RV.G_lt {w : World} {G : Nat → Prop} {v : Value} {n sz : Nat} {xs : List Value} (h : RV w G v n sz xs) : RV w (fun k => k < w.heap.size) v n sz xs := RV.mono h fun _ hk _ => hk


set_option maxRecDepth 100000 in
set_option maxHeartbeats 4000000 in
theorem RSameY_0 (a b : Dut) (ha : a.ok) (hb : b.ok) (pp ps qp qs : Option Addr) (cp cs dp ds : Nat) (w : World) (hn : decide (numsY a = numsY b) = false) :
    Calls Tryz.prog 13 #[.agg (a.cells (.slice pp a.progs.length cp) (.slice ps a.starts.length cs)), .agg (b.cells (.slice qp b.progs.length dp) (.slice qs b.starts.length ds))] w fun e w' => e = .returned (.bool false) ∧ Below w.heap.size w w' := by
  have hA : Blk ((w.alloc (.cells (a.cells (.slice pp a.progs.length cp) (.slice ps a.starts.length cs)) 27)).alloc (.cells (b.cells (.slice qp b.progs.length dp) (.slice qs b.starts.length ds)) 27)) w.heap.size 27 (a.cells (.slice pp a.progs.length cp) (.slice ps a.starts.length cs)) := (Blk.new w _ _).alloc _
  have hB : Blk ((w.alloc (.cells (a.cells (.slice pp a.progs.length cp) (.slice ps a.starts.length cs)) 27)).alloc (.cells (b.cells (.slice qp b.progs.length dp) (.slice qs b.starts.length ds)) 27)) (w.heap.size + 1) 27 (b.cells (.slice qp b.progs.length dp) (.slice qs b.starts.length ds)) := two_new w _ _ _
  have hbw := below_alloc2 w (.cells (a.cells (.slice pp a.progs.length cp) (.slice ps a.starts.length cs)) 27) (.cells (b.cells (.slice qp b.progs.length dp) (.slice qs b.starts.length ds)) 27)
  go_enter Tryz.func13, Tryz.ntmps13
  go_wp2_with (first
    | (refine wpList_box_agg rfl 27 _ rfl (a.cells (.slice pp a.progs.length cp) (.slice ps a.starts.length cs)) rfl ?_)
    | (refine wpList_box_agg rfl 27 _ rfl (b.cells (.slice qp b.progs.length dp) (.slice qs b.starts.length ds)) rfl ?_))
  try simp only [World.size_alloc]
  obtain ⟨W, hW⟩ : ∃ W, W = (w.alloc (.cells (a.cells (.slice pp a.progs.length cp) (.slice ps a.starts.length cs)) 27)).alloc (.cells (b.cells (.slice qp b.progs.length dp) (.slice qs b.starts.length ds)) 27) := ⟨_, rfl⟩
  rw [← hW] at hA hB hbw ⊢
  have hA0 : Blk W.drew w.heap.size 27 (a.cells (.slice pp a.progs.length cp) (.slice ps a.starts.length cs)) := hA
  have hB0 : Blk W.drew (w.heap.size + 1) 27 (b.cells (.slice qp b.progs.length dp) (.slice qs b.starts.length ds)) := hB
  have hb0 : Below w.heap.size w W.drew := hbw.drew
  clear hW
  refine wp_region_held_drew (S := fun w' => Below W.drew.heap.size W.drew w') (by kernel_rfl) (Below.refl _ _) (fun hS0 => ?_)
  refine wpAnyH_take (i := 0) (v := .agg (a.cells (.slice pp a.progs.length cp) (.slice ps a.starts.length cs))) rfl (by kernel_rfl) (by kernel_rfl) (by kernel_rfl) (fun _ _ _ h => h) (yields_row rfl 27 _ rfl w.heap.size rfl 27 _ (0, 0) _ (fun w1 hS1 => Blk.below hA0 hS1 hA0.lt) Tryz.underlying27 rfl (sizeY _ _ _)) hS0 ?_
  try simp only [List.getElem_toArray, List.getElem_cons_zero, Act.put, List.setIfInBounds_toArray, List.set_cons_zero, List.set_cons_succ]
  refine wpAnyH_take (i := 2) (v := .agg (b.cells (.slice qp b.progs.length dp) (.slice qs b.starts.length ds))) rfl (by kernel_rfl) (by kernel_rfl) (by kernel_rfl) (fun _ _ _ h => h) (yields_row rfl 27 _ rfl (w.heap.size + 1) rfl 27 _ (0, 0) _ (fun w1 hS1 => Blk.below hB0 hS1 hB0.lt) Tryz.underlying27 rfl (sizeY _ _ _)) hS0 ?_
  try simp only [List.getElem_toArray, List.getElem_cons_zero, List.getElem_cons_succ, Act.put, List.setIfInBounds_toArray, List.set_cons_zero, List.set_cons_succ]
  refine wpAnyH_ready (rs := [1]) (by kernel_rfl) (by simp) ?_
  refine AllReadyH.cons rfl (fun K hK => ?_) AllReadyH.nil
  go_simp
  refine (RNumbers_any a ha pp ps _ cp _ cs _).mono ?_
  rintro e v1 ⟨rfl, hv1⟩
  dsimp only
  refine hK.out _ _ (Below.trans hS0 (hv1.mono (hS0).size)) (fun hS1 => ?_); clear hK K
  refine wpAnyH_ready (rs := [3]) (by kernel_rfl) (by simp) ?_
  refine AllReadyH.cons rfl (fun K hK => ?_) AllReadyH.nil
  go_simp
  refine (RNumbers_any b hb qp qs _ dp _ ds _).mono ?_
  rintro e v2 ⟨rfl, hv2⟩
  dsimp only
  refine hK.out _ _ (Below.trans hS1 (hv2.mono (hS1).size)) (fun hS2 => ?_); clear hK K
  refine wpAnyH_take (i := 4) (v := .bool true) rfl (by kernel_rfl) (by kernel_rfl) (by kernel_rfl) (fun _ _ _ h => h) (Or.inl ⟨by rfl, fun w1 hS1 => exec_neq7 _ _ _ rfl a b ha hb rfl rfl false hn w1⟩) hS2 ?_
  try simp only [List.getElem_toArray, List.getElem_cons_zero, List.getElem_cons_succ, Act.put, List.setIfInBounds_toArray, List.set_cons_zero, List.set_cons_succ]
  refine wpAnyH_take (i := 5) (v := ?_) rfl (by kernel_rfl) (by kernel_rfl) (by kernel_rfl) (fun _ _ _ h => h) (Or.inl ⟨by rfl, ?_⟩) hS2 ?_
  rotate_left
  · intro w1 _; go_simp; with_reducible rfl
  try simp only [List.getElem_toArray, List.getElem_cons_zero, List.getElem_cons_succ, Act.put, List.setIfInBounds_toArray, List.set_cons_zero, List.set_cons_succ]
  refine wpAnyH_take (i := 6) (v := undef) rfl (by kernel_rfl) (by kernel_rfl) (by kernel_rfl) (fun _ _ _ h => h) (Or.inr ⟨by rfl, rfl⟩) hS2 ?_
  try simp only [List.getElem_toArray, List.getElem_cons_zero, List.getElem_cons_succ, Act.put, List.setIfInBounds_toArray, List.set_cons_zero, List.set_cons_succ]
  refine wpAnyH_take (i := 7) (v := undef) rfl (by kernel_rfl) (by kernel_rfl) (by kernel_rfl) (fun _ _ _ h => h) (Or.inr ⟨by rfl, rfl⟩) hS2 ?_
  try simp only [List.getElem_toArray, List.getElem_cons_zero, List.getElem_cons_succ, Act.put, List.setIfInBounds_toArray, List.set_cons_zero, List.set_cons_succ]
  refine wpAnyH_take (i := 8) (v := undef) rfl (by kernel_rfl) (by kernel_rfl) (by kernel_rfl) (fun _ _ _ h => h) (Or.inr ⟨by rfl, rfl⟩) hS2 ?_
  try simp only [List.getElem_toArray, List.getElem_cons_zero, List.getElem_cons_succ, Act.put, List.setIfInBounds_toArray, List.set_cons_zero, List.set_cons_succ]
  refine wpAnyH_take (i := 9) (v := undef) rfl (by kernel_rfl) (by kernel_rfl) (by kernel_rfl) (fun _ _ _ h => h) (Or.inr ⟨by rfl, rfl⟩) hS2 ?_
  try simp only [List.getElem_toArray, List.getElem_cons_zero, List.getElem_cons_succ, Act.put, List.setIfInBounds_toArray, List.set_cons_zero, List.set_cons_succ]
  refine wpAnyH_take (i := 10) (v := undef) rfl (by kernel_rfl) (by kernel_rfl) (by kernel_rfl) (fun _ _ _ h => h) (Or.inr ⟨by rfl, rfl⟩) hS2 ?_
  try simp only [List.getElem_toArray, List.getElem_cons_zero, List.getElem_cons_succ, Act.put, List.setIfInBounds_toArray, List.set_cons_zero, List.set_cons_succ]
  refine wpAnyH_take (i := 11) (v := undef) rfl (by kernel_rfl) (by kernel_rfl) (by kernel_rfl) (fun _ _ _ h => h) (Or.inr ⟨by rfl, rfl⟩) hS2 ?_
  try simp only [List.getElem_toArray, List.getElem_cons_zero, List.getElem_cons_succ, Act.put, List.setIfInBounds_toArray, List.set_cons_zero, List.set_cons_succ]
  refine wpAnyH_take (i := 12) (v := undef) rfl (by kernel_rfl) (by kernel_rfl) (by kernel_rfl) (fun _ _ _ h => h) (Or.inr ⟨by rfl, rfl⟩) hS2 ?_
  try simp only [List.getElem_toArray, List.getElem_cons_zero, List.getElem_cons_succ, Act.put, List.setIfInBounds_toArray, List.set_cons_zero, List.set_cons_succ]
  refine wpAnyH_take (i := 13) (v := ?_) rfl (by kernel_rfl) (by kernel_rfl) (by kernel_rfl) (fun _ _ _ h => h) (Or.inl ⟨by rfl, ?_⟩) hS2 ?_
  rotate_left
  · intro w1 _; go_simp; with_reducible rfl
  try simp only [List.getElem_toArray, List.getElem_cons_zero, List.getElem_cons_succ, Act.put, List.setIfInBounds_toArray, List.set_cons_zero, List.set_cons_succ]
  refine wpAnyH_take (i := 14) (v := ?_) rfl (by kernel_rfl) (by kernel_rfl) (by kernel_rfl) (fun _ _ _ h => h) (Or.inl ⟨by rfl, ?_⟩) hS2 ?_
  rotate_left
  · intro w1 _; go_simp; with_reducible rfl
  try simp only [List.getElem_toArray, List.getElem_cons_zero, List.getElem_cons_succ, Act.put, List.setIfInBounds_toArray, List.set_cons_zero, List.set_cons_succ]
  refine wpAnyH_take (i := 15) (v := undef) rfl (by kernel_rfl) (by kernel_rfl) (by kernel_rfl) (fun _ _ _ h => h) (Or.inr ⟨by rfl, rfl⟩) hS2 ?_
  try simp only [List.getElem_toArray, List.getElem_cons_zero, List.getElem_cons_succ, Act.put, List.setIfInBounds_toArray, List.set_cons_zero, List.set_cons_succ]
  refine wpAnyH_take (i := 16) (v := undef) rfl (by kernel_rfl) (by kernel_rfl) (by kernel_rfl) (fun _ _ _ h => h) (Or.inr ⟨by rfl, rfl⟩) hS2 ?_
  try simp only [List.getElem_toArray, List.getElem_cons_zero, List.getElem_cons_succ, Act.put, List.setIfInBounds_toArray, List.set_cons_zero, List.set_cons_succ]
  refine wpAnyH_take (i := 17) (v := undef) rfl (by kernel_rfl) (by kernel_rfl) (by kernel_rfl) (fun _ _ _ h => h) (Or.inr ⟨by rfl, rfl⟩) hS2 ?_
  try simp only [List.getElem_toArray, List.getElem_cons_zero, List.getElem_cons_succ, Act.put, List.setIfInBounds_toArray, List.set_cons_zero, List.set_cons_succ]
  refine wpAnyH_take (i := 18) (v := undef) rfl (by kernel_rfl) (by kernel_rfl) (by kernel_rfl) (fun _ _ _ h => h) (Or.inr ⟨by rfl, rfl⟩) hS2 ?_
  try simp only [List.getElem_toArray, List.getElem_cons_zero, List.getElem_cons_succ, Act.put, List.setIfInBounds_toArray, List.set_cons_zero, List.set_cons_succ]
  refine wpAnyH_take (i := 19) (v := undef) rfl (by kernel_rfl) (by kernel_rfl) (by kernel_rfl) (fun _ _ _ h => h) (Or.inr ⟨by rfl, rfl⟩) hS2 ?_
  try simp only [List.getElem_toArray, List.getElem_cons_zero, List.getElem_cons_succ, Act.put, List.setIfInBounds_toArray, List.set_cons_zero, List.set_cons_succ]
  refine wpAnyH_take (i := 20) (v := undef) rfl (by kernel_rfl) (by kernel_rfl) (by kernel_rfl) (fun _ _ _ h => h) (Or.inr ⟨by rfl, rfl⟩) hS2 ?_
  try simp only [List.getElem_toArray, List.getElem_cons_zero, List.getElem_cons_succ, Act.put, List.setIfInBounds_toArray, List.set_cons_zero, List.set_cons_succ]
  refine wpAnyH_take (i := 21) (v := undef) rfl (by kernel_rfl) (by kernel_rfl) (by kernel_rfl) (fun _ _ _ h => h) (Or.inr ⟨by rfl, rfl⟩) hS2 ?_
  try simp only [List.getElem_toArray, List.getElem_cons_zero, List.getElem_cons_succ, Act.put, List.setIfInBounds_toArray, List.set_cons_zero, List.set_cons_succ]
  refine wpAnyH_take (i := 22) (v := ?_) rfl (by kernel_rfl) (by kernel_rfl) (by kernel_rfl) (fun _ _ _ h => h) (Or.inl ⟨by rfl, ?_⟩) hS2 ?_
  rotate_left
  · intro w1 _; go_simp; with_reducible rfl
  try simp only [List.getElem_toArray, List.getElem_cons_zero, List.getElem_cons_succ, Act.put, List.setIfInBounds_toArray, List.set_cons_zero, List.set_cons_succ]
  refine wpAnyH_done (by kernel_rfl) ?_ _
  go_wp2
  go_ret
  exact ⟨rfl, hb0.trans (Below.mono (hS2 : Below W.drew.heap.size W.drew _) hb0.size)⟩

set_option maxRecDepth 100000 in
set_option maxHeartbeats 4000000 in
theorem RSameY_1 (a b : Dut) (ha : a.ok) (hb : b.ok) (pp ps qp qs : Option Addr) (cp cs dp ds : Nat) (w : World) (hn : decide (numsY a = numsY b) = true) (hp : ((a.progs.length : Int) != (b.progs.length : Int)) = true) :
    Calls Tryz.prog 13 #[.agg (a.cells (.slice pp a.progs.length cp) (.slice ps a.starts.length cs)), .agg (b.cells (.slice qp b.progs.length dp) (.slice qs b.starts.length ds))] w fun e w' => e = .returned (.bool false) ∧ Below w.heap.size w w' := by
  have hA : Blk ((w.alloc (.cells (a.cells (.slice pp a.progs.length cp) (.slice ps a.starts.length cs)) 27)).alloc (.cells (b.cells (.slice qp b.progs.length dp) (.slice qs b.starts.length ds)) 27)) w.heap.size 27 (a.cells (.slice pp a.progs.length cp) (.slice ps a.starts.length cs)) := (Blk.new w _ _).alloc _
  have hB : Blk ((w.alloc (.cells (a.cells (.slice pp a.progs.length cp) (.slice ps a.starts.length cs)) 27)).alloc (.cells (b.cells (.slice qp b.progs.length dp) (.slice qs b.starts.length ds)) 27)) (w.heap.size + 1) 27 (b.cells (.slice qp b.progs.length dp) (.slice qs b.starts.length ds)) := two_new w _ _ _
  have hbw := below_alloc2 w (.cells (a.cells (.slice pp a.progs.length cp) (.slice ps a.starts.length cs)) 27) (.cells (b.cells (.slice qp b.progs.length dp) (.slice qs b.starts.length ds)) 27)
  go_enter Tryz.func13, Tryz.ntmps13
  go_wp2_with (first
    | (refine wpList_box_agg rfl 27 _ rfl (a.cells (.slice pp a.progs.length cp) (.slice ps a.starts.length cs)) rfl ?_)
    | (refine wpList_box_agg rfl 27 _ rfl (b.cells (.slice qp b.progs.length dp) (.slice qs b.starts.length ds)) rfl ?_))
  try simp only [World.size_alloc]
  obtain ⟨W, hW⟩ : ∃ W, W = (w.alloc (.cells (a.cells (.slice pp a.progs.length cp) (.slice ps a.starts.length cs)) 27)).alloc (.cells (b.cells (.slice qp b.progs.length dp) (.slice qs b.starts.length ds)) 27) := ⟨_, rfl⟩
  rw [← hW] at hA hB hbw ⊢
  have hA0 : Blk W.drew w.heap.size 27 (a.cells (.slice pp a.progs.length cp) (.slice ps a.starts.length cs)) := hA
  have hB0 : Blk W.drew (w.heap.size + 1) 27 (b.cells (.slice qp b.progs.length dp) (.slice qs b.starts.length ds)) := hB
  have hb0 : Below w.heap.size w W.drew := hbw.drew
  clear hW
  refine wp_region_held_drew (S := fun w' => Below W.drew.heap.size W.drew w') (by kernel_rfl) (Below.refl _ _) (fun hS0 => ?_)
  refine wpAnyH_take (i := 0) (v := .agg (a.cells (.slice pp a.progs.length cp) (.slice ps a.starts.length cs))) rfl (by kernel_rfl) (by kernel_rfl) (by kernel_rfl) (fun _ _ _ h => h) (yields_row rfl 27 _ rfl w.heap.size rfl 27 _ (0, 0) _ (fun w1 hS1 => Blk.below hA0 hS1 hA0.lt) Tryz.underlying27 rfl (sizeY _ _ _)) hS0 ?_
  try simp only [List.getElem_toArray, List.getElem_cons_zero, Act.put, List.setIfInBounds_toArray, List.set_cons_zero, List.set_cons_succ]
  refine wpAnyH_take (i := 2) (v := .agg (b.cells (.slice qp b.progs.length dp) (.slice qs b.starts.length ds))) rfl (by kernel_rfl) (by kernel_rfl) (by kernel_rfl) (fun _ _ _ h => h) (yields_row rfl 27 _ rfl (w.heap.size + 1) rfl 27 _ (0, 0) _ (fun w1 hS1 => Blk.below hB0 hS1 hB0.lt) Tryz.underlying27 rfl (sizeY _ _ _)) hS0 ?_
  try simp only [List.getElem_toArray, List.getElem_cons_zero, List.getElem_cons_succ, Act.put, List.setIfInBounds_toArray, List.set_cons_zero, List.set_cons_succ]
  refine wpAnyH_ready (rs := [1]) (by kernel_rfl) (by simp) ?_
  refine AllReadyH.cons rfl (fun K hK => ?_) AllReadyH.nil
  go_simp
  refine (RNumbers_any a ha pp ps _ cp _ cs _).mono ?_
  rintro e v1 ⟨rfl, hv1⟩
  dsimp only
  refine hK.out _ _ (Below.trans hS0 (hv1.mono (hS0).size)) (fun hS1 => ?_); clear hK K
  refine wpAnyH_ready (rs := [3]) (by kernel_rfl) (by simp) ?_
  refine AllReadyH.cons rfl (fun K hK => ?_) AllReadyH.nil
  go_simp
  refine (RNumbers_any b hb qp qs _ dp _ ds _).mono ?_
  rintro e v2 ⟨rfl, hv2⟩
  dsimp only
  refine hK.out _ _ (Below.trans hS1 (hv2.mono (hS1).size)) (fun hS2 => ?_); clear hK K
  refine wpAnyH_take (i := 4) (v := .bool false) rfl (by kernel_rfl) (by kernel_rfl) (by kernel_rfl) (fun _ _ _ h => h) (Or.inl ⟨by rfl, fun w1 hS1 => exec_neq7 _ _ _ rfl a b ha hb rfl rfl true hn w1⟩) hS2 ?_
  try simp only [List.getElem_toArray, List.getElem_cons_zero, List.getElem_cons_succ, Act.put, List.setIfInBounds_toArray, List.set_cons_zero, List.set_cons_succ]
  refine wpAnyH_take (i := 5) (v := ?_) rfl (by kernel_rfl) (by kernel_rfl) (by kernel_rfl) (fun _ _ _ h => h) (Or.inl ⟨by rfl, ?_⟩) hS2 ?_
  rotate_left
  · intro w1 _; go_simp; with_reducible rfl
  try simp only [List.getElem_toArray, List.getElem_cons_zero, List.getElem_cons_succ, Act.put, List.setIfInBounds_toArray, List.set_cons_zero, List.set_cons_succ]
  refine wpAnyH_take (i := 6) (v := ?_) rfl (by kernel_rfl) (by kernel_rfl) (by kernel_rfl) (fun _ _ _ h => h) (Or.inl ⟨by rfl, ?_⟩) hS2 ?_
  rotate_left
  · intro w1 _; go_simp; with_reducible rfl
  try simp only [List.getElem_toArray, List.getElem_cons_zero, List.getElem_cons_succ, Act.put, List.setIfInBounds_toArray, List.set_cons_zero, List.set_cons_succ]
  refine wpAnyH_take (i := 7) (v := .slice pp a.progs.length cp) rfl (by kernel_rfl) (by kernel_rfl) (by kernel_rfl) (fun _ _ _ h => h) (Or.inl ⟨by rfl, fun w1 hS1 => by have h0 : w1.cell? ⟨w.heap.size, 7, none⟩ = some (.slice pp a.progs.length cp) := Blk.cell (Blk.below hA0 hS1 hA0.lt) 7; go_simp⟩) hS2 ?_
  try simp only [List.getElem_toArray, List.getElem_cons_zero, List.getElem_cons_succ, Act.put, List.setIfInBounds_toArray, List.set_cons_zero, List.set_cons_succ]
  refine wpAnyH_take (i := 8) (v := ?_) rfl (by kernel_rfl) (by kernel_rfl) (by kernel_rfl) (fun _ _ _ h => h) (Or.inl ⟨by rfl, ?_⟩) hS2 ?_
  rotate_left
  · intro w1 _; go_simp; with_reducible rfl
  try simp only [List.getElem_toArray, List.getElem_cons_zero, List.getElem_cons_succ, Act.put, List.setIfInBounds_toArray, List.set_cons_zero, List.set_cons_succ]
  refine wpAnyH_take (i := 9) (v := ?_) rfl (by kernel_rfl) (by kernel_rfl) (by kernel_rfl) (fun _ _ _ h => h) (Or.inl ⟨by rfl, ?_⟩) hS2 ?_
  rotate_left
  · intro w1 _; go_simp; with_reducible rfl
  try simp only [List.getElem_toArray, List.getElem_cons_zero, List.getElem_cons_succ, Act.put, List.setIfInBounds_toArray, List.set_cons_zero, List.set_cons_succ]
  refine wpAnyH_take (i := 10) (v := .slice qp b.progs.length dp) rfl (by kernel_rfl) (by kernel_rfl) (by kernel_rfl) (fun _ _ _ h => h) (Or.inl ⟨by rfl, fun w1 hS1 => by have h0 : w1.cell? ⟨w.heap.size + 1, 7, none⟩ = some (.slice qp b.progs.length dp) := Blk.cell (Blk.below hB0 hS1 hB0.lt) 7; go_simp⟩) hS2 ?_
  try simp only [List.getElem_toArray, List.getElem_cons_zero, List.getElem_cons_succ, Act.put, List.setIfInBounds_toArray, List.set_cons_zero, List.set_cons_succ]
  refine wpAnyH_take (i := 11) (v := ?_) rfl (by kernel_rfl) (by kernel_rfl) (by kernel_rfl) (fun _ _ _ h => h) (Or.inl ⟨by rfl, ?_⟩) hS2 ?_
  rotate_left
  · intro w1 _; go_simp; with_reducible rfl
  try simp only [List.getElem_toArray, List.getElem_cons_zero, List.getElem_cons_succ, Act.put, List.setIfInBounds_toArray, List.set_cons_zero, List.set_cons_succ]
  refine wpAnyH_take (i := 12) (v := .bool true) rfl (by kernel_rfl) (by kernel_rfl) (by kernel_rfl) (fun _ _ _ h => h) (Or.inl ⟨by rfl, fun w1 hS1 => by first | (go_simp; done) | (go_simp; rw [hp])⟩) hS2 ?_
  try simp only [List.getElem_toArray, List.getElem_cons_zero, List.getElem_cons_succ, Act.put, List.setIfInBounds_toArray, List.set_cons_zero, List.set_cons_succ]
  refine wpAnyH_take (i := 13) (v := ?_) rfl (by kernel_rfl) (by kernel_rfl) (by kernel_rfl) (fun _ _ _ h => h) (Or.inl ⟨by rfl, ?_⟩) hS2 ?_
  rotate_left
  · intro w1 _; go_simp; with_reducible rfl
  try simp only [List.getElem_toArray, List.getElem_cons_zero, List.getElem_cons_succ, Act.put, List.setIfInBounds_toArray, List.set_cons_zero, List.set_cons_succ]
  refine wpAnyH_take (i := 14) (v := ?_) rfl (by kernel_rfl) (by kernel_rfl) (by kernel_rfl) (fun _ _ _ h => h) (Or.inl ⟨by rfl, ?_⟩) hS2 ?_
  rotate_left
  · intro w1 _; go_simp; with_reducible rfl
  try simp only [List.getElem_toArray, List.getElem_cons_zero, List.getElem_cons_succ, Act.put, List.setIfInBounds_toArray, List.set_cons_zero, List.set_cons_succ]
  refine wpAnyH_take (i := 15) (v := undef) rfl (by kernel_rfl) (by kernel_rfl) (by kernel_rfl) (fun _ _ _ h => h) (Or.inr ⟨by rfl, rfl⟩) hS2 ?_
  try simp only [List.getElem_toArray, List.getElem_cons_zero, List.getElem_cons_succ, Act.put, List.setIfInBounds_toArray, List.set_cons_zero, List.set_cons_succ]
  refine wpAnyH_take (i := 16) (v := undef) rfl (by kernel_rfl) (by kernel_rfl) (by kernel_rfl) (fun _ _ _ h => h) (Or.inr ⟨by rfl, rfl⟩) hS2 ?_
  try simp only [List.getElem_toArray, List.getElem_cons_zero, List.getElem_cons_succ, Act.put, List.setIfInBounds_toArray, List.set_cons_zero, List.set_cons_succ]
  refine wpAnyH_take (i := 17) (v := undef) rfl (by kernel_rfl) (by kernel_rfl) (by kernel_rfl) (fun _ _ _ h => h) (Or.inr ⟨by rfl, rfl⟩) hS2 ?_
  try simp only [List.getElem_toArray, List.getElem_cons_zero, List.getElem_cons_succ, Act.put, List.setIfInBounds_toArray, List.set_cons_zero, List.set_cons_succ]
  refine wpAnyH_take (i := 18) (v := undef) rfl (by kernel_rfl) (by kernel_rfl) (by kernel_rfl) (fun _ _ _ h => h) (Or.inr ⟨by rfl, rfl⟩) hS2 ?_
  try simp only [List.getElem_toArray, List.getElem_cons_zero, List.getElem_cons_succ, Act.put, List.setIfInBounds_toArray, List.set_cons_zero, List.set_cons_succ]
  refine wpAnyH_take (i := 19) (v := undef) rfl (by kernel_rfl) (by kernel_rfl) (by kernel_rfl) (fun _ _ _ h => h) (Or.inr ⟨by rfl, rfl⟩) hS2 ?_
  try simp only [List.getElem_toArray, List.getElem_cons_zero, List.getElem_cons_succ, Act.put, List.setIfInBounds_toArray, List.set_cons_zero, List.set_cons_succ]
  refine wpAnyH_take (i := 20) (v := undef) rfl (by kernel_rfl) (by kernel_rfl) (by kernel_rfl) (fun _ _ _ h => h) (Or.inr ⟨by rfl, rfl⟩) hS2 ?_
  try simp only [List.getElem_toArray, List.getElem_cons_zero, List.getElem_cons_succ, Act.put, List.setIfInBounds_toArray, List.set_cons_zero, List.set_cons_succ]
  refine wpAnyH_take (i := 21) (v := undef) rfl (by kernel_rfl) (by kernel_rfl) (by kernel_rfl) (fun _ _ _ h => h) (Or.inr ⟨by rfl, rfl⟩) hS2 ?_
  try simp only [List.getElem_toArray, List.getElem_cons_zero, List.getElem_cons_succ, Act.put, List.setIfInBounds_toArray, List.set_cons_zero, List.set_cons_succ]
  refine wpAnyH_take (i := 22) (v := ?_) rfl (by kernel_rfl) (by kernel_rfl) (by kernel_rfl) (fun _ _ _ h => h) (Or.inl ⟨by rfl, ?_⟩) hS2 ?_
  rotate_left
  · intro w1 _; go_simp; with_reducible rfl
  try simp only [List.getElem_toArray, List.getElem_cons_zero, List.getElem_cons_succ, Act.put, List.setIfInBounds_toArray, List.set_cons_zero, List.set_cons_succ]
  refine wpAnyH_done (by kernel_rfl) ?_ _
  go_wp2
  go_ret
  exact ⟨rfl, hb0.trans (Below.mono (hS2 : Below W.drew.heap.size W.drew _) hb0.size)⟩

set_option maxRecDepth 100000 in
set_option maxHeartbeats 4000000 in
theorem RSameY_2 (a b : Dut) (ha : a.ok) (hb : b.ok) (pp ps qp qs : Option Addr) (cp cs dp ds : Nat) (w : World) (hn : decide (numsY a = numsY b) = true) (hp : ((a.progs.length : Int) != (b.progs.length : Int)) = false) (hs : ((a.starts.length : Int) != (b.starts.length : Int)) = true) :
    Calls Tryz.prog 13 #[.agg (a.cells (.slice pp a.progs.length cp) (.slice ps a.starts.length cs)), .agg (b.cells (.slice qp b.progs.length dp) (.slice qs b.starts.length ds))] w fun e w' => e = .returned (.bool false) ∧ Below w.heap.size w w' := by
  have hA : Blk ((w.alloc (.cells (a.cells (.slice pp a.progs.length cp) (.slice ps a.starts.length cs)) 27)).alloc (.cells (b.cells (.slice qp b.progs.length dp) (.slice qs b.starts.length ds)) 27)) w.heap.size 27 (a.cells (.slice pp a.progs.length cp) (.slice ps a.starts.length cs)) := (Blk.new w _ _).alloc _
  have hB : Blk ((w.alloc (.cells (a.cells (.slice pp a.progs.length cp) (.slice ps a.starts.length cs)) 27)).alloc (.cells (b.cells (.slice qp b.progs.length dp) (.slice qs b.starts.length ds)) 27)) (w.heap.size + 1) 27 (b.cells (.slice qp b.progs.length dp) (.slice qs b.starts.length ds)) := two_new w _ _ _
  have hbw := below_alloc2 w (.cells (a.cells (.slice pp a.progs.length cp) (.slice ps a.starts.length cs)) 27) (.cells (b.cells (.slice qp b.progs.length dp) (.slice qs b.starts.length ds)) 27)
  go_enter Tryz.func13, Tryz.ntmps13
  go_wp2_with (first
    | (refine wpList_box_agg rfl 27 _ rfl (a.cells (.slice pp a.progs.length cp) (.slice ps a.starts.length cs)) rfl ?_)
    | (refine wpList_box_agg rfl 27 _ rfl (b.cells (.slice qp b.progs.length dp) (.slice qs b.starts.length ds)) rfl ?_))
  try simp only [World.size_alloc]
  obtain ⟨W, hW⟩ : ∃ W, W = (w.alloc (.cells (a.cells (.slice pp a.progs.length cp) (.slice ps a.starts.length cs)) 27)).alloc (.cells (b.cells (.slice qp b.progs.length dp) (.slice qs b.starts.length ds)) 27) := ⟨_, rfl⟩
  rw [← hW] at hA hB hbw ⊢
  have hA0 : Blk W.drew w.heap.size 27 (a.cells (.slice pp a.progs.length cp) (.slice ps a.starts.length cs)) := hA
  have hB0 : Blk W.drew (w.heap.size + 1) 27 (b.cells (.slice qp b.progs.length dp) (.slice qs b.starts.length ds)) := hB
  have hb0 : Below w.heap.size w W.drew := hbw.drew
  clear hW
  refine wp_region_held_drew (S := fun w' => Below W.drew.heap.size W.drew w') (by kernel_rfl) (Below.refl _ _) (fun hS0 => ?_)
  refine wpAnyH_take (i := 0) (v := .agg (a.cells (.slice pp a.progs.length cp) (.slice ps a.starts.length cs))) rfl (by kernel_rfl) (by kernel_rfl) (by kernel_rfl) (fun _ _ _ h => h) (yields_row rfl 27 _ rfl w.heap.size rfl 27 _ (0, 0) _ (fun w1 hS1 => Blk.below hA0 hS1 hA0.lt) Tryz.underlying27 rfl (sizeY _ _ _)) hS0 ?_
  try simp only [List.getElem_toArray, List.getElem_cons_zero, Act.put, List.setIfInBounds_toArray, List.set_cons_zero, List.set_cons_succ]
  refine wpAnyH_take (i := 2) (v := .agg (b.cells (.slice qp b.progs.length dp) (.slice qs b.starts.length ds))) rfl (by kernel_rfl) (by kernel_rfl) (by kernel_rfl) (fun _ _ _ h => h) (yields_row rfl 27 _ rfl (w.heap.size + 1) rfl 27 _ (0, 0) _ (fun w1 hS1 => Blk.below hB0 hS1 hB0.lt) Tryz.underlying27 rfl (sizeY _ _ _)) hS0 ?_
  try simp only [List.getElem_toArray, List.getElem_cons_zero, List.getElem_cons_succ, Act.put, List.setIfInBounds_toArray, List.set_cons_zero, List.set_cons_succ]
  refine wpAnyH_ready (rs := [1]) (by kernel_rfl) (by simp) ?_
  refine AllReadyH.cons rfl (fun K hK => ?_) AllReadyH.nil
  go_simp
  refine (RNumbers_any a ha pp ps _ cp _ cs _).mono ?_
  rintro e v1 ⟨rfl, hv1⟩
  dsimp only
  refine hK.out _ _ (Below.trans hS0 (hv1.mono (hS0).size)) (fun hS1 => ?_); clear hK K
  refine wpAnyH_ready (rs := [3]) (by kernel_rfl) (by simp) ?_
  refine AllReadyH.cons rfl (fun K hK => ?_) AllReadyH.nil
  go_simp
  refine (RNumbers_any b hb qp qs _ dp _ ds _).mono ?_
  rintro e v2 ⟨rfl, hv2⟩
  dsimp only
  refine hK.out _ _ (Below.trans hS1 (hv2.mono (hS1).size)) (fun hS2 => ?_); clear hK K
  refine wpAnyH_take (i := 4) (v := .bool false) rfl (by kernel_rfl) (by kernel_rfl) (by kernel_rfl) (fun _ _ _ h => h) (Or.inl ⟨by rfl, fun w1 hS1 => exec_neq7 _ _ _ rfl a b ha hb rfl rfl true hn w1⟩) hS2 ?_
  try simp only [List.getElem_toArray, List.getElem_cons_zero, List.getElem_cons_succ, Act.put, List.setIfInBounds_toArray, List.set_cons_zero, List.set_cons_succ]
  refine wpAnyH_take (i := 5) (v := ?_) rfl (by kernel_rfl) (by kernel_rfl) (by kernel_rfl) (fun _ _ _ h => h) (Or.inl ⟨by rfl, ?_⟩) hS2 ?_
  rotate_left
  · intro w1 _; go_simp; with_reducible rfl
  try simp only [List.getElem_toArray, List.getElem_cons_zero, List.getElem_cons_succ, Act.put, List.setIfInBounds_toArray, List.set_cons_zero, List.set_cons_succ]
  refine wpAnyH_take (i := 6) (v := ?_) rfl (by kernel_rfl) (by kernel_rfl) (by kernel_rfl) (fun _ _ _ h => h) (Or.inl ⟨by rfl, ?_⟩) hS2 ?_
  rotate_left
  · intro w1 _; go_simp; with_reducible rfl
  try simp only [List.getElem_toArray, List.getElem_cons_zero, List.getElem_cons_succ, Act.put, List.setIfInBounds_toArray, List.set_cons_zero, List.set_cons_succ]
  refine wpAnyH_take (i := 7) (v := .slice pp a.progs.length cp) rfl (by kernel_rfl) (by kernel_rfl) (by kernel_rfl) (fun _ _ _ h => h) (Or.inl ⟨by rfl, fun w1 hS1 => by have h0 : w1.cell? ⟨w.heap.size, 7, none⟩ = some (.slice pp a.progs.length cp) := Blk.cell (Blk.below hA0 hS1 hA0.lt) 7; go_simp⟩) hS2 ?_
  try simp only [List.getElem_toArray, List.getElem_cons_zero, List.getElem_cons_succ, Act.put, List.setIfInBounds_toArray, List.set_cons_zero, List.set_cons_succ]
  refine wpAnyH_take (i := 8) (v := ?_) rfl (by kernel_rfl) (by kernel_rfl) (by kernel_rfl) (fun _ _ _ h => h) (Or.inl ⟨by rfl, ?_⟩) hS2 ?_
  rotate_left
  · intro w1 _; go_simp; with_reducible rfl
  try simp only [List.getElem_toArray, List.getElem_cons_zero, List.getElem_cons_succ, Act.put, List.setIfInBounds_toArray, List.set_cons_zero, List.set_cons_succ]
  refine wpAnyH_take (i := 9) (v := ?_) rfl (by kernel_rfl) (by kernel_rfl) (by kernel_rfl) (fun _ _ _ h => h) (Or.inl ⟨by rfl, ?_⟩) hS2 ?_
  rotate_left
  · intro w1 _; go_simp; with_reducible rfl
  try simp only [List.getElem_toArray, List.getElem_cons_zero, List.getElem_cons_succ, Act.put, List.setIfInBounds_toArray, List.set_cons_zero, List.set_cons_succ]
  refine wpAnyH_take (i := 10) (v := .slice qp b.progs.length dp) rfl (by kernel_rfl) (by kernel_rfl) (by kernel_rfl) (fun _ _ _ h => h) (Or.inl ⟨by rfl, fun w1 hS1 => by have h0 : w1.cell? ⟨w.heap.size + 1, 7, none⟩ = some (.slice qp b.progs.length dp) := Blk.cell (Blk.below hB0 hS1 hB0.lt) 7; go_simp⟩) hS2 ?_
  try simp only [List.getElem_toArray, List.getElem_cons_zero, List.getElem_cons_succ, Act.put, List.setIfInBounds_toArray, List.set_cons_zero, List.set_cons_succ]
  refine wpAnyH_take (i := 11) (v := ?_) rfl (by kernel_rfl) (by kernel_rfl) (by kernel_rfl) (fun _ _ _ h => h) (Or.inl ⟨by rfl, ?_⟩) hS2 ?_
  rotate_left
  · intro w1 _; go_simp; with_reducible rfl
  try simp only [List.getElem_toArray, List.getElem_cons_zero, List.getElem_cons_succ, Act.put, List.setIfInBounds_toArray, List.set_cons_zero, List.set_cons_succ]
  refine wpAnyH_take (i := 12) (v := .bool false) rfl (by kernel_rfl) (by kernel_rfl) (by kernel_rfl) (fun _ _ _ h => h) (Or.inl ⟨by rfl, fun w1 hS1 => by first | (go_simp; done) | (go_simp; rw [hp])⟩) hS2 ?_
  try simp only [List.getElem_toArray, List.getElem_cons_zero, List.getElem_cons_succ, Act.put, List.setIfInBounds_toArray, List.set_cons_zero, List.set_cons_succ]
  refine wpAnyH_take (i := 13) (v := ?_) rfl (by kernel_rfl) (by kernel_rfl) (by kernel_rfl) (fun _ _ _ h => h) (Or.inl ⟨by rfl, ?_⟩) hS2 ?_
  rotate_left
  · intro w1 _; go_simp; with_reducible rfl
  try simp only [List.getElem_toArray, List.getElem_cons_zero, List.getElem_cons_succ, Act.put, List.setIfInBounds_toArray, List.set_cons_zero, List.set_cons_succ]
  refine wpAnyH_take (i := 14) (v := ?_) rfl (by kernel_rfl) (by kernel_rfl) (by kernel_rfl) (fun _ _ _ h => h) (Or.inl ⟨by rfl, ?_⟩) hS2 ?_
  rotate_left
  · intro w1 _; go_simp; with_reducible rfl
  try simp only [List.getElem_toArray, List.getElem_cons_zero, List.getElem_cons_succ, Act.put, List.setIfInBounds_toArray, List.set_cons_zero, List.set_cons_succ]
  refine wpAnyH_take (i := 15) (v := ?_) rfl (by kernel_rfl) (by kernel_rfl) (by kernel_rfl) (fun _ _ _ h => h) (Or.inl ⟨by rfl, ?_⟩) hS2 ?_
  rotate_left
  · intro w1 _; go_simp; with_reducible rfl
  try simp only [List.getElem_toArray, List.getElem_cons_zero, List.getElem_cons_succ, Act.put, List.setIfInBounds_toArray, List.set_cons_zero, List.set_cons_succ]
  refine wpAnyH_take (i := 16) (v := .slice ps a.starts.length cs) rfl (by kernel_rfl) (by kernel_rfl) (by kernel_rfl) (fun _ _ _ h => h) (Or.inl ⟨by rfl, fun w1 hS1 => by have h0 : w1.cell? ⟨w.heap.size, 8, none⟩ = some (.slice ps a.starts.length cs) := Blk.cell (Blk.below hA0 hS1 hA0.lt) 8; go_simp⟩) hS2 ?_
  try simp only [List.getElem_toArray, List.getElem_cons_zero, List.getElem_cons_succ, Act.put, List.setIfInBounds_toArray, List.set_cons_zero, List.set_cons_succ]
  refine wpAnyH_take (i := 17) (v := ?_) rfl (by kernel_rfl) (by kernel_rfl) (by kernel_rfl) (fun _ _ _ h => h) (Or.inl ⟨by rfl, ?_⟩) hS2 ?_
  rotate_left
  · intro w1 _; go_simp; with_reducible rfl
  try simp only [List.getElem_toArray, List.getElem_cons_zero, List.getElem_cons_succ, Act.put, List.setIfInBounds_toArray, List.set_cons_zero, List.set_cons_succ]
  refine wpAnyH_take (i := 18) (v := ?_) rfl (by kernel_rfl) (by kernel_rfl) (by kernel_rfl) (fun _ _ _ h => h) (Or.inl ⟨by rfl, ?_⟩) hS2 ?_
  rotate_left
  · intro w1 _; go_simp; with_reducible rfl
  try simp only [List.getElem_toArray, List.getElem_cons_zero, List.getElem_cons_succ, Act.put, List.setIfInBounds_toArray, List.set_cons_zero, List.set_cons_succ]
  refine wpAnyH_take (i := 19) (v := .slice qs b.starts.length ds) rfl (by kernel_rfl) (by kernel_rfl) (by kernel_rfl) (fun _ _ _ h => h) (Or.inl ⟨by rfl, fun w1 hS1 => by have h0 : w1.cell? ⟨w.heap.size + 1, 8, none⟩ = some (.slice qs b.starts.length ds) := Blk.cell (Blk.below hB0 hS1 hB0.lt) 8; go_simp⟩) hS2 ?_
  try simp only [List.getElem_toArray, List.getElem_cons_zero, List.getElem_cons_succ, Act.put, List.setIfInBounds_toArray, List.set_cons_zero, List.set_cons_succ]
  refine wpAnyH_take (i := 20) (v := ?_) rfl (by kernel_rfl) (by kernel_rfl) (by kernel_rfl) (fun _ _ _ h => h) (Or.inl ⟨by rfl, ?_⟩) hS2 ?_
  rotate_left
  · intro w1 _; go_simp; with_reducible rfl
  try simp only [List.getElem_toArray, List.getElem_cons_zero, List.getElem_cons_succ, Act.put, List.setIfInBounds_toArray, List.set_cons_zero, List.set_cons_succ]
  refine wpAnyH_take (i := 21) (v := .bool true) rfl (by kernel_rfl) (by kernel_rfl) (by kernel_rfl) (fun _ _ _ h => h) (Or.inl ⟨by rfl, fun w1 hS1 => by first | (go_simp; done) | (go_simp; rw [hs])⟩) hS2 ?_
  try simp only [List.getElem_toArray, List.getElem_cons_zero, List.getElem_cons_succ, Act.put, List.setIfInBounds_toArray, List.set_cons_zero, List.set_cons_succ]
  refine wpAnyH_take (i := 22) (v := ?_) rfl (by kernel_rfl) (by kernel_rfl) (by kernel_rfl) (fun _ _ _ h => h) (Or.inl ⟨by rfl, ?_⟩) hS2 ?_
  rotate_left
  · intro w1 _; go_simp; with_reducible rfl
  try simp only [List.getElem_toArray, List.getElem_cons_zero, List.getElem_cons_succ, Act.put, List.setIfInBounds_toArray, List.set_cons_zero, List.set_cons_succ]
  refine wpAnyH_done (by kernel_rfl) ?_ _
  go_wp2
  go_ret
  exact ⟨rfl, hb0.trans (Below.mono (hS2 : Below W.drew.heap.size W.drew _) hb0.size)⟩

set_option maxRecDepth 100000 in
set_option maxHeartbeats 4000000 in
theorem RSameY_3 (a b : Dut) (ha : a.ok) (hb : b.ok) (pp ps qp qs : Option Addr) (cp cs dp ds : Nat) (w : World) (hn : decide (numsY a = numsY b) = true) (hpl : a.progs.length = b.progs.length) (hsl : a.starts.length = b.starts.length) (hsh : ∀ p ∈ a.progs, p.length ≤ 100000) (hmx : a.progs.length ≤ 100000) (hmx2 : a.starts.length ≤ 100000) (G G' : Nat → Prop) (h : DV w G (.slice pp a.progs.length cp) (.slice ps a.starts.length cs) a) (h' : DV w G' (.slice qp b.progs.length dp) (.slice qs b.starts.length ds) b) (R9 : Bool) (hR9 : Hid (R9 = true ↔ a.progs = b.progs ∧ a.starts = b.starts)) :
    Calls Tryz.prog 13 #[.agg (a.cells (.slice pp a.progs.length cp) (.slice ps a.starts.length cs)), .agg (b.cells (.slice qp b.progs.length dp) (.slice qs b.starts.length ds))] w fun e w' => e = .returned (.bool R9) ∧ Below w.heap.size w w' := by
  have HL1 : Hid (a.progs.length = b.progs.length) := Lib.hid hpl
  have HL2 : Hid (a.starts.length = b.starts.length) := Lib.hid hsl
  have hp : ((a.progs.length : Int) != (b.progs.length : Int)) = false := by simp [hpl]
  have hs : ((a.starts.length : Int) != (b.starts.length : Int)) = false := by simp [hsl]
  have HD := Lib.hid (h.later (below_alloc2 w (.cells (a.cells (.slice pp a.progs.length cp) (.slice ps a.starts.length cs)) 27) (.cells (b.cells (.slice qp b.progs.length dp) (.slice qs b.starts.length ds)) 27)))
  have HE := Lib.hid (h'.later (below_alloc2 w (.cells (a.cells (.slice pp a.progs.length cp) (.slice ps a.starts.length cs)) 27) (.cells (b.cells (.slice qp b.progs.length dp) (.slice qs b.starts.length ds)) 27)))
  have HSH : Hid (∀ p ∈ a.progs, p.length ≤ 100000) := Lib.hid hsh
  clear h h' hpl hsl hsh
  have hA : Blk ((w.alloc (.cells (a.cells (.slice pp a.progs.length cp) (.slice ps a.starts.length cs)) 27)).alloc (.cells (b.cells (.slice qp b.progs.length dp) (.slice qs b.starts.length ds)) 27)) w.heap.size 27 (a.cells (.slice pp a.progs.length cp) (.slice ps a.starts.length cs)) := (Blk.new w _ _).alloc _
  have hB : Blk ((w.alloc (.cells (a.cells (.slice pp a.progs.length cp) (.slice ps a.starts.length cs)) 27)).alloc (.cells (b.cells (.slice qp b.progs.length dp) (.slice qs b.starts.length ds)) 27)) (w.heap.size + 1) 27 (b.cells (.slice qp b.progs.length dp) (.slice qs b.starts.length ds)) := two_new w _ _ _
  have hbw := below_alloc2 w (.cells (a.cells (.slice pp a.progs.length cp) (.slice ps a.starts.length cs)) 27) (.cells (b.cells (.slice qp b.progs.length dp) (.slice qs b.starts.length ds)) 27)
  go_enter Tryz.func13, Tryz.ntmps13
  go_wp2_with (first
    | (refine wpList_box_agg rfl 27 _ rfl (a.cells (.slice pp a.progs.length cp) (.slice ps a.starts.length cs)) rfl ?_)
    | (refine wpList_box_agg rfl 27 _ rfl (b.cells (.slice qp b.progs.length dp) (.slice qs b.starts.length ds)) rfl ?_))
  try simp only [World.size_alloc]
  obtain ⟨W, hW⟩ : ∃ W, W = (w.alloc (.cells (a.cells (.slice pp a.progs.length cp) (.slice ps a.starts.length cs)) 27)).alloc (.cells (b.cells (.slice qp b.progs.length dp) (.slice qs b.starts.length ds)) 27) := ⟨_, rfl⟩
  rw [← hW] at hA hB hbw HD HE ⊢
  have hA0 : Blk W.drew w.heap.size 27 (a.cells (.slice pp a.progs.length cp) (.slice ps a.starts.length cs)) := hA
  have hB0 : Blk W.drew (w.heap.size + 1) 27 (b.cells (.slice qp b.progs.length dp) (.slice qs b.starts.length ds)) := hB
  have hb0 : Below w.heap.size w W.drew := hbw.drew
  clear hW
  refine wp_region_held_drew (S := fun w' => Below W.drew.heap.size W.drew w') (by kernel_rfl) (Below.refl _ _) (fun hS0 => ?_)
  refine wpAnyH_take (i := 0) (v := .agg (a.cells (.slice pp a.progs.length cp) (.slice ps a.starts.length cs))) rfl (by kernel_rfl) (by kernel_rfl) (by kernel_rfl) (fun _ _ _ h => h) (yields_row rfl 27 _ rfl w.heap.size rfl 27 _ (0, 0) _ (fun w1 hS1 => Blk.below hA0 hS1 hA0.lt) Tryz.underlying27 rfl (sizeY _ _ _)) hS0 ?_
  try simp only [List.getElem_toArray, List.getElem_cons_zero, Act.put, List.setIfInBounds_toArray, List.set_cons_zero, List.set_cons_succ]
  refine wpAnyH_take (i := 2) (v := .agg (b.cells (.slice qp b.progs.length dp) (.slice qs b.starts.length ds))) rfl (by kernel_rfl) (by kernel_rfl) (by kernel_rfl) (fun _ _ _ h => h) (yields_row rfl 27 _ rfl (w.heap.size + 1) rfl 27 _ (0, 0) _ (fun w1 hS1 => Blk.below hB0 hS1 hB0.lt) Tryz.underlying27 rfl (sizeY _ _ _)) hS0 ?_
  try simp only [List.getElem_toArray, List.getElem_cons_zero, List.getElem_cons_succ, Act.put, List.setIfInBounds_toArray, List.set_cons_zero, List.set_cons_succ]
  refine wpAnyH_ready (rs := [1]) (by kernel_rfl) (by simp) ?_
  refine AllReadyH.cons rfl (fun K hK => ?_) AllReadyH.nil
  go_simp
  refine (RNumbers_any a ha pp ps _ cp _ cs _).mono ?_
  rintro e v1 ⟨rfl, hv1⟩
  dsimp only
  refine hK.out _ _ (Below.trans hS0 (hv1.mono (hS0).size)) (fun hS1 => ?_); clear hK K
  refine wpAnyH_ready (rs := [3]) (by kernel_rfl) (by simp) ?_
  refine AllReadyH.cons rfl (fun K hK => ?_) AllReadyH.nil
  go_simp
  refine (RNumbers_any b hb qp qs _ dp _ ds _).mono ?_
  rintro e v2 ⟨rfl, hv2⟩
  dsimp only
  refine hK.out _ _ (Below.trans hS1 (hv2.mono (hS1).size)) (fun hS2 => ?_); clear hK K
  refine wpAnyH_take (i := 4) (v := .bool false) rfl (by kernel_rfl) (by kernel_rfl) (by kernel_rfl) (fun _ _ _ h => h) (Or.inl ⟨by rfl, fun w1 hS1 => exec_neq7 _ _ _ rfl a b ha hb rfl rfl true hn w1⟩) hS2 ?_
  try simp only [List.getElem_toArray, List.getElem_cons_zero, List.getElem_cons_succ, Act.put, List.setIfInBounds_toArray, List.set_cons_zero, List.set_cons_succ]
  refine wpAnyH_take (i := 5) (v := ?_) rfl (by kernel_rfl) (by kernel_rfl) (by kernel_rfl) (fun _ _ _ h => h) (Or.inl ⟨by rfl, ?_⟩) hS2 ?_
  rotate_left
  · intro w1 _; go_simp; with_reducible rfl
  try simp only [List.getElem_toArray, List.getElem_cons_zero, List.getElem_cons_succ, Act.put, List.setIfInBounds_toArray, List.set_cons_zero, List.set_cons_succ]
  refine wpAnyH_take (i := 6) (v := ?_) rfl (by kernel_rfl) (by kernel_rfl) (by kernel_rfl) (fun _ _ _ h => h) (Or.inl ⟨by rfl, ?_⟩) hS2 ?_
  rotate_left
  · intro w1 _; go_simp; with_reducible rfl
  try simp only [List.getElem_toArray, List.getElem_cons_zero, List.getElem_cons_succ, Act.put, List.setIfInBounds_toArray, List.set_cons_zero, List.set_cons_succ]
  refine wpAnyH_take (i := 7) (v := .slice pp a.progs.length cp) rfl (by kernel_rfl) (by kernel_rfl) (by kernel_rfl) (fun _ _ _ h => h) (Or.inl ⟨by rfl, fun w1 hS1 => by have h0 : w1.cell? ⟨w.heap.size, 7, none⟩ = some (.slice pp a.progs.length cp) := Blk.cell (Blk.below hA0 hS1 hA0.lt) 7; go_simp⟩) hS2 ?_
  try simp only [List.getElem_toArray, List.getElem_cons_zero, List.getElem_cons_succ, Act.put, List.setIfInBounds_toArray, List.set_cons_zero, List.set_cons_succ]
  refine wpAnyH_take (i := 8) (v := ?_) rfl (by kernel_rfl) (by kernel_rfl) (by kernel_rfl) (fun _ _ _ h => h) (Or.inl ⟨by rfl, ?_⟩) hS2 ?_
  rotate_left
  · intro w1 _; go_simp; with_reducible rfl
  try simp only [List.getElem_toArray, List.getElem_cons_zero, List.getElem_cons_succ, Act.put, List.setIfInBounds_toArray, List.set_cons_zero, List.set_cons_succ]
  refine wpAnyH_take (i := 9) (v := ?_) rfl (by kernel_rfl) (by kernel_rfl) (by kernel_rfl) (fun _ _ _ h => h) (Or.inl ⟨by rfl, ?_⟩) hS2 ?_
  rotate_left
  · intro w1 _; go_simp; with_reducible rfl
  try simp only [List.getElem_toArray, List.getElem_cons_zero, List.getElem_cons_succ, Act.put, List.setIfInBounds_toArray, List.set_cons_zero, List.set_cons_succ]
  refine wpAnyH_take (i := 10) (v := .slice qp b.progs.length dp) rfl (by kernel_rfl) (by kernel_rfl) (by kernel_rfl) (fun _ _ _ h => h) (Or.inl ⟨by rfl, fun w1 hS1 => by have h0 : w1.cell? ⟨w.heap.size + 1, 7, none⟩ = some (.slice qp b.progs.length dp) := Blk.cell (Blk.below hB0 hS1 hB0.lt) 7; go_simp⟩) hS2 ?_
  try simp only [List.getElem_toArray, List.getElem_cons_zero, List.getElem_cons_succ, Act.put, List.setIfInBounds_toArray, List.set_cons_zero, List.set_cons_succ]
  refine wpAnyH_take (i := 11) (v := ?_) rfl (by kernel_rfl) (by kernel_rfl) (by kernel_rfl) (fun _ _ _ h => h) (Or.inl ⟨by rfl, ?_⟩) hS2 ?_
  rotate_left
  · intro w1 _; go_simp; with_reducible rfl
  try simp only [List.getElem_toArray, List.getElem_cons_zero, List.getElem_cons_succ, Act.put, List.setIfInBounds_toArray, List.set_cons_zero, List.set_cons_succ]
  refine wpAnyH_take (i := 12) (v := .bool false) rfl (by kernel_rfl) (by kernel_rfl) (by kernel_rfl) (fun _ _ _ h => h) (Or.inl ⟨by rfl, fun w1 hS1 => by first | (go_simp; done) | (go_simp; rw [hp])⟩) hS2 ?_
  try simp only [List.getElem_toArray, List.getElem_cons_zero, List.getElem_cons_succ, Act.put, List.setIfInBounds_toArray, List.set_cons_zero, List.set_cons_succ]
  refine wpAnyH_take (i := 13) (v := ?_) rfl (by kernel_rfl) (by kernel_rfl) (by kernel_rfl) (fun _ _ _ h => h) (Or.inl ⟨by rfl, ?_⟩) hS2 ?_
  rotate_left
  · intro w1 _; go_simp; with_reducible rfl
  try simp only [List.getElem_toArray, List.getElem_cons_zero, List.getElem_cons_succ, Act.put, List.setIfInBounds_toArray, List.set_cons_zero, List.set_cons_succ]
  refine wpAnyH_take (i := 14) (v := ?_) rfl (by kernel_rfl) (by kernel_rfl) (by kernel_rfl) (fun _ _ _ h => h) (Or.inl ⟨by rfl, ?_⟩) hS2 ?_
  rotate_left
  · intro w1 _; go_simp; with_reducible rfl
  try simp only [List.getElem_toArray, List.getElem_cons_zero, List.getElem_cons_succ, Act.put, List.setIfInBounds_toArray, List.set_cons_zero, List.set_cons_succ]
  refine wpAnyH_take (i := 15) (v := ?_) rfl (by kernel_rfl) (by kernel_rfl) (by kernel_rfl) (fun _ _ _ h => h) (Or.inl ⟨by rfl, ?_⟩) hS2 ?_
  rotate_left
  · intro w1 _; go_simp; with_reducible rfl
  try simp only [List.getElem_toArray, List.getElem_cons_zero, List.getElem_cons_succ, Act.put, List.setIfInBounds_toArray, List.set_cons_zero, List.set_cons_succ]
  refine wpAnyH_take (i := 16) (v := .slice ps a.starts.length cs) rfl (by kernel_rfl) (by kernel_rfl) (by kernel_rfl) (fun _ _ _ h => h) (Or.inl ⟨by rfl, fun w1 hS1 => by have h0 : w1.cell? ⟨w.heap.size, 8, none⟩ = some (.slice ps a.starts.length cs) := Blk.cell (Blk.below hA0 hS1 hA0.lt) 8; go_simp⟩) hS2 ?_
  try simp only [List.getElem_toArray, List.getElem_cons_zero, List.getElem_cons_succ, Act.put, List.setIfInBounds_toArray, List.set_cons_zero, List.set_cons_succ]
  refine wpAnyH_take (i := 17) (v := ?_) rfl (by kernel_rfl) (by kernel_rfl) (by kernel_rfl) (fun _ _ _ h => h) (Or.inl ⟨by rfl, ?_⟩) hS2 ?_
  rotate_left
  · intro w1 _; go_simp; with_reducible rfl
  try simp only [List.getElem_toArray, List.getElem_cons_zero, List.getElem_cons_succ, Act.put, List.setIfInBounds_toArray, List.set_cons_zero, List.set_cons_succ]
  refine wpAnyH_take (i := 18) (v := ?_) rfl (by kernel_rfl) (by kernel_rfl) (by kernel_rfl) (fun _ _ _ h => h) (Or.inl ⟨by rfl, ?_⟩) hS2 ?_
  rotate_left
  · intro w1 _; go_simp; with_reducible rfl
  try simp only [List.getElem_toArray, List.getElem_cons_zero, List.getElem_cons_succ, Act.put, List.setIfInBounds_toArray, List.set_cons_zero, List.set_cons_succ]
  refine wpAnyH_take (i := 19) (v := .slice qs b.starts.length ds) rfl (by kernel_rfl) (by kernel_rfl) (by kernel_rfl) (fun _ _ _ h => h) (Or.inl ⟨by rfl, fun w1 hS1 => by have h0 : w1.cell? ⟨w.heap.size + 1, 8, none⟩ = some (.slice qs b.starts.length ds) := Blk.cell (Blk.below hB0 hS1 hB0.lt) 8; go_simp⟩) hS2 ?_
  try simp only [List.getElem_toArray, List.getElem_cons_zero, List.getElem_cons_succ, Act.put, List.setIfInBounds_toArray, List.set_cons_zero, List.set_cons_succ]
  refine wpAnyH_take (i := 20) (v := ?_) rfl (by kernel_rfl) (by kernel_rfl) (by kernel_rfl) (fun _ _ _ h => h) (Or.inl ⟨by rfl, ?_⟩) hS2 ?_
  rotate_left
  · intro w1 _; go_simp; with_reducible rfl
  try simp only [List.getElem_toArray, List.getElem_cons_zero, List.getElem_cons_succ, Act.put, List.setIfInBounds_toArray, List.set_cons_zero, List.set_cons_succ]
  refine wpAnyH_take (i := 21) (v := .bool false) rfl (by kernel_rfl) (by kernel_rfl) (by kernel_rfl) (fun _ _ _ h => h) (Or.inl ⟨by rfl, fun w1 hS1 => by first | (go_simp; done) | (go_simp; rw [hs])⟩) hS2 ?_
  try simp only [List.getElem_toArray, List.getElem_cons_zero, List.getElem_cons_succ, Act.put, List.setIfInBounds_toArray, List.set_cons_zero, List.set_cons_succ]
  refine wpAnyH_take (i := 22) (v := ?_) rfl (by kernel_rfl) (by kernel_rfl) (by kernel_rfl) (fun _ _ _ h => h) (Or.inl ⟨by rfl, ?_⟩) hS2 ?_
  rotate_left
  · intro w1 _; go_simp; with_reducible rfl
  try simp only [List.getElem_toArray, List.getElem_cons_zero, List.getElem_cons_succ, Act.put, List.setIfInBounds_toArray, List.set_cons_zero, List.set_cons_succ]
  refine wpAnyH_done (by kernel_rfl) ?_ _
  have hb1 : Below w.heap.size w v2 := hb0.trans (Below.mono (hS2 : Below W.drew.heap.size W.drew v2) hb0.size)
  have HA1 := Lib.hid (Blk.below hA0 (hS2 : Below W.drew.heap.size W.drew v2) hA0.lt)
  have HB1 := Lib.hid (Blk.below hB0 (hS2 : Below W.drew.heap.size W.drew v2) hB0.lt)
  have HD1 : Hid (DV v2 G (.slice pp a.progs.length cp) (.slice ps a.starts.length cs) a) := Lib.hid (DV.later HD.out.drew (hS2 : Below W.drew.heap.size W.drew v2))
  have HE1 : Hid (DV v2 G' (.slice qp b.progs.length dp) (.slice qs b.starts.length ds) b) := Lib.hid (DV.later HE.out.drew (hS2 : Below W.drew.heap.size W.drew v2))
  clear hA0 hB0 hA hB hb0 hbw HD HE hv1 hv2 hn hp hs
  go_wp2
  go_loopw [5] (fun t wr => ∃ k : Nat, k ≤ a.progs.length ∧ t = .int .i64 k ∧ Hid (a.progs.take k = b.progs.take k) ∧ Hid (DV wr G (.slice pp a.progs.length cp) (.slice ps a.starts.length cs) a) ∧ Hid (DV wr G' (.slice qp b.progs.length dp) (.slice qs b.starts.length ds) b) ∧ Hid (Blk wr w.heap.size 27 (a.cells (.slice pp a.progs.length cp) (.slice ps a.starts.length cs))) ∧ Hid (Blk wr (w.heap.size + 1) 27 (b.cells (.slice qp b.progs.length dp) (.slice qs b.starts.length ds))) ∧ Below w.heap.size w wr) (fun t _ => a.progs.length - (intOf t).toNat)
  case atStart => exact ⟨0, by omega, rfl, Lib.hid (by simp), HD1, HE1, HA1, HB1, hb1⟩
  case round =>
    clear HD1 HE1 HA1 HB1 hb1
    obtain ⟨k, hk, rfl, hg, hD, hE, hA, hB, hb⟩ := hrel
    obtain ⟨_, _, _, _, _, _, _, q7, q8⟩ := duty_at hA.out
    obtain ⟨_, _, _, _, _, _, _, r7, r8⟩ := duty_at hB.out
    by_cases hlt : k < a.progs.length
    · obtain ⟨p, hp⟩ : ∃ p, a.progs[k]? = some p := ⟨_, List.getElem?_eq_getElem hlt⟩
      obtain ⟨q, hq⟩ : ∃ q, b.progs[k]? = some q := ⟨_, List.getElem?_eq_getElem (by rw [← HL1.out]; exact hlt)⟩
      obtain ⟨b1, o1, u1, c1, rfl, hb1l, _, hc1, hr1⟩ := hD.out.progs.at hp
      obtain ⟨b2, o2, u2, c2, rfl, hb2l, _, hc2, hr2⟩ := hE.out.progs.at hq
      have hlt2 : k < b.progs.length := by rw [← HL1.out]; exact hlt
      have hsm := fun W (h1 : RP W G (.slice u1 p.length c1) p) (h2 : RP W G' (.slice u2 q.length c2) q) => Same_any u1 u2 c1 c2 p q (HSH.out p (List.mem_of_getElem? hp)) G G' W h1 h2
      have HP := Lib.hid hp
      have HQ := Lib.hid hq
      have HR1 : Hid (RP wr.drew G (.slice u1 p.length c1) p) := Lib.hid hr1
      have HR2 : Hid (RP wr.drew G' (.slice u2 q.length c2) q) := Lib.hid hr2
      clear hp hq hr1 hr2
      have hbd : Below w.heap.size w wr.drew := hb.drew
      obtain ⟨R, hR⟩ : ∃ R, sameP p q = R := ⟨_, rfl⟩
      simp only [hR] at hsm
      go_wp2_with fail
      refine wp_region_held_drew (S := fun w' => Below wr.drew.heap.size wr.drew w') (by kernel_rfl) (Below.refl _ _) (fun hT0 => ?_)
      refine wpAnyH_take (i := 0) (v := ?_) rfl (by kernel_rfl) (by kernel_rfl) (by kernel_rfl) (fun _ _ _ h => h) (Or.inl ⟨by rfl, ?_⟩) hT0 ?_
      rotate_left
      · intro w1 _; go_simp; with_reducible rfl
      try simp only [List.getElem_toArray, List.getElem_cons_zero, Act.put, List.setIfInBounds_toArray, List.set_cons_zero, List.set_cons_succ]
      refine wpAnyH_take (i := 1) (v := .slice (some ⟨b1, o1, none⟩) a.progs.length cp) rfl (by kernel_rfl) (by kernel_rfl) (by kernel_rfl) (fun _ _ _ h => h) (Or.inl ⟨by rfl, fun w1 hS1 => by have h0 : w1.cell? ⟨w.heap.size, 7, none⟩ = some (.slice (some ⟨b1, o1, none⟩) a.progs.length cp) := Blk.cell (Blk.below (w := wr.drew) hA.out hS1 hA.out.lt) 7; go_simp⟩) hT0 ?_
      try simp only [List.getElem_toArray, List.getElem_cons_zero, List.getElem_cons_succ, Act.put, List.setIfInBounds_toArray, List.set_cons_zero, List.set_cons_succ]
      refine wpAnyH_take (i := 2) (v := ?_) rfl (by kernel_rfl) (by kernel_rfl) (by kernel_rfl) (fun _ _ _ h => h) (Or.inl ⟨by rfl, ?_⟩) hT0 ?_
      rotate_left
      · intro w1 _; go_simp; with_reducible rfl
      try simp only [List.getElem_toArray, List.getElem_cons_zero, List.getElem_cons_succ, Act.put, List.setIfInBounds_toArray, List.set_cons_zero, List.set_cons_succ]
      refine wpAnyH_take (i := 3) (v := ?_) rfl (by kernel_rfl) (by kernel_rfl) (by kernel_rfl) (fun _ _ _ h => h) (Or.inl ⟨by rfl, ?_⟩) hT0 ?_
      rotate_left
      · intro w1 _; go_simp; with_reducible rfl
      try simp only [List.getElem_toArray, List.getElem_cons_zero, List.getElem_cons_succ, Act.put, List.setIfInBounds_toArray, List.set_cons_zero, List.set_cons_succ]
      refine wpAnyH_take (i := 4) (v := .slice u1 p.length c1) rfl (by kernel_rfl) (by kernel_rfl) (by kernel_rfl) (fun _ _ _ h => h) (Or.inl ⟨by rfl, fun w1 hS1 => by have h0 : w1.cell? ⟨b1, o1 + k, none⟩ = some (.slice u1 p.length c1) := (World.cell?_of_block (a := ⟨b1, o1 + k, none⟩) (hS1.block b1 hb1l)).trans hc1; go_simp⟩) hT0 ?_
      try simp only [List.getElem_toArray, List.getElem_cons_zero, List.getElem_cons_succ, Act.put, List.setIfInBounds_toArray, List.set_cons_zero, List.set_cons_succ]
      refine wpAnyH_take (i := 5) (v := ?_) rfl (by kernel_rfl) (by kernel_rfl) (by kernel_rfl) (fun _ _ _ h => h) (Or.inl ⟨by rfl, ?_⟩) hT0 ?_
      rotate_left
      · intro w1 _; go_simp; with_reducible rfl
      try simp only [List.getElem_toArray, List.getElem_cons_zero, List.getElem_cons_succ, Act.put, List.setIfInBounds_toArray, List.set_cons_zero, List.set_cons_succ]
      refine wpAnyH_take (i := 6) (v := .slice (some ⟨b2, o2, none⟩) b.progs.length dp) rfl (by kernel_rfl) (by kernel_rfl) (by kernel_rfl) (fun _ _ _ h => h) (Or.inl ⟨by rfl, fun w1 hS1 => by have h0 : w1.cell? ⟨w.heap.size + 1, 7, none⟩ = some (.slice (some ⟨b2, o2, none⟩) b.progs.length dp) := Blk.cell (Blk.below (w := wr.drew) hB.out hS1 hB.out.lt) 7; go_simp⟩) hT0 ?_
      try simp only [List.getElem_toArray, List.getElem_cons_zero, List.getElem_cons_succ, Act.put, List.setIfInBounds_toArray, List.set_cons_zero, List.set_cons_succ]
      refine wpAnyH_take (i := 7) (v := ?_) rfl (by kernel_rfl) (by kernel_rfl) (by kernel_rfl) (fun _ _ _ h => h) (Or.inl ⟨by rfl, ?_⟩) hT0 ?_
      rotate_left
      · intro w1 _; go_simp; with_reducible rfl
      try simp only [List.getElem_toArray, List.getElem_cons_zero, List.getElem_cons_succ, Act.put, List.setIfInBounds_toArray, List.set_cons_zero, List.set_cons_succ]
      refine wpAnyH_take (i := 8) (v := ?_) rfl (by kernel_rfl) (by kernel_rfl) (by kernel_rfl) (fun _ _ _ h => h) (Or.inl ⟨by rfl, ?_⟩) hT0 ?_
      rotate_left
      · intro w1 _; go_simp; with_reducible rfl
      try simp only [List.getElem_toArray, List.getElem_cons_zero, List.getElem_cons_succ, Act.put, List.setIfInBounds_toArray, List.set_cons_zero, List.set_cons_succ]
      refine wpAnyH_take (i := 9) (v := .slice u2 q.length c2) rfl (by kernel_rfl) (by kernel_rfl) (by kernel_rfl) (fun _ _ _ h => h) (Or.inl ⟨by rfl, fun w1 hS1 => by have h0 : w1.cell? ⟨b2, o2 + k, none⟩ = some (.slice u2 q.length c2) := (World.cell?_of_block (a := ⟨b2, o2 + k, none⟩) (hS1.block b2 hb2l)).trans hc2; go_simp⟩) hT0 ?_
      try simp only [List.getElem_toArray, List.getElem_cons_zero, List.getElem_cons_succ, Act.put, List.setIfInBounds_toArray, List.set_cons_zero, List.set_cons_succ]
      refine wpAnyH_ready (rs := [10]) (by kernel_rfl) (by simp) ?_
      refine AllReadyH.cons rfl (fun K hK => ?_) AllReadyH.nil
      go_simp
      refine (hsm _ (HR1.out.later hT0) (HR2.out.later hT0)).mono ?_
      rintro e w2 ⟨rfl, hb2⟩
      dsimp only
      refine hK.out _ _ (Below.trans hT0 (hb2.mono (hT0).size)) (fun hS1 => ?_); clear hK K
      refine wpAnyH_take (i := 11) (v := ?_) rfl (by kernel_rfl) (by kernel_rfl) (by kernel_rfl) (fun _ _ _ h => h) (Or.inl ⟨by rfl, ?_⟩) hS1 ?_
      rotate_left
      · intro w1 _; go_simp; with_reducible rfl
      try simp only [List.getElem_toArray, List.getElem_cons_zero, List.getElem_cons_succ, Act.put, List.setIfInBounds_toArray, List.set_cons_zero, List.set_cons_succ]
      refine wpAnyH_done (by kernel_rfl) ?_ _
      have hbf : Below w.heap.size w w2 := hbd.trans (Below.mono (hS1 : Below wr.drew.heap.size wr.drew w2) hbd.size)
      cases R
      · go_wp2
        go_ret
        have hne : p ≠ q := fun e => by rw [(sameP_iff p q).2 e] at hR; cases hR
        have hz : R9 = false := by rw [Bool.eq_false_iff]; exact fun h => sameL_not HP.out HQ.out hne (hR9.out.1 h).1
        exact ⟨ret_b9 hz.symm, hbf⟩
      · have hpq := (sameP_iff p q).1 hR
        have HG2 := Lib.hid ((sameL_at HP.out HQ.out hg.out).2 hpq)
        clear hpq hR
        go_wp2
        go_roundw
        case rel => exact ⟨k + 1, by omega, by go_num, HG2, Lib.hid (DV.later hD.out.drew (hS1 : Below wr.drew.heap.size wr.drew w2)), Lib.hid (DV.later hE.out.drew (hS1 : Below wr.drew.heap.size wr.drew w2)), Lib.hid (Blk.below (w := wr.drew) hA.out (hS1 : Below wr.drew.heap.size wr.drew w2) hA.out.lt), Lib.hid (Blk.below (w := wr.drew) hB.out (hS1 : Below wr.drew.heap.size wr.drew w2) hB.out.lt), hbf⟩
        case measure => simp [intOf]; omega
    · obtain rfl : k = a.progs.length := by omega
      have hpe : a.progs = b.progs := by have := hg.out; rwa [List.take_length, HL1.out, List.take_length] at this
      have HPE := Lib.hid hpe
      clear hpe hg hlt hk q7 q8 r7 r8
      obtain ⟨_, _, _, _, _, _, _, q7, q8⟩ := duty_at hA.out
      go_wp2
      go_loopw [6] (fun t wr => ∃ k : Nat, k ≤ a.starts.length ∧ t = .int .i64 k ∧ Hid (a.starts.take k = b.starts.take k) ∧ Hid (DV wr G (.slice pp a.progs.length cp) (.slice ps a.starts.length cs) a) ∧ Hid (DV wr G' (.slice qp b.progs.length dp) (.slice qs b.starts.length ds) b) ∧ Hid (Blk wr w.heap.size 27 (a.cells (.slice pp a.progs.length cp) (.slice ps a.starts.length cs))) ∧ Hid (Blk wr (w.heap.size + 1) 27 (b.cells (.slice qp b.progs.length dp) (.slice qs b.starts.length ds))) ∧ Below w.heap.size w wr) (fun t _ => a.starts.length - (intOf t).toNat)
      case atStart => exact ⟨0, by omega, rfl, Lib.hid (by simp), hD, hE, hA, hB, hb⟩
      case round =>
        clear hD hE hA hB hb q7 q8
        obtain ⟨k, hk, rfl, hg, hD, hE, hA, hB, hb⟩ := hrel
        obtain ⟨_, _, _, _, _, _, _, q7, q8⟩ := duty_at hA.out
        obtain ⟨_, _, _, _, _, _, _, r7, r8⟩ := duty_at hB.out
        by_cases hlt : k < a.starts.length
        · obtain ⟨s, hs⟩ : ∃ s, a.starts[k]? = some s := ⟨_, List.getElem?_eq_getElem hlt⟩
          obtain ⟨t, ht⟩ : ∃ t, b.starts[k]? = some t := ⟨_, List.getElem?_eq_getElem (by rw [← HL2.out]; exact hlt)⟩
          obtain ⟨b1, o1, rfl, _, _, _, e0, e1, e2⟩ := hD.out.starts.at hs
          obtain ⟨b2, o2, rfl, _, _, _, f0, f1, f2⟩ := hE.out.starts.at ht
          have hlt2 : k < b.starts.length := by rw [← HL2.out]; exact hlt
          have hD9 := Lib.hid hs
          have hE9 := Lib.hid ht
          clear hs ht
          have hbd : Below w.heap.size w wr.drew := hb.drew
          obtain ⟨R, hR⟩ : ∃ R, decide (s = t) = R := ⟨_, rfl⟩
          go_wp2_with fail
          refine wp_region_held_drew (S := fun w' => w' = wr.drew) (by kernel_rfl) rfl (fun hT0 => ?_)
          refine wpAnyH_take (i := 0) (v := ?_) rfl (by kernel_rfl) (by kernel_rfl) (by kernel_rfl) (fun _ _ _ h => h) (Or.inl ⟨by rfl, ?_⟩) hT0 ?_
          rotate_left
          · intro w1 _; go_simp; with_reducible rfl
          try simp only [List.getElem_toArray, List.getElem_cons_zero, Act.put, List.setIfInBounds_toArray, List.set_cons_zero, List.set_cons_succ]
          refine wpAnyH_take (i := 1) (v := .slice (some ⟨b1, o1, none⟩) a.starts.length cs) rfl (by kernel_rfl) (by kernel_rfl) (by kernel_rfl) (fun _ _ _ h => h) (Or.inl ⟨by rfl, fun w1 hS1 => by subst hS1; go_simp⟩) hT0 ?_
          try simp only [List.getElem_toArray, List.getElem_cons_zero, List.getElem_cons_succ, Act.put, List.setIfInBounds_toArray, List.set_cons_zero, List.set_cons_succ]
          refine wpAnyH_take (i := 2) (v := ?_) rfl (by kernel_rfl) (by kernel_rfl) (by kernel_rfl) (fun _ _ _ h => h) (Or.inl ⟨by rfl, ?_⟩) hT0 ?_
          rotate_left
          · intro w1 _; go_simp; with_reducible rfl
          try simp only [List.getElem_toArray, List.getElem_cons_zero, List.getElem_cons_succ, Act.put, List.setIfInBounds_toArray, List.set_cons_zero, List.set_cons_succ]
          refine wpAnyH_take (i := 3) (v := ?_) rfl (by kernel_rfl) (by kernel_rfl) (by kernel_rfl) (fun _ _ _ h => h) (Or.inl ⟨by rfl, ?_⟩) hT0 ?_
          rotate_left
          · intro w1 _; go_simp; with_reducible rfl
          try simp only [List.getElem_toArray, List.getElem_cons_zero, List.getElem_cons_succ, Act.put, List.setIfInBounds_toArray, List.set_cons_zero, List.set_cons_succ]
          refine wpAnyH_take (i := 4) (v := .agg #[.int .i64 s.prog, .int .i64 s.grade, .int .u64 (s.mask : Int)]) rfl (by kernel_rfl) (by kernel_rfl) (by kernel_rfl) (fun _ _ _ h => h) (Or.inl ⟨by rfl, fun w1 hS1 => by subst hS1; go_simp⟩) hT0 ?_
          try simp only [List.getElem_toArray, List.getElem_cons_zero, List.getElem_cons_succ, Act.put, List.setIfInBounds_toArray, List.set_cons_zero, List.set_cons_succ]
          refine wpAnyH_take (i := 5) (v := ?_) rfl (by kernel_rfl) (by kernel_rfl) (by kernel_rfl) (fun _ _ _ h => h) (Or.inl ⟨by rfl, ?_⟩) hT0 ?_
          rotate_left
          · intro w1 _; go_simp; with_reducible rfl
          try simp only [List.getElem_toArray, List.getElem_cons_zero, List.getElem_cons_succ, Act.put, List.setIfInBounds_toArray, List.set_cons_zero, List.set_cons_succ]
          refine wpAnyH_take (i := 6) (v := .slice (some ⟨b2, o2, none⟩) b.starts.length ds) rfl (by kernel_rfl) (by kernel_rfl) (by kernel_rfl) (fun _ _ _ h => h) (Or.inl ⟨by rfl, fun w1 hS1 => by subst hS1; go_simp⟩) hT0 ?_
          try simp only [List.getElem_toArray, List.getElem_cons_zero, List.getElem_cons_succ, Act.put, List.setIfInBounds_toArray, List.set_cons_zero, List.set_cons_succ]
          refine wpAnyH_take (i := 7) (v := ?_) rfl (by kernel_rfl) (by kernel_rfl) (by kernel_rfl) (fun _ _ _ h => h) (Or.inl ⟨by rfl, ?_⟩) hT0 ?_
          rotate_left
          · intro w1 _; go_simp; with_reducible rfl
          try simp only [List.getElem_toArray, List.getElem_cons_zero, List.getElem_cons_succ, Act.put, List.setIfInBounds_toArray, List.set_cons_zero, List.set_cons_succ]
          refine wpAnyH_take (i := 8) (v := ?_) rfl (by kernel_rfl) (by kernel_rfl) (by kernel_rfl) (fun _ _ _ h => h) (Or.inl ⟨by rfl, ?_⟩) hT0 ?_
          rotate_left
          · intro w1 _; go_simp; with_reducible rfl
          try simp only [List.getElem_toArray, List.getElem_cons_zero, List.getElem_cons_succ, Act.put, List.setIfInBounds_toArray, List.set_cons_zero, List.set_cons_succ]
          refine wpAnyH_take (i := 9) (v := .agg #[.int .i64 t.prog, .int .i64 t.grade, .int .u64 (t.mask : Int)]) rfl (by kernel_rfl) (by kernel_rfl) (by kernel_rfl) (fun _ _ _ h => h) (Or.inl ⟨by rfl, fun w1 hS1 => by subst hS1; go_simp⟩) hT0 ?_
          try simp only [List.getElem_toArray, List.getElem_cons_zero, List.getElem_cons_succ, Act.put, List.setIfInBounds_toArray, List.set_cons_zero, List.set_cons_succ]
          refine wpAnyH_take (i := 10) (v := .bool (!R)) rfl (by kernel_rfl) (by kernel_rfl) (by kernel_rfl) (fun _ _ _ h => h) (Or.inl ⟨by rfl, fun w1 hS1 => exec_neqS _ _ _ rfl s t rfl rfl R hR w1⟩) hT0 ?_
          try simp only [List.getElem_toArray, List.getElem_cons_zero, List.getElem_cons_succ, Act.put, List.setIfInBounds_toArray, List.set_cons_zero, List.set_cons_succ]
          refine wpAnyH_done (by kernel_rfl) ?_ _
          cases R
          · go_wp2
            go_ret
            have hne : s ≠ t := fun e => by rw [decide_eq_true e] at hR; cases hR
            have hz : R9 = false := by rw [Bool.eq_false_iff]; exact fun h => sameL_not hD9.out hE9.out hne (hR9.out.1 h).2
            exact ⟨ret_b9 hz.symm, hbd⟩
          · have hst := of_decide_eq_true hR
            have HG2 := Lib.hid ((sameL_at hD9.out hE9.out hg.out).2 hst)
            clear hst hR
            go_wp2
            go_roundw
            case rel => exact ⟨k + 1, by omega, by go_num, HG2, Lib.hid hD.out.drew, Lib.hid hE.out.drew, Lib.hid hA.out, Lib.hid hB.out, hbd⟩
            case measure => simp [intOf]; omega
        · obtain rfl : k = a.starts.length := by omega
          have hse : a.starts = b.starts := by have := hg.out; rwa [List.take_length, HL2.out, List.take_length] at this
          go_wp2
          go_ret
          have hz : R9 = true := hR9.out.2 ⟨HPE.out, hse⟩
          exact ⟨ret_b9 hz.symm, hb⟩

theorem RSameY_any (a b : Dut) (ha : a.ok) (hb : b.ok) (hsh : ∀ p ∈ a.progs, p.length ≤ 100000) (hmx : a.progs.length ≤ 100000) (hmx2 : a.starts.length ≤ 100000) (vp vs vp' vs' : Value) (G G' : Nat → Prop) (w : World) (h : DV w G vp vs a) (h' : DV w G' vp' vs' b) :
    Calls Tryz.prog 13 #[.agg (a.cells vp vs), .agg (b.cells vp' vs')] w fun e w' => (∃ r : Bool, e = .returned (.bool r) ∧ (r = true ↔ a = b)) ∧ Below w.heap.size w w' := by
  obtain ⟨pp, cp, rfl, _, _⟩ := h.progs.shape
  obtain ⟨ps, cs, rfl, _, _⟩ := h.starts.shape
  obtain ⟨qp, dp, rfl, _, _⟩ := h'.progs.shape
  obtain ⟨qs, ds, rfl, _, _⟩ := h'.starts.shape
  have hno : ∀ {e : Ending} {w' : World}, ¬ a = b → (e = .returned (.bool false) ∧ Below w.heap.size w w') → (∃ r : Bool, e = .returned (.bool r) ∧ (r = true ↔ a = b)) ∧ Below w.heap.size w w' := fun hn hh => ⟨⟨false, hh.1, by simp [hn]⟩, hh.2⟩
  cases hn : decide (numsY a = numsY b)
  case false => exact (RSameY_0 a b ha hb pp ps qp qs cp cs dp ds w hn).mono fun _ _ hh => hno (fun e => by subst e; simp at hn) hh
  case true =>
    by_cases hpl : a.progs.length = b.progs.length
    · by_cases hsl : a.starts.length = b.starts.length
      · obtain ⟨r, hr⟩ : ∃ r : Bool, r = true ↔ a.progs = b.progs ∧ a.starts = b.starts := by
          by_cases hc : a.progs = b.progs ∧ a.starts = b.starts
          · exact ⟨true, by simp [hc]⟩
          · exact ⟨false, by simp [hc]⟩
        refine (RSameY_3 a b ha hb pp ps qp qs cp cs dp ds w hn hpl hsl hsh hmx hmx2 G G' h h' r (Lib.hid hr)).mono ?_
        rintro e w' ⟨he, hbb⟩
        refine ⟨⟨r, he, ?_⟩, hbb⟩
        rw [hr, ← sameY_iff]
        have := (numsY_inj ha hb).1 (of_decide_eq_true hn)
        exact ⟨fun h => ⟨this, h.1, h.2⟩, fun h => ⟨h.2.1, h.2.2⟩⟩
      · exact (RSameY_2 a b ha hb pp ps qp qs cp cs dp ds w hn (by simp [hpl]) (by simp; omega)).mono fun _ _ hh => hno (fun e => hsl (by rw [e])) hh
    · exact (RSameY_1 a b ha hb pp ps qp qs cp cs dp ds w hn (by simp; omega)).mono fun _ _ hh => hno (fun e => hpl (by rw [e])) hh
end Go.Proofs.YtbdimfcdpkldpaaGreatDoor

namespace Go.Proofs.YtbdimfcdpkldpaaGreatDoor
open Go.RowKit

theorem plain_text : textN9 (plainY 2 3) = [100, 117, 116, 121, 32, 50, 32, 51, 32, 52, 32, 52, 32, 56, 32, 51, 102, 101, 48, 48, 48, 48, 48, 48, 48, 48, 48, 48, 48, 48, 48, 32, 52, 48, 48, 48, 48, 48, 48, 48, 48, 48, 48, 48, 48, 48, 48, 48, 10] := by kernel_rfl
theorem zeroDV (w : World) (G : Nat → Prop) (d : Dut) (hp : d.progs = []) (hs : d.starts = []) : DV w G (.slice none 0 0) (.slice none 0 0) d := by
  refine ⟨?_, ?_⟩
  · rw [hp]; exact RPP.nil _ _
  · rw [hs]; exact RSs.nil _ _
set_option maxRecDepth 100000 in
set_option maxHeartbeats 4000000 in
theorem awakeY_any (w : World) (hT : Tabs w) : Calls Tryz.prog 10 #[] w fun e w' => e = .returned (.bool true) ∧ Below w.heap.size w w' := by
  have hpl := fun W => PlainY_any 2 3 W
  obtain ⟨P, hP⟩ : ∃ P, plainY 2 3 = P := ⟨_, rfl⟩
  have hok : P.ok := by rw [← hP]; exact plainY_ok 2 3
  have hck := fun W => CheckY_any P hok (.slice none 0 0) (.slice none 0 0) (fun _ => False) W (zeroDV W _ P (by rw [← hP]; rfl) (by rw [← hP]; rfl))
  have hc0 : checkY P = 0 := by rw [← hP]; exact plainY_check 2 3
  rw [hc0] at hck
  have htx := fun W (hW : Tabs W) => TextY_any P hok (.slice none 0 0) (.slice none 0 0) (fun _ => False) W (fun k hk => hk.elim) (zeroDV W _ P (by rw [← hP]; rfl) (by rw [← hP]; rfl)) hW
  have hpt : textN9 P = [100, 117, 116, 121, 32, 50, 32, 51, 32, 52, 32, 52, 32, 56, 32, 51, 102, 101, 48, 48, 48, 48, 48, 48, 48, 48, 48, 48, 48, 48, 48, 32, 52, 48, 48, 48, 48, 48, 48, 48, 48, 48, 48, 48, 48, 48, 48, 48, 10] := by rw [← hP]; exact plain_text
  have hcap : P.cap = 4 := by rw [← hP]; rfl
  have htl : (ByteArray.mk (textN9 P).toArray).toList = [100, 117, 116, 121, 32, 50, 32, 51, 32, 52, 32, 52, 32, 56, 32, 51, 102, 101, 48, 48, 48, 48, 48, 48, 48, 48, 48, 48, 48, 48, 48, 32, 52, 48, 48, 48, 48, 48, 48, 48, 48, 48, 48, 48, 48, 48, 48, 48, 10] := by rw [Lib.toList_data, hpt]
  rw [hP] at hpl
  unfold sV at htx
  generalize (ByteArray.mk (textN9 P).toArray) = Z at *
  have HTB := Lib.hid hT
  have tz : (Z.toList == [100, 117, 116, 121, 32, 50, 32, 51, 32, 52, 32, 52, 32, 56, 32, 51, 102, 101, 48, 48, 48, 48, 48, 48, 48, 48, 48, 48, 48, 48, 48, 32, 52, 48, 48, 48, 48, 48, 48, 48, 48, 48, 48, 48, 48, 48, 48, 48, 10]) = true := by rw [htl]; decide
  have HC := Lib.hid hcap
  clear hP hok hc0 hpt htl hT hcap
  go_enter Tryz.func10, Tryz.ntmps10
  go_wp2_with (first
    | (go_at_call 30; (with_reducible refine (hpl _).mono ?_); clear hpl; rintro e w1 ⟨rfl, hb1⟩; have hk1 := Blk.new w1 27 (P.cells (.slice none 0 0) (.slice none 0 0)); have hb2 := below_pre hb1 (below_alloc1 w1 (.cells (P.cells (.slice none 0 0) (.slice none 0 0)) 27)); have q3 := (duty_at hk1).2.2.2.1; rw [HC.out] at q3)
    | (refine wpList_alloc_agg rfl 27 rfl (zeroY.cells (.slice none 0 0) (.slice none 0 0)) zeroYR ?_)
    | (refine wpList_store_row rfl 27 _ _ rfl w1.heap.size (P.cells (.slice none 0 0) (.slice none 0 0)) rfl rfl 27 _ (heap_alloc_new w1 _) (sizeY _ _ _) rfl (oneY _ _ _ _ _ _ _) ?_; rw [World.setRow_alloc_new])
    | (refine wpList_load_row_g rfl 27 _ rfl w1.heap.size rfl 27 _ (0, 0) _ hk1 Tryz.underlying27 rfl (sizeY _ _ _) ?_)
    | (refine wpList_load_row_g rfl 27 _ rfl w1.heap.size rfl 27 _ (0, 0) _ hk3 Tryz.underlying27 rfl (sizeY _ _ _) ?_)
    | (go_at_call 19; (with_reducible refine (hck _).mono ?_); clear hck; rintro e w3 ⟨rfl, hb3⟩; have hk3 := hk1.below hb3 hk1.lt; have hb4 := below_pre hb2 hb3)
    | (go_at_call 8; (with_reducible refine (htx _ (HTB.out.below hb4 (Nat.le_refl _))).mono ?_); clear htx; rintro e w5 ⟨rfl, hb5⟩))
  go_ret
  exact ⟨rfl, below_pre hb4 hb5⟩

/-! ### how much of a duty is looked at -/
theorem RP.take_le {w : World} {G : Nat → Prop} {p : Option Addr} {c n : Nat} {ps : List Deed} (h : RP w G (.slice p n c) ps) (k : Nat) (hk : k ≤ ps.length) : RP w G (.slice p k c) (ps.take k) := by
  obtain ⟨p', c', hv, _, _, hr⟩ := h.first k hk
  cases hv
  exact hr
theorem fewP_small {i : Nat} {p : List Deed} (h : p.length ≤ 40 ∨ (i ≤ 1 ∧ p.length ≤ 300)) : fewP i p = p := by
  unfold fewP
  split
  · rw [List.take_of_length_le (by omega)]
  · rw [List.take_of_length_le (by omega)]
theorem few_new {w : World} {G : Nat → Prop} {q : Option Addr} {cq i : Nat} {p : List Deed} (h : RP w G (.slice q p.length cq) p) (_hc : p.length ≤ cq) :
    ∃ m, RP w G (.slice q m cq) (fewP i p) ∧ ((40 < p.length ∧ 1 < i ∧ m = 40) ∨ (¬ (40 < p.length ∧ 1 < i) ∧ 300 < p.length ∧ m = 300) ∨ (¬ (40 < p.length ∧ 1 < i) ∧ ¬ 300 < p.length ∧ m = p.length)) := by
  by_cases h1 : 40 < p.length ∧ 1 < i
  · refine ⟨40, ?_, .inl ⟨h1.1, h1.2, rfl⟩⟩
    unfold fewP
    rw [if_pos h1.2]
    exact h.take_le 40 (by omega)
  · by_cases h3 : 300 < p.length
    · refine ⟨300, ?_, .inr (.inl ⟨h1, h3, rfl⟩)⟩
      unfold fewP
      rw [if_neg (by omega)]
      exact h.take_le 300 (by omega)
    · refine ⟨p.length, ?_, .inr (.inr ⟨h1, h3, rfl⟩)⟩
      rw [fewP_small (by omega)]
      exact h
/-- The outer row of the programs that are looked at. -/
def FewAt (w wr : World) (G : Nat → Prop) (v : Value) (i : Nat) (L : List (List Deed)) : Prop := ∃ us : List Value, us.length = i ∧ wr.ownsRow (w.heap.size + 2) 45 1 v i us ∧ ∀ (k : Nat) (u : Value) (ps : List Deed), us[k]? = some u → L[k]? = some ps → RP wr G u ps
theorem FewAt.push {w wr w2 : World} {G : Nat → Prop} {i : Nat} {L : List (List Deed)} {us : List Value} {v' u : Value} {p : List Deed} (hu : us.length = i) (ho : w2.ownsRow (w.heap.size + 2) 45 1 v' (i + 1) (us ++ [u]))
    (he : ∀ (k : Nat) (u : Value) (ps : List Deed), us[k]? = some u → L[k]? = some ps → RP wr G u ps) (hp : L[i]? = some p) (hn : RP wr G u p) (hb : Below (w.heap.size + 2) wr w2) (hG : ∀ k, G k → k < w.heap.size) : FewAt w w2 G v' (i + 1) L := by
  have later : ∀ {u : Value} {ps : List Deed}, RP wr G u ps → RP w2 G u ps := fun h => RV.below h hb (fun k _ hk => by have := hG k hk; omega)
  refine ⟨us ++ [u], by simp [hu], ho, fun k x ps hx hl => ?_⟩
  by_cases hk : k < us.length
  · rw [List.getElem?_append_left hk] at hx
    exact later (he k x ps hx hl)
  · rw [List.getElem?_append_right (by omega)] at hx
    have h0 : k - us.length = 0 := by
      have := (List.getElem?_eq_some_iff.1 hx).1
      simp at this
      omega
    rw [h0] at hx
    simp at hx
    subst hx
    rw [show k = i by omega, hp] at hl
    cases hl
    exact later hn
theorem foot_cell9 (w : World) (b i : Nat) (u : Value) : Foot (fun k => k = b) w (w.setCell ⟨b, i, none⟩ u) := Foot.setCell (S := fun k => k = b) (Foot.refl _ w) (p := ⟨b, i, none⟩) (.inl rfl) u
theorem foot_ge {w w' : World} {B : Nat} (h : Below B w w') : Foot (fun k => B ≤ k) w w' := ⟨h.os, h.tape, h.output, h.size, fun k _ hn => h.block k (by omega)⟩
set_option maxRecDepth 100000 in
set_option maxHeartbeats 8000000 in
theorem FewY_any (d : Dut) (vp vs : Value) (G : Nat → Prop) (w : World) (hG : ∀ k, G k → k < w.heap.size) (h : DV w G vp vs d) :
    Calls Tryz.prog 7 #[.agg (d.cells vp vs)] w fun e w' => (∃ vp' vs', e = .returned (.agg ((fewY d).cells vp' vs')) ∧ DV w' (fun k => G k ∨ w.heap.size + 2 ≤ k) vp' vs' (fewY d)) ∧ Below w.heap.size w w' := by
  obtain ⟨i0, hi, hz0, hz1, hz2⟩ := info_parts (show (Tryz.prog.info? 45).map (fun i => (i.zero, i.size, i.bytes)) = some (some (.slice none 0 0), 1, 24) by kernel_rfl)
  obtain ⟨pp, cp, rfl, hcp, hcpm⟩ := h.progs.shape
  obtain ⟨ps, cs, rfl, hcs, hcsm⟩ := h.starts.shape
  obtain ⟨L, hL⟩ : ∃ L, L = fewL d.progs := ⟨_, rfl⟩
  have hLl : L.length = min 66 d.progs.length := by rw [hL]; unfold fewL; rw [fewG_len, List.length_take]
  have hLg : Hid (∀ k p, k < 66 → d.progs[k]? = some p → L[k]? = some (fewP k p)) := Lib.hid fun k p hk hp => by
    have := fewG_get (d.progs.take 66) 0 k p (by rw [List.getElem?_take_of_lt hk]; exact hp)
    rw [Nat.zero_add] at this
    rw [hL]
    exact this
  have HGG := Lib.hid hG
  have hb0 := below_alloc2 w (.cells (d.cells (.slice pp d.progs.length cp) (.slice ps d.starts.length cs)) 27) (.cells (zeroY.cells (.slice none 0 0) (.slice none 0 0)) 27)
  have HK0 := Lib.hid ((Blk.new w 27 (d.cells (.slice pp d.progs.length cp) (.slice ps d.starts.length cs))).alloc (.cells (zeroY.cells (.slice none 0 0) (.slice none 0 0)) 27))
  have HZ0 := Lib.hid (two_new w (.cells (d.cells (.slice pp d.progs.length cp) (.slice ps d.starts.length cs)) 27) 27 (zeroY.cells (.slice none 0 0) (.slice none 0 0)))
  have HD0 := Lib.hid (h.later hb0)
  have HF0 : Hid (FewAt w ((w.alloc (.cells (d.cells (.slice pp d.progs.length cp) (.slice ps d.starts.length cs)) 27)).alloc (.cells (zeroY.cells (.slice none 0 0) (.slice none 0 0)) 27)) G (.slice none 0 0) 0 L) := Lib.hid ⟨[], rfl, World.ownsRow_nil _ _ _ _, fun k u ps h _ => by simp at h⟩
  have HL := Lib.hid hL
  clear h hG hL
  go_enter Tryz.func7, Tryz.ntmps7
  go_wp2_with (first
    | (refine wpList_box_agg rfl 27 _ rfl (d.cells (.slice pp d.progs.length cp) (.slice ps d.starts.length cs)) rfl ?_)
    | (refine wpList_alloc_agg rfl 27 rfl (zeroY.cells (.slice none 0 0) (.slice none 0 0)) zeroYR ?_))
  try simp only [World.size_alloc]
  clear hb0
  have hb1 := below_alloc2 w (.cells (d.cells (.slice pp d.progs.length cp) (.slice ps d.starts.length cs)) 27) (.cells (zeroY.cells (.slice none 0 0) (.slice none 0 0)) 27)
  go_loopw [3, 4] (fun v t wr => ∃ i : Nat, i ≤ 66 ∧ i ≤ d.progs.length ∧ t = .int .i64 i ∧ Hid (FewAt w wr G v i L) ∧ Hid (DV wr G (.slice pp d.progs.length cp) (.slice ps d.starts.length cs) d) ∧ Hid (Blk wr w.heap.size 27 (d.cells (.slice pp d.progs.length cp) (.slice ps d.starts.length cs))) ∧ Hid (Blk wr (w.heap.size + 1) 27 (zeroY.cells (.slice none 0 0) (.slice none 0 0))) ∧ Below (w.heap.size + 2) ((w.alloc (.cells (d.cells (.slice pp d.progs.length cp) (.slice ps d.starts.length cs)) 27)).alloc (.cells (zeroY.cells (.slice none 0 0) (.slice none 0 0)) 27)) wr) (fun _ t _ => 66 - (intOf t).toNat)
  case atStart => exact ⟨0, by omega, by omega, rfl, HF0, HD0, HK0, HZ0, Below.refl _ _⟩
  case round =>
    clear HF0 HD0 HK0 HZ0
    obtain ⟨i, hi6, hil, rfl, hF, hD, hK, hZ, hb⟩ := hrel
    obtain ⟨_, _, _, _, _, _, _, q7, q8⟩ := duty_at hK.out
    by_cases hlt : i < d.progs.length ∧ i < 66
    · obtain ⟨hlt1, hlt2⟩ := hlt
      have t66 : (i : Int) < 66 := by omega
      obtain ⟨p, hp⟩ : ∃ p, d.progs[i]? = some p := ⟨_, List.getElem?_eq_getElem hlt1⟩
      have hLp := Lib.hid (hLg.out i p hlt2 hp)
      obtain ⟨b, off, q, cq, rfl, _, _, hcell, hrp⟩ := hD.out.progs.at hp
      obtain ⟨_, _, hqv, hpc, hcm⟩ := hrp.shape
      cases hqv
      obtain ⟨m, hnew, hcase⟩ := few_new (i := i) hrp hpc
      have HN := Lib.hid hnew
      obtain ⟨us, hul, huo, hue⟩ := hF.out
      have HUE := Lib.hid hue
      have hbz := hb.size
      simp only [World.size_alloc] at hbz
      clear hp hnew hrp hF hue
      rcases hcase with ⟨h40, hi1, rfl⟩ | ⟨hno, h300, rfl⟩ | ⟨hno, h300, rfl⟩
      · have a1 : decide ((p.length : Int) > 40) = true := by simp; omega
        have a2 : decide ((i : Int) > 1) = true := by simp; omega
        have a3 : (40 : Int) ≤ (cq : Int) := by omega
        clear h40 hi1
        go_wp2_with (at_builtin; refine wpList_append_lits rfl _ _ 24 rfl (w.heap.size + 2) 45 i0 (.slice none 0 0) 24 Tryz.underlying24 hi hz0 hz1 hz2 rfl (by decide) huo rfl _ rfl rfl rfl (by omega) (by omega) ?_; intro v' w2 ho5 hb5 _ _)
        have hkk := hK.out.below hb5 (by omega)
        have hzz := hZ.out.below hb5 (by omega)
        go_roundw
        case rel => exact ⟨i + 1, by omega, by omega, by go_num, Lib.hid (FewAt.push hul ho5 HUE.out hLp.out HN.out hb5 HGG.out), Lib.hid (DV.foot hD.out (foot_ge hb5) (fun k hk e => by have := HGG.out k hk; omega)), Lib.hid hkk, Lib.hid hzz, hb.trans hb5⟩
        case measure => simp [intOf]; omega
      · by_cases h40 : 40 < p.length
        · have hi1 : ¬ 1 < i := fun e => hno ⟨h40, e⟩
          have a1 : decide ((p.length : Int) > 40) = true := by simp; omega
          have a2 : decide ((i : Int) > 1) = false := by simp; omega
          have a4 : decide ((p.length : Int) > 300) = true := by simp; omega
          have a3 : (300 : Int) ≤ (cq : Int) := by omega
          clear h40 hi1 hno h300
          go_wp2_with (at_builtin; refine wpList_append_lits rfl _ _ 24 rfl (w.heap.size + 2) 45 i0 (.slice none 0 0) 24 Tryz.underlying24 hi hz0 hz1 hz2 rfl (by decide) huo rfl _ rfl rfl rfl (by omega) (by omega) ?_; intro v' w2 ho5 hb5 _ _)
          have hkk := hK.out.below hb5 (by omega)
          have hzz := hZ.out.below hb5 (by omega)
          go_roundw
          case rel => exact ⟨i + 1, by omega, by omega, by go_num, Lib.hid (FewAt.push hul ho5 HUE.out hLp.out HN.out hb5 HGG.out), Lib.hid (DV.foot hD.out (foot_ge hb5) (fun k hk e => by have := HGG.out k hk; omega)), Lib.hid hkk, Lib.hid hzz, hb.trans hb5⟩
          case measure => simp [intOf]; omega
        · omega
      · by_cases h40 : 40 < p.length
        · have hi1 : ¬ 1 < i := fun e => hno ⟨h40, e⟩
          have a1 : decide ((p.length : Int) > 40) = true := by simp; omega
          have a2 : decide ((i : Int) > 1) = false := by simp; omega
          have a4 : decide ((p.length : Int) > 300) = false := by simp; omega
          clear h40 hi1 hno h300
          go_wp2_with (at_builtin; refine wpList_append_lits rfl _ _ 24 rfl (w.heap.size + 2) 45 i0 (.slice none 0 0) 24 Tryz.underlying24 hi hz0 hz1 hz2 rfl (by decide) huo rfl _ rfl rfl rfl (by omega) (by omega) ?_; intro v' w2 ho5 hb5 _ _)
          have hkk := hK.out.below hb5 (by omega)
          have hzz := hZ.out.below hb5 (by omega)
          go_roundw
          case rel => exact ⟨i + 1, by omega, by omega, by go_num, Lib.hid (FewAt.push hul ho5 HUE.out hLp.out HN.out hb5 HGG.out), Lib.hid (DV.foot hD.out (foot_ge hb5) (fun k hk e => by have := HGG.out k hk; omega)), Lib.hid hkk, Lib.hid hzz, hb.trans hb5⟩
          case measure => simp [intOf]; omega
        · have a1 : decide ((p.length : Int) > 40) = false := by simp; omega
          have a4 : decide ((p.length : Int) > 300) = false := by simp; omega
          clear h40 hno h300
          go_wp2_with (at_builtin; refine wpList_append_lits rfl _ _ 24 rfl (w.heap.size + 2) 45 i0 (.slice none 0 0) 24 Tryz.underlying24 hi hz0 hz1 hz2 rfl (by decide) huo rfl _ rfl rfl rfl (by omega) (by omega) ?_; intro v' w2 ho5 hb5 _ _)
          have hkk := hK.out.below hb5 (by omega)
          have hzz := hZ.out.below hb5 (by omega)
          go_roundw
          case rel => exact ⟨i + 1, by omega, by omega, by go_num, Lib.hid (FewAt.push hul ho5 HUE.out hLp.out HN.out hb5 HGG.out), Lib.hid (DV.foot hD.out (foot_ge hb5) (fun k hk e => by have := HGG.out k hk; omega)), Lib.hid hkk, Lib.hid hzz, hb.trans hb5⟩
          case measure => simp [intOf]; omega
    · have hstop : i = L.length := by rw [hLl]; omega
      have hend : (i = d.progs.length) ∨ (i < d.progs.length ∧ i = 66) := by omega
      have hfw := hF.out
      obtain ⟨us, hul, huo, hue⟩ := hfw
      obtain ⟨op, oc, rfl, -⟩ := id (RV.of_own huo)
      have HUE := Lib.hid hue
      have HST := Lib.hid hstop
      have HNL := Lib.hid hlt
      have hKK := hK.out
      have hZZ := hZ.out
      have hDD := hD.out
      have f7 := hKK.frozen 7
      have hk1 := hKK.set 7 (.slice op i oc)
      have hk1' : Blk (wr.setCell ⟨w.heap.size, 7, none⟩ (.slice op i oc)) w.heap.size 27 (d.cells (.slice op i oc) (.slice ps d.starts.length cs)) := hk1
      have hz1' : Blk (wr.setCell ⟨w.heap.size, 7, none⟩ (.slice op i oc)) (w.heap.size + 1) 27 (zeroY.cells (.slice none 0 0) (.slice none 0 0)) := hZZ.far (by simp) _
      obtain ⟨_, _, _, _, _, _, _, r7, r8⟩ := duty_at hk1'
      have g8 := hk1'.frozen 8
      have hf1 : Foot (fun k => k = w.heap.size) wr (wr.setCell ⟨w.heap.size, 7, none⟩ (.slice op i oc)) := foot_cell9 _ _ _ _
      have hprogs : (fewY d).progs = L := by rw [HL.out]; rfl
      have hcells : ∀ a b, (fewY d).cells a b = d.cells a b := fun _ _ => rfl
      have HPR := Lib.hid hprogs
      have HCL := Lib.hid hcells
      have hbb1 : Below w.heap.size w wr := hb1.trans (hb.mono (by omega))
      have t1 : ((i : Int) < (d.progs.length : Int) ∧ ¬ (i : Int) < 66) ∨ ¬ (i : Int) < (d.progs.length : Int) := by omega
      clear hlt hF hk1 hstop hprogs hcells hue hK hZ hD hend
      have fin : ∀ (wf : World) (sp : Option Addr) (m c : Nat), Foot (fun k => k = w.heap.size ∨ k = w.heap.size + 1) wr wf → RSs wr G (.slice sp m c) (d.starts.take 70) → DV wf (fun k => G k ∨ w.heap.size + 2 ≤ k) (.slice op i oc) (.slice sp m c) (fewY d) := fun wf sp m c hf hs => by
        refine ⟨?_, ?_⟩
        · rw [HPR.out]
          refine ⟨us, by rw [hul, HST.out], ?_, fun k u ps hu hl => ?_⟩
          · rw [← HST.out]
            have hq := hf.own huo (fun k hk e => by have := (huo.lt k hk).1; omega)
            exact RV.mono (RV.of_own hq) (fun k _ hk => .inr (hq.lt k hk).1)
          · exact (RV.foot (HUE.out k u ps hu hl) hf (fun j hj e => by have := HGG.out j hj; omega)).mono (fun j _ hj => .inl hj)
        · exact (RV.foot hs hf (fun j hj e => by have := HGG.out j hj; omega)).mono (fun j _ hj => .inl hj)
      have hs0 : RSs wr G (.slice ps d.starts.length cs) d.starts := hDD.starts
      rcases t1 with ⟨u1, u2⟩ | u1
      all_goals
        by_cases h70 : 70 < d.starts.length
        · have c70 : decide ((d.starts.length : Int) > 70) = true := by simp; omega
          have c71 : (70 : Int) ≤ (cs : Int) := by omega
          obtain ⟨_, _, hv7, _, _, hs7⟩ := RSs.first hs0 70 (by omega)
          cases hv7
          have hk2 : Blk ((wr.setCell ⟨w.heap.size, 7, none⟩ (.slice op i oc)).setCell ⟨w.heap.size, 8, none⟩ (.slice ps 70 cs)) w.heap.size 27 (d.cells (.slice op i oc) (.slice ps 70 cs)) := hk1'.set 8 (.slice ps 70 cs)
          have hz2 : Blk ((wr.setCell ⟨w.heap.size, 7, none⟩ (.slice op i oc)).setCell ⟨w.heap.size, 8, none⟩ (.slice ps 70 cs)) (w.heap.size + 1) 27 (zeroY.cells (.slice none 0 0) (.slice none 0 0)) := hz1'.far (by simp) _
          have hf2 : Foot (fun k => k = w.heap.size) wr ((wr.setCell ⟨w.heap.size, 7, none⟩ (.slice op i oc)).setCell ⟨w.heap.size, 8, none⟩ (.slice ps 70 cs)) := hf1.trans (foot_cell9 _ _ _ _)
          have hf3 : Foot (fun k => k = w.heap.size ∨ k = w.heap.size + 1) wr (((wr.setCell ⟨w.heap.size, 7, none⟩ (.slice op i oc)).setCell ⟨w.heap.size, 8, none⟩ (.slice ps 70 cs)).setRow (w.heap.size + 1) (d.cells (.slice op i oc) (.slice ps 70 cs))) := (hf2.mono (fun k _ hk => .inl hk)).then_ (foot_setRow _ _ _) (fun k hk => .inl (.inr hk))
          have hfin := fin _ ps 70 cs hf3 hs7
          have hbf := hbb1.trans (hf3.below (B := w.heap.size) hbb1.size (fun k hk => by omega))
          clear h70 hs7 hf1 hf2 hf3 fin hs0 hDD
          have HF := Lib.hid hfin
          have HB := Lib.hid hbf
          clear hfin hbf
          go_wp2_with (first
            | (refine wpList_load_row rfl 27 _ rfl w.heap.size rfl 27 _ (0, 0) _ hk2 Tryz.underlying27 rfl (sizeY _ _ _) ?_)
            | (refine wpList_store_row rfl 27 _ _ rfl (w.heap.size + 1) (d.cells (.slice op i oc) (.slice ps 70 cs)) rfl rfl 27 _ hz2 (sizeY _ _ _) rfl (oneY _ _ _ _ _ _ _) ?_))
          refine bodyPost_ret (results_row1 rfl _ _ (w.heap.size + 1) 27 (d.cells (.slice op i oc) (.slice ps 70 cs)) (0, 0) _ rfl (hz2.row _) Tryz.underlying27 rfl (sizeY _ _ _)) rfl ?_
          exact ⟨⟨_, _, by rw [HCL.out], HF.out⟩, HB.out⟩
        · have c70 : decide ((d.starts.length : Int) > 70) = false := by simp; omega
          have hs7 : RSs wr G (.slice ps d.starts.length cs) (d.starts.take 70) := by rw [List.take_of_length_le (by omega)]; exact hs0
          have hf3 : Foot (fun k => k = w.heap.size ∨ k = w.heap.size + 1) wr ((wr.setCell ⟨w.heap.size, 7, none⟩ (.slice op i oc)).setRow (w.heap.size + 1) (d.cells (.slice op i oc) (.slice ps d.starts.length cs))) := (hf1.mono (fun k _ hk => .inl hk)).then_ (foot_setRow _ _ _) (fun k hk => .inl (.inr hk))
          have hfin := fin _ ps d.starts.length cs hf3 hs7
          have hbf := hbb1.trans (hf3.below (B := w.heap.size) hbb1.size (fun k hk => by omega))
          clear h70 hs7 hf1 hf3 fin hs0 hDD
          have HF := Lib.hid hfin
          have HB := Lib.hid hbf
          clear hfin hbf
          go_wp2_with (first
            | (refine wpList_load_row rfl 27 _ rfl w.heap.size rfl 27 _ (0, 0) _ hk1' Tryz.underlying27 rfl (sizeY _ _ _) ?_)
            | (refine wpList_store_row rfl 27 _ _ rfl (w.heap.size + 1) (d.cells (.slice op i oc) (.slice ps d.starts.length cs)) rfl rfl 27 _ hz1' (sizeY _ _ _) rfl (oneY _ _ _ _ _ _ _) ?_))
          refine bodyPost_ret (results_row1 rfl _ _ (w.heap.size + 1) 27 (d.cells (.slice op i oc) (.slice ps d.starts.length cs)) (0, 0) _ rfl (hz1'.row _) Tryz.underlying27 rfl (sizeY _ _ _)) rfl ?_
          exact ⟨⟨_, _, by rw [HCL.out], HF.out⟩, HB.out⟩
end Go.Proofs.YtbdimfcdpkldpaaGreatDoor
