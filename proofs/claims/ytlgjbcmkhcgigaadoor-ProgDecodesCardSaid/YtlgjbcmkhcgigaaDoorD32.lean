/- The contract of the reference's Get, where it ends ahead of its loop. -/
import Derived.Test.YtlgjbcmkhcgigaaDoorLD2
import Derived.Test.YtlgjbcmkhcgigaaDoorLM1
import Derived.Test.YtlgjbcmkhcgigaaDoorLR
namespace Go.Proofs.YtlgjbcmkhcgigaaDoor
open Go.RowKit
open Wire (RS rdByte rdNum truth RsV GetOut)

theorem zeroRd : ∀ w, (zeroValue 85).run Tryd.prog w = .ok (.agg #[.slice none 0 0, .int .i64 0]) w := Tryd.zeroValue85
theorem sizeRd (a b : Value) : (Tryd.prog.info? 85).map (·.size) = some (#[a, b] : Array Value).size := by kernel_rfl
theorem oneRd {p : Option Addr} {n c : Nat} (y : Int) (_ : True) : (#[.slice p n c, .int .i64 y] : Array Value).all (·.oneCell') = true := by simp [Value.oneCell']
theorem results_row_row {P : Program} {fn : Func} {p q : Tmp} {ty ty' : TypeId} (h : fn.results = #[.cell p ty, .cell q ty']) (tmps : Array Value) (w : World) (g : Nat) (t : TypeId) (cs : Array Value) (fr : Nat × Nat) (d : TypeDesc)
    (hp : tmps.getD p undef = .pointer (some ⟨g, 0, none⟩)) (hg : w.heap[g]? = some (.cells cs t fr))
    (hu : P.underlying ty = some d) (hd : (match d with | .struct _ | .array _ _ => true | _ => false) = true) (hi : (P.info? ty).map (·.size) = some cs.size)
    (g' : Nat) (t' : TypeId) (cs' : Array Value) (fr' : Nat × Nat) (d' : TypeDesc)
    (hp' : tmps.getD q undef = .pointer (some ⟨g', 0, none⟩)) (hg' : w.heap[g']? = some (.cells cs' t' fr'))
    (hu' : P.underlying ty' = some d') (hd' : (match d' with | .struct _ | .array _ _ => true | _ => false) = true) (hi' : (P.info? ty').map (·.size) = some cs'.size) :
    (results fn tmps).run P w = .ok (.tuple #[.agg cs, .agg cs']) w := by
  have key : (results fn tmps).run P w = ((asAddr (tmps.getD p undef)).run P w).andThen fun a w₁ => ((loadVar ty a).run P w₁).andThen fun v w₂ => ((asAddr (tmps.getD q undef)).run P w₂).andThen fun a' w₃ => ((loadVar ty' a').run P w₃).andThen fun v' w₄ => .ok (.tuple #[v, v']) w₄ := by
    simp only [results, h]
    simp [Sem.run_bind, Result.andThen]
  rw [key]
  simp only [hp, hp', asAddr, Sem.run_pure, Result.andThen_ok, run_loadVar_row w g t ty cs fr d hg hu hd hi, run_loadVar_row w g' t' ty' cs' fr' d' hg' hu' hd' hi']

/-- What the reference's reader stands at behind a Get that answers y. -/
def outS (y : Nat) (st : RS) : RS := if y = 0 then st else .err y
theorem rs_bad {w w' : World} {G : Nat → Prop} {v : Value} {st : RS} (h : RsV w G v st) (hz : ¬ st.code = 0) : RsV w' G v (outS st.code st) := by
  cases st with
  | ok l => exact absurd rfl hz
  | err e => unfold outS; rw [if_neg hz]; exact h
section
variable (p : Option Addr) (n c : Nat) (y0 : Int) (st : RS) (G : Nat → Prop) (w : World) (hG : ∀ k, G k → k < w.heap.size) (h : RsV w G (.agg #[.slice p n c, .int .i64 y0]) st)
include h
set_option maxRecDepth 100000 in
set_option maxHeartbeats 2000000 in
theorem RGet_err (hc : ¬ (rdByte st).1.code = 0) :
    Calls Tryd.prog 96 #[.agg #[.slice p n c, .int .i64 y0]] w fun e w' => (∃ p n c, e = .returned (.tuple #[.agg #[.slice p n c, .int .i64 ((rdByte st).1.code : Int)], .agg zeroD.cells]) ∧ RsV w' G (.agg #[.slice p n c, .int .i64 ((rdByte st).1.code : Int)]) (outS (rdByte st).1.code (rdByte st).1)) ∧ Below w.heap.size w w' := by
  have g1 : Blk (((w.alloc (.cells #[.slice p n c, .int .i64 y0] 85)).alloc (.cells #[.slice none 0 0, .int .i64 0] 85)).alloc (.cells zeroD.cells 45)) w.heap.size 85 #[.slice p n c, .int .i64 y0] := ((Blk.new w _ _).alloc _).alloc _
  have g2 : Blk (((w.alloc (.cells #[.slice p n c, .int .i64 y0] 85)).alloc (.cells #[.slice none 0 0, .int .i64 0] 85)).alloc (.cells zeroD.cells 45)) (w.heap.size + 1) 85 #[.slice none 0 0, .int .i64 0] := (two_new w _ _ _).alloc _
  have g3 : Blk (((w.alloc (.cells #[.slice p n c, .int .i64 y0] 85)).alloc (.cells #[.slice none 0 0, .int .i64 0] 85)).alloc (.cells zeroD.cells 45)) (w.heap.size + 2) 45 zeroD.cells := by
    have := Blk.new ((w.alloc (.cells #[.slice p n c, .int .i64 y0] 85)).alloc (.cells #[.slice none 0 0, .int .i64 0] 85)) 45 zeroD.cells
    rwa [show ((w.alloc (.cells #[.slice p n c, .int .i64 y0] 85)).alloc (.cells #[.slice none 0 0, .int .i64 0] 85)).heap.size = w.heap.size + 2 by simp] at this
  have hbb : Below w.heap.size w (((w.alloc (.cells #[.slice p n c, .int .i64 y0] 85)).alloc (.cells #[.slice none 0 0, .int .i64 0] 85)).alloc (.cells zeroD.cells 45)) := (below_alloc2 w _ _).alloc (by simp; omega) _
  have hv3 := h.later hbb
  have hget := Wire.GetByte_any _ st G _ hv3
  generalize rdByte st = q at *
  have ty : ((q.1.code : Int) != 0) = true := by simp; omega
  have HC := Lib.hid hc
  clear hc h
  go_enter Tryd.func96, Tryd.ntmps96
  go_wp2_with (first
    | (refine wpList_load_row rfl 85 _ rfl w.heap.size rfl 85 _ (0, 0) _ z1 Tryd.underlying85 rfl (sizeRd _ _) ?_)
    | (refine wpList_box_agg rfl 85 _ rfl #[.slice p n c, .int .i64 y0] rfl ?_)
    | (refine wpList_alloc_agg rfl 85 rfl #[.slice none 0 0, .int .i64 0] zeroRd ?_)
    | (refine wpList_alloc_agg rfl 45 rfl zeroD.cells zeroR ?_)
    | (refine wpList_load_row rfl 85 _ rfl w.heap.size rfl 85 _ (0, 0) _ g1 Tryd.underlying85 rfl (sizeRd _ _) ?_)
    | (go_at_call 112; (with_reducible refine hget.mono ?_); clear hget; rintro e w1 ⟨⟨v1, rfl, hv1⟩, hb1⟩; obtain ⟨p1, n1, c1, rfl⟩ := hv1.shape; have x1 := g1.below hb1 g1.lt; have x2 := g2.below hb1 g2.lt; have x3 := g3.below hb1 g3.lt; have hbw1 := below_pre hbb hb1)
    | (refine wpList_store_row rfl 85 _ _ rfl w.heap.size #[.slice p1 n1 c1, .int .i64 (q.1.code : Int)] rfl rfl 85 _ x1 (sizeRd _ _) rfl (oneRd _ trivial) ?_; have z1 := x1.row #[.slice p1 n1 c1, .int .i64 (q.1.code : Int)]; have z2 := x2.foot (foot_setRow w1 w.heap.size #[.slice p1 n1 c1, .int .i64 (q.1.code : Int)]) (by omega); have z3 := x3.foot (foot_setRow w1 w.heap.size #[.slice p1 n1 c1, .int .i64 (q.1.code : Int)]) (by omega); have zc : (w1.setRow w.heap.size #[.slice p1 n1 c1, .int .i64 (q.1.code : Int)]).cell? ⟨w.heap.size, 1, none⟩ = some (.int .i64 (q.1.code : Int)) := z1.cell 1; have hbw2 := hbw1.trans (foot_row (w := w1) (B := w.heap.size) #[.slice p1 n1 c1, .int .i64 (q.1.code : Int)] (Nat.le_refl _)))
    | (refine wpList_store_row rfl 85 _ _ rfl (w.heap.size + 1) #[.slice p1 n1 c1, .int .i64 (q.1.code : Int)] rfl rfl 85 _ z2 (sizeRd _ _) rfl (oneRd _ trivial) ?_; have u2 := z2.row #[.slice p1 n1 c1, .int .i64 (q.1.code : Int)]; have u3 := z3.foot (foot_setRow _ (w.heap.size + 1) #[.slice p1 n1 c1, .int .i64 (q.1.code : Int)]) (by omega))
    | (refine wpList_store_row rfl 45 _ _ rfl (w.heap.size + 2) zeroD.cells rfl rfl 45 _ u3 (sizeD _) rfl (oneD _) ?_; have q2 := u2.foot (foot_setRow _ (w.heap.size + 2) zeroD.cells) (by omega); have q3 := u3.row zeroD.cells))
  refine bodyPost_ret (results_row_row rfl _ _ (w.heap.size + 1) 85 #[.slice p1 n1 c1, .int .i64 (q.1.code : Int)] (0, 0) _ rfl q2 Tryd.underlying85 rfl (sizeRd _ _) (w.heap.size + 2) 45 zeroD.cells (0, 0) _ rfl q3 Tryd.underlying45 rfl (sizeD _)) rfl ?_
  exact ⟨⟨_, _, _, rfl, rs_bad hv1 HC.out⟩, (hbw2.trans (foot_row _ (by omega))).trans (foot_row _ (by omega))⟩

set_option maxRecDepth 100000 in
set_option maxHeartbeats 2000000 in
theorem RGet_op (hc : (rdByte st).1.code = 0) (ho : ¬ isOp (rdByte st).2 = true) :
    Calls Tryd.prog 96 #[.agg #[.slice p n c, .int .i64 y0]] w fun e w' => (∃ p n c, e = .returned (.tuple #[.agg #[.slice p n c, .int .i64 3], .agg zeroD.cells]) ∧ RsV w' G (.agg #[.slice p n c, .int .i64 3]) (outS 3 (rdByte st).1)) ∧ Below w.heap.size w w' := by
  have g1 : Blk (((w.alloc (.cells #[.slice p n c, .int .i64 y0] 85)).alloc (.cells #[.slice none 0 0, .int .i64 0] 85)).alloc (.cells zeroD.cells 45)) w.heap.size 85 #[.slice p n c, .int .i64 y0] := ((Blk.new w _ _).alloc _).alloc _
  have g2 : Blk (((w.alloc (.cells #[.slice p n c, .int .i64 y0] 85)).alloc (.cells #[.slice none 0 0, .int .i64 0] 85)).alloc (.cells zeroD.cells 45)) (w.heap.size + 1) 85 #[.slice none 0 0, .int .i64 0] := (two_new w _ _ _).alloc _
  have g3 : Blk (((w.alloc (.cells #[.slice p n c, .int .i64 y0] 85)).alloc (.cells #[.slice none 0 0, .int .i64 0] 85)).alloc (.cells zeroD.cells 45)) (w.heap.size + 2) 45 zeroD.cells := by
    have := Blk.new ((w.alloc (.cells #[.slice p n c, .int .i64 y0] 85)).alloc (.cells #[.slice none 0 0, .int .i64 0] 85)) 45 zeroD.cells
    rwa [show ((w.alloc (.cells #[.slice p n c, .int .i64 y0] 85)).alloc (.cells #[.slice none 0 0, .int .i64 0] 85)).heap.size = w.heap.size + 2 by simp] at this
  have hbb : Below w.heap.size w (((w.alloc (.cells #[.slice p n c, .int .i64 y0] 85)).alloc (.cells #[.slice none 0 0, .int .i64 0] 85)).alloc (.cells zeroD.cells 45)) := (below_alloc2 w _ _).alloc (by simp; omega) _
  have hv3 := h.later hbb
  have hget := Wire.GetByte_any _ st G _ hv3
  have hno := isOp_not ho
  have hs := Wire.rdByte_snd st
  generalize rdByte st = q at *
  obtain ⟨q1, k⟩ := q
  simp only at hc hno hget hs
  have ty : ((q1.code : Int) != 0) = false := by simp [hc]
  clear ho h hc
  rcases (show k = 0 ∨ (¬ k < 1 ∧ ¬ k = 0 ∧ 11 < k) by omega) with rfl | ⟨hk1, hk0, hk2⟩
  all_goals
    go_enter Tryd.func96, Tryd.ntmps96
    go_wp2_with (first
      | (refine wpList_load_row rfl 85 _ rfl w.heap.size rfl 85 _ (0, 0) _ z1 Tryd.underlying85 rfl (sizeRd _ _) ?_)
      | (refine wpList_box_agg rfl 85 _ rfl #[.slice p n c, .int .i64 y0] rfl ?_)
      | (refine wpList_alloc_agg rfl 85 rfl #[.slice none 0 0, .int .i64 0] zeroRd ?_)
      | (refine wpList_alloc_agg rfl 45 rfl zeroD.cells zeroR ?_)
      | (refine wpList_load_row rfl 85 _ rfl w.heap.size rfl 85 _ (0, 0) _ g1 Tryd.underlying85 rfl (sizeRd _ _) ?_)
      | (go_at_call 112; (with_reducible refine hget.mono ?_); clear hget; rintro e w1 ⟨⟨v1, rfl, hv1⟩, hb1⟩; obtain ⟨p1, n1, c1, rfl⟩ := hv1.shape; have x1 := g1.below hb1 g1.lt; have x2 := g2.below hb1 g2.lt; have x3 := g3.below hb1 g3.lt; have hbw1 := below_pre hbb hb1)
      | (refine wpList_store_row rfl 85 _ _ rfl w.heap.size #[.slice p1 n1 c1, .int .i64 (q1.code : Int)] rfl rfl 85 _ x1 (sizeRd _ _) rfl (oneRd _ trivial) ?_; have z1 := x1.row #[.slice p1 n1 c1, .int .i64 (q1.code : Int)]; have z2 := x2.foot (foot_setRow w1 w.heap.size #[.slice p1 n1 c1, .int .i64 (q1.code : Int)]) (by omega); have z3 := x3.foot (foot_setRow w1 w.heap.size #[.slice p1 n1 c1, .int .i64 (q1.code : Int)]) (by omega); have zc : (w1.setRow w.heap.size #[.slice p1 n1 c1, .int .i64 (q1.code : Int)]).cell? ⟨w.heap.size, 1, none⟩ = some (.int .i64 (q1.code : Int)) := z1.cell 1; have hbw2 := hbw1.trans (foot_row (w := w1) (B := w.heap.size) #[.slice p1 n1 c1, .int .i64 (q1.code : Int)] (Nat.le_refl _)))
      | (refine wpList_store_row rfl 85 _ _ rfl (w.heap.size + 1) #[.slice none 0 0, .int .i64 3] rfl rfl 85 _ z2 (sizeRd _ _) rfl (oneRd _ trivial) ?_; have u2 := z2.row #[.slice none 0 0, .int .i64 3]; have u3 := z3.foot (foot_setRow _ (w.heap.size + 1) #[.slice none 0 0, .int .i64 3]) (by omega))
      | (refine wpList_store_row rfl 45 _ _ rfl (w.heap.size + 2) zeroD.cells rfl rfl 45 _ u3 (sizeD _) rfl (oneD _) ?_; have q2 := u2.foot (foot_setRow _ (w.heap.size + 2) zeroD.cells) (by omega); have q3 := u3.row zeroD.cells))
    refine bodyPost_ret (results_row_row rfl _ _ (w.heap.size + 1) 85 #[.slice none 0 0, .int .i64 3] (0, 0) _ rfl q2 Tryd.underlying85 rfl (sizeRd _ _) (w.heap.size + 2) 45 zeroD.cells (0, 0) _ rfl q3 Tryd.underlying45 rfl (sizeD _)) rfl ?_
    exact ⟨⟨_, _, _, rfl, Wire.RsV.nil (by decide)⟩, (hbw2.trans (foot_row _ (by omega))).trans (foot_row _ (by omega))⟩
end
end Go.Proofs.YtlgjbcmkhcgigaaDoor
