/- The contract of told: a loop over the iterator, which may be left. -/
import Derived.Test.YtjdklmglljhjhaaDoorW8
namespace Go.Proofs.YtjdklmglljhjhaaDoor
open Go.RowKit Go.Shelf
attribute [local go_sem] Oper.semAt_some

theorem nf46 (first cap : Array Value) (w : World) : (binOp .eql 46 (.func (.func 37) first cap) .nilFunc).run Tryd.prog w = .ok (.bool false) w := by kernel_rfl

/-- What the box holds between two rounds. -/
def toldI (w : World) (most : Nat) (pre : List (Fin 64)) (W : World) : Prop :=
  ((∃ v, Boxed W (w.heap.size + 2) 22 v ∧ W.ownsRow (w.heap.size + 1) 3 1 v pre.length ((ints pre).map (Value.int .i64)) ∧ pre.length ≤ most) ∧ Boxed W w.heap.size 3 (.int .i64 most)) ∧ Below w.heap.size w W
/-- What it holds where a round has left. -/
def toldX (w : World) (most : Nat) (c : Code) (pre : List (Fin 64)) (W : World) : Prop :=
  (∃ v, Boxed W (w.heap.size + 2) 22 v ∧ W.ownsRow (w.heap.size + 1) 3 1 v pre.dropLast.length ((ints pre.dropLast).map (Value.int .i64)) ∧ (c = .exit 0 ∧ pre.dropLast.length = most)) ∧ Below w.heap.size w W

theorem take_dropLast (pre : List (Fin 64)) (r : List Int) : (ints pre ++ r).take pre.dropLast.length = ints pre.dropLast := by
  rcases List.eq_nil_or_concat pre with rfl | ⟨ys, y, rfl⟩
  · simp [ints]
  · rw [List.concat_eq_append, List.dropLast_concat, ints_snoc, List.append_assoc, List.take_append_of_le_length (by rw [ints_len]; exact Nat.le_refl _), List.take_of_length_le (by rw [ints_len]; exact Nat.le_refl _)]

set_option maxRecDepth 100000 in
set_option maxHeartbeats 1000000 in
theorem told_any (n : Nat) (hn : n < 18446744073709551616) (most : Nat) (_hmost : most < 1000) (w : World) (hT : TabAt 0 Lib.deBruijn64tab w) :
    Calls Tryd.prog 26 #[.int .u64 n, .int .i64 most] w fun e w' => ∃ v, e = .returned (.tuple #[v, .bool true]) ∧
      w'.ownsRow w.heap.size 3 1 v ((memL n 64).take most).length (((memL n 64).take most).map (Value.int .i64)) ∧ Below w.heap.size w w' := by
  obtain ⟨i0, hi, hz0, hz1, hz2⟩ := info_parts info3
  have hw0 : 0 < w.heap.size := by
    have := hT 0 (by decide)
    exact block_lt_of_cell this
  have HT := Lib.hid hT
  clear hT
  have hnf := nf46
  refine (callsIn_wide (n := 4)).1 ?_
  refine callsIn_of_wp_marks Tryd.func26 rfl trivial ?_ rfl
  simp only [Tryd.ntmps26, List.size_toArray, List.length_cons, List.length_nil, Nat.reduceAdd, Nat.reduceSub, Array.replicate_succ, Array.replicate_zero, List.push_toArray, List.append_toArray, List.nil_append, List.cons_append]
  gi_wp2_with (refine ⟨trivial, ?_⟩; gi_at_call 33; refine (callsIn_wide.2 (Each_any n _)).mono ?_; rintro e w1 ⟨rfl, rfl⟩)
  have bM := Boxed.new w 3 (.int .i64 most)
  have bE := Boxed.new (w.alloc (.cells #[.int .i64 most] 3)) 23 (.int .u64 n)
  rw [World.size_alloc] at bE
  have bL := Boxed.new ((w.alloc (.cells #[.int .i64 most] 3)).alloc (.cells #[.int .u64 n] 23)) 22 (.slice none 0 0)
  simp only [World.size_alloc] at bL
  have hB0 : Below w.heap.size w (((w.alloc (.cells #[.int .i64 most] 3)).alloc (.cells #[.int .u64 n] 23)).alloc (.cells #[.slice none 0 0] 22)) := (((Below.refl _ w).alloc (Nat.le_refl _) _).alloc (by simp) _).alloc (by simp; omega) _
  refine wpIn_rangeFunc_ownG rfl (by omega) (gf := 37) (lb := #[.pointer (some ⟨w.heap.size + 1, 0, none⟩)]) rfl trivial (enters_of Tryd.func37 (by kernel_rfl) rfl)
    (each_stops 3 (by omega) (w.heap.size + 1) w.heap.size n hn _ (by simp) (by simp; omega) hw0 (bE.alloc _).cell (tab_below HT.out hB0 hw0)) belowK_t (belowK_b (by simp; omega)) (Below.refl _ _) (fun _ => rfl)
    (toldI w most) (toldX w most)
    (OwnFrom.and (OwnFrom.and (Own.from (holdsRow_own (w.heap.size + 1) (w.heap.size + 2) 22 3 1 (fun pre : List (Fin 64) => pre.length) (fun pre => (ints pre).map (Value.int .i64)) (fun pre _ => pre.length ≤ most)) _) (Own.from (boxed_own _ _ _) _)) (ownFrom_below (Nat.le_refl _) (by simp; omega)))
    (fun c => OwnFrom.and (Own.from (holdsRow_own (w.heap.size + 1) (w.heap.size + 2) 22 3 1 (fun pre : List (Fin 64) => pre.dropLast.length) (fun pre => (ints pre.dropLast).map (Value.int .i64)) (fun pre _ => c = .exit 0 ∧ pre.dropLast.length = most)) _) (ownFrom_below (Nat.le_refl _) (by simp; omega)))
    ⟨⟨⟨_, bL, World.ownsRow_nil _ _ _ _, by simp⟩, (bM.alloc _).alloc _⟩, hB0⟩
    (fun x => { tmps := #[.int .u64 n, .int .i64 most, undef, .pointer (some ⟨w.heap.size, 0, none⟩), .slice none 0 0, .bool false, .func (.func 37) #[] #[.pointer (some ⟨w.heap.size + 1, 0, none⟩)], .pointer (some ⟨w.heap.size + 2, 0, none⟩), .int .i64 (x.val : Int), .int .u64 n, .func (.func 37) #[] #[.pointer (some ⟨w.heap.size + 1, 0, none⟩)], .func (.func 37) #[] #[.pointer (some ⟨w.heap.size + 1, 0, none⟩)], .bool false, .func (.func 37) #[] #[.pointer (some ⟨w.heap.size + 1, 0, none⟩)], .int .i64 (x.val : Int), undef, undef, undef, undef, undef, undef, undef, undef, undef], defers := [] }) ?assign ?body ?done ?stop
  case assign =>
    intro l x W K hK
    gi_wp2
    exact hK
  case body =>
    rintro l pre x W ⟨⟨⟨v, hv, hrow, hle⟩, hM⟩, hB⟩ hlt
    have hc := hv.cell
    have hcm := hM.cell
    obtain ⟨p, cc, rfl⟩ : ∃ p cc, v = .slice p pre.length cc := by
      rcases hrow.2 with ⟨rfl, h0⟩ | ⟨g, cap, cur, rfl, _⟩
      · exact ⟨none, 0, by rw [h0]⟩
      · exact ⟨_, cap, rfl⟩
    by_cases hge : most ≤ pre.length
    · gi_wp2
      exact ⟨KeepsFrom.refl _ _, ⟨_, hv, by rw [List.dropLast_concat]; exact hrow, rfl, by rw [List.dropLast_concat]; omega⟩, hB⟩
    · gi_wp2_with (gi_at_builtin; refine wpListIn_append_own _ rfl _ _ 22 rfl (w.heap.size + 1) 3 i0 (.int .i64 0) 1 8 Tryd.underlying22 hi hz0 hz1 hz2 rfl (by decide) _ _ _ rfl (hrow.alloc _) ⟨W.heap.size, 0, none⟩ 1 1 [.int .i64 (x.val : Int)] rfl rfl (cell_one_new _ _ _) (by simp [Value.oneCell']) (by unfold maxLen; omega) (by omega) (by have := hM.lt; simp; omega) ?_; intro v' w1 hown' hgrow _; obtain ⟨g', cap', rfl⟩ := ownsRow_succ hown'; obtain ⟨hv1, hv2, hr2, hk2, hb2⟩ := hv.appended (by decide) hrow hM.lt (by omega) hown' hgrow; have hc1 := hv1.cell; have hf1 := hv1.frozen)
      have hbb := hb2.mono (Nat.le_succ w.heap.size)
      exact ⟨hk2.from _, hbb, ⟨⟨_, hv2, by rw [ints_snoc, List.length_append, List.map_append]; exact hr2, by simp; omega⟩, Boxed.other (Boxed.kept (Boxed.alloc hM _) hgrow (fun e => by have := (hrow.lt _ e.symm).1; omega)) (by omega) _⟩, hB.trans hbb⟩
  case done =>
    rintro D ys W hD hys ⟨⟨⟨v, hv, hrow, hle⟩, hM⟩, hB⟩ hK
    have hc := hv.cell
    gi_wp2
    refine ⟨by simp, .inl ⟨_, _, rfl, run_takeDeferred hK, ?_⟩⟩
    refine ⟨_, results_tmp2 rfl _ _ _, v, rfl, ?_, hB.trans (belowK_b (w := w) (Nat.le_refl _) W D _ _ (by simp at hD; omega) hK rfl rfl)⟩
    have he : (memL n 64).take most = ints ys := by
      rw [← hys, List.take_of_length_le (by rw [ints_len]; exact hle)]
    rw [he, ints_len]
    exact ownsRow_putObj (hrow.mono (Nat.le_succ _)) _ hK rfl
  case stop =>
    rintro D c pre W hD hSp ⟨⟨v, hv, hrow, rfl, hle⟩, hB⟩ hK
    have hc := hv.cell
    gi_wp2
    refine ⟨by simp, .inl ⟨_, _, rfl, run_takeDeferred hK, ?_⟩⟩
    refine ⟨_, results_tmp2 rfl _ _ _, v, rfl, ?_, hB.trans (belowK_b (w := w) (Nat.le_refl _) W D _ _ (by simp at hD; omega) hK rfl rfl)⟩
    have he : (memL n 64).take most = ints pre.dropLast := by
      obtain ⟨r, hr⟩ := hSp
      rw [← hr]
      rw [← hle]
      exact take_dropLast pre r
    rw [he, ints_len]
    exact ownsRow_putObj (hrow.mono (Nat.le_succ _)) _ hK rfl
end Go.Proofs.YtjdklmglljhjhaaDoor
