/- The contract of package sets' Text. -/
import Derived.Test.YtjdklmglljhjhaaDoorW9
import Derived.Test.YtjdklmglljhjhaaDoorShelf
import Derived.Stop.RegionWithIn
import Derived.Deep.AppendLies
namespace Go.Proofs.YtjdklmglljhjhaaDoor
open Go.RowKit Go.Shelf
attribute [local go_sem] Oper.semAt_some

/-- A list of members as their numerals. -/
def nums (l : List (Fin 64)) : List ByteArray := l.map fun x => ⟨(Lib.decDigits x.val).toArray⟩
theorem nums_snoc (l : List (Fin 64)) (x : Fin 64) : nums (l ++ [x]) = nums l ++ [⟨(Lib.decDigits x.val).toArray⟩] := by simp [nums]
theorem nums_len (l : List (Fin 64)) : (nums l).length = l.length := by simp [nums]
theorem info9 : (Tryd.prog.info? 9).map (fun i => (i.zero, i.size, i.bytes)) = some (some (.string ⟨#[]⟩), 1, 16) := by kernel_rfl

def textI (w : World) (B : Nat) (pre : List (Fin 64)) (W : World) : Prop :=
  (∃ v, Boxed W B 44 v ∧ W.ownsRow w.heap.size 9 1 v pre.length ((nums pre).map Value.string) ∧ True) ∧ Below w.heap.size w W

theorem textL_len (xs : List Int) (h : ∀ x ∈ xs, ∃ m : Nat, x = (m : Int) ∧ m < 64) : ∀ k, k ≤ xs.length → (textL (xs.take k)).length ≤ 3 * k
  | 0, _ => by simp [textL_nil]
  | k + 1, hk => by
    have ih := textL_len xs h k (by omega)
    have hx : xs[k]? = some xs[k] := List.getElem?_eq_getElem (by omega)
    obtain ⟨m, hm, hm6⟩ := h xs[k] (List.getElem_mem (by omega))
    have hd := dec_len m (by omega)
    rw [hm] at hx
    by_cases hk0 : k = 0
    · subst hk0
      rw [textL_first xs m hx]
      simp only [Int.toNat_natCast]; omega
    · rw [textL_more xs k m (by omega) hx]
      simp only [Int.toNat_natCast, List.length_append, List.length_cons, List.length_nil]; omega
theorem join_nums (ys : List (Fin 64)) : Lib.join ((nums ys).map (·.data.toList)) (ByteArray.mk #[44]).data.toList = textL (ints ys) := by
  unfold textL nums ints
  rw [List.map_map, List.map_map]
  rfl

/-- A builtin append at a step of a region that draws its order, inside a fence, by the equation of its run. -/
theorem stepIn_append {F : Fence} {n : Nat} {P : Program} {w : World} {ops : Array Oper} {o : Oper} {a : Act} {K : Act → World → Prop} {Q : Exit → Act → World → Prop} {E : Prop}
    (hg : o.guard = none) (s x : Operand) (t : TypeId) (hop : o.op = Op.call { callee := Callee.builtin Builtin.append, args := #[s, x], argTypes := #[t, t] })
    (v xv v' : Value) (w' : World) (hs : a.eval s = v) (hx : a.eval x = xv) (hrun : (Builtin.append_ #[t, t] o.type #[v, xv]).run P w = .ok v' w')
    (hK : K (a.put o.dst v') w') : if Region.wanted o (yielded ops a.tmps) = true then Oper.wpIn F n P o a w K Q else E := by
  have hw : Region.wanted o (yielded ops a.tmps) = true := by simp [Region.wanted, hg]
  rw [if_pos hw]
  unfold Oper.wpIn
  refine ⟨?_, ?_⟩
  · simp [Oper.about, hop, resolve, Target.leads, Sem.run_pure]
  · rw [Oper.semAt_plain F _ _ (by rw [hop]; intro c hc'; cases hc')]
    simp [execOp, hop, resolve, invoke, builtin, hs, hx, hrun, Result.andThen]
    exact hK

set_option maxRecDepth 100000 in
set_option maxHeartbeats 1000000 in
theorem Text_pos (n : Nat) (hn : n < 18446744073709551616) (h0 : n ≠ 0) (w : World) (hT : TabAt 0 Lib.deBruijn64tab w) :
    Calls Tryd.prog 24 #[.int .u64 n] w fun e w' => e = .returned (.string ⟨(textN n).toArray⟩) ∧ Below w.heap.size w w' := by
  obtain ⟨i0, hi, hz0, hz1, hz2⟩ := info_parts info9
  have hw0 : 0 < w.heap.size := by
    have := hT 0 (by decide)
    exact block_lt_of_cell this
  have HT := Lib.hid hT
  clear hT
  have hb0 : ((n : Int) == 0) = false := by simp; omega
  have hl := memL_len n 64
  generalize hlen : (memL n 64).length = len at hl
  have Hlen := Lib.hid hlen
  clear hlen
  refine (callsIn_wide (n := 4)).1 ?_
  refine callsIn_of_wp_marks Tryd.func24 rfl trivial ?_ rfl
  simp only [Tryd.ntmps24, List.size_toArray, List.length_cons, List.length_nil, Nat.reduceAdd, Nat.reduceSub, Array.replicate_succ, Array.replicate_zero, List.push_toArray, List.append_toArray, List.nil_append, List.cons_append]
  gi_wp2_with (first | (gi_at_make; refine wpListIn_make_own _ rfl _ _ 44 rfl w.heap.size 9 i0 (.string ⟨#[]⟩) 1 Tryd.underlying44 hi hz0 hz1 .i64 .i64 len len rfl rfl rfl (by rw [hz2]; omega) (by unfold maxLen; omega) (Nat.le_refl _) ?_; intro w1 hrow hgrow) | (refine ⟨trivial, ?_⟩; gi_at_call 18; refine (callsIn_wide.2 (Count_any n hn _)).mono ?_; rintro e w1 ⟨rfl, rfl⟩; rw [Hlen.out]) | (refine ⟨trivial, ?_⟩; gi_at_call 33; refine (callsIn_wide.2 (Each_any n _)).mono ?_; rintro e w1 ⟨rfl, rfl⟩))
  have hB1 : Below w.heap.size w w1 := (Below.refl _ _).grown hgrow (Nat.le_refl _) (fun k e => by cases e)
  have hs1 := hB1.size
  have bL := Boxed.new w1 44 (.slice (some ⟨w.heap.size, 0, none⟩) 0 len)
  have bE := Boxed.new (w1.alloc (.cells #[.slice (some ⟨w.heap.size, 0, none⟩) 0 len] 44)) 23 (.int .u64 n)
  simp only [World.size_alloc] at bE
  have hB0 : Below w.heap.size w ((w1.alloc (.cells #[.slice (some ⟨w.heap.size, 0, none⟩) 0 len] 44)).alloc (.cells #[.int .u64 n] 23)) := (hB1.alloc hs1 _).alloc (by simp; omega) _
  refine wpIn_rangeFunc_ownG rfl (by omega) (gf := 37) (lb := #[.pointer (some ⟨w1.heap.size + 1, 0, none⟩)]) rfl trivial (enters_of Tryd.func37 (by kernel_rfl) rfl)
    (each_stops 3 (by omega) (w1.heap.size + 1) w.heap.size n hn _ (by simp) (by simp; omega) hw0 bE.cell (tab_below HT.out hB0 hw0)) belowK_t (belowK_b (by simp; omega)) (Below.refl _ _) (fun _ => rfl)
    (textI w w1.heap.size) (fun _ _ _ => False)
    (OwnFrom.and (Own.from (holdsRow_own w.heap.size w1.heap.size 44 9 1 (fun pre : List (Fin 64) => pre.length) (fun pre => (nums pre).map Value.string) (fun _ _ => True)) _) (ownFrom_below (Nat.le_refl _) (by simp; omega)))
    (fun _ _ _ _ _ hs _ _ => hs)
    ⟨⟨_, bL.alloc _, (hrow.alloc _).alloc _, trivial⟩, hB0⟩
    (fun x => { tmps := #[.int .u64 n, undef, .string ⟨#[]⟩, .pointer (some ⟨w1.heap.size, 0, none⟩), .int .i64 (x.val : Int), .int .u64 n, .bool false, .int .u64 n, .int .i64 len, .slice (some ⟨w.heap.size, 0, none⟩) 0 len, .int .u64 n, .func (.func 37) #[] #[.pointer (some ⟨w1.heap.size + 1, 0, none⟩)], .int .i64 (x.val : Int), undef, undef, undef, undef, undef, undef, undef], defers := [] }) ?assign ?body ?done ?stop
  case assign =>
    intro l x W K hK
    gi_wp2
    exact hK
  case body =>
    rintro l pre x W ⟨⟨v, hv, hrow, _⟩, hB⟩ hlt
    have hc := hv.cell
    have hmx : Tryd.prog.follows .mixedOrders = true := by kernel_rfl
    have hxl := x.isLt
    generalize hd : (ByteArray.mk (Lib.decDigits x.val).toArray) = d
    have Hd := Lib.hid hd
    clear hd
    have hsW := hB.size
    obtain ⟨g, cap, w2, hrun, hown', hgrow', hat, hlt2⟩ := run_append_lies (P := Tryd.prog) ((W.alloc (.cells #[.string d] 9)).drew) 44 44 w.heap.size 9 i0 (.string ⟨#[]⟩) 1 16 Tryd.underlying44 hi hz0 hz1 hz2 rfl (by decide) v pre.length ((nums pre).map Value.string) (hrow.alloc _).drew ⟨W.heap.size, 0, none⟩ 1 1 [.string d] rfl (cell_one_new W (.string d) 9) (by simp [Value.oneCell']) (by decide) (by unfold maxLen; omega) (by omega) (by show w.heap.size ≤ (W.alloc _).heap.size; simp; omega) _ rfl
    have hgrow2 : (W.alloc (.cells #[.string d] 9)).grownBy w2 v.ownBlock := ⟨hgrow'.os, hgrow'.tape, hgrow'.output, hgrow'.size, hgrow'.block⟩
    obtain ⟨hv1, hv2, hr2, hk2, hb2⟩ := hv.appended (by decide) hrow hsW hs1 hown' hgrow2
    have hc1 := hv1.cell
    have hf1 := hv1.frozen
    have hc2 := (hv.alloc (.cells #[.string d] 9)).cell
    have hfin : KeepsFrom ((w1.alloc (.cells #[.slice (some ⟨w.heap.size, 0, none⟩) 0 len] 44)).alloc (.cells #[.int .u64 n] 23)).heap.size W (w2.setCell ⟨w1.heap.size, 0, none⟩ (.slice (some ⟨g, 0, none⟩) (pre.length + 1) cap)) ∧ Below w.heap.size W (w2.setCell ⟨w1.heap.size, 0, none⟩ (.slice (some ⟨g, 0, none⟩) (pre.length + 1) cap)) ∧
        textI w w1.heap.size (pre ++ [x]) (w2.setCell ⟨w1.heap.size, 0, none⟩ (.slice (some ⟨g, 0, none⟩) (pre.length + 1) cap)) :=
      ⟨hk2.from _, hb2, ⟨_, hv2, by rw [nums_snoc, List.length_append, List.map_append, Hd.out]; exact hr2, trivial⟩, hB.trans hb2⟩
    gi_wp2
    refine wpIn_region_any hmx ?_
    change wpAnyIn _ _ _ _ _ _ _ _ _ (World.drew _)
    refine wpAnyIn_ready (rs := [0, 1]) (by kernel_rfl) (by simp) ?_
    refine AllReadyIn.cons rfl (fun K hK => ?_) (AllReadyIn.cons rfl (fun K hK => ?_) AllReadyIn.nil)
    · go_simp
      refine hK _ _ ?_; clear hK K
      refine wpAnyIn_ready (rs := [1]) (by kernel_rfl) (by simp) ?_
      refine AllReadyIn.cons rfl (fun K hK => ?_) AllReadyIn.nil
      go_simp
      refine hK _ _ ?_; clear hK K
      refine wpAnyIn_ready (rs := [2]) (by kernel_rfl) (by simp) ?_
      refine AllReadyIn.cons rfl (fun K hK => ?_) AllReadyIn.nil
      go_simp
      gi_wp2_with (refine ⟨trivial, ?_⟩; gi_at_call 34; refine (CallsIn.inRound l (callsIn_wide.2 (Tryd.strconv_Itoa_small x.val (by omega) _))).mono ?_; rintro e w' ⟨rfl, hw'⟩; subst hw'; rw [Hd.out])
      refine wpAnyIn_ready (rs := [3]) (by kernel_rfl) (by simp) ?_
      refine AllReadyIn.cons rfl (fun K hK => ?_) AllReadyIn.nil
      go_simp
      refine hK _ _ ?_; clear hK K
      refine wpAnyIn_ready (rs := [4]) (by kernel_rfl) (by simp) ?_
      refine AllReadyIn.cons rfl (fun K hK => ?_) AllReadyIn.nil
      refine stepIn_append rfl _ _ 44 rfl v _ _ w2 rfl rfl hrun ?_
      refine hK _ _ ?_; clear hK K
      refine wpAnyIn_ready (rs := [5]) (by kernel_rfl) (by simp) ?_
      refine AllReadyIn.cons rfl (fun K hK => ?_) AllReadyIn.nil
      go_simp
      refine hK _ _ ?_; clear hK K
      refine wpAnyIn_done (by kernel_rfl) ?_ _
      exact hfin
    · go_simp
      refine hK _ _ ?_; clear hK K
      refine wpAnyIn_ready (rs := [0, 2]) (by kernel_rfl) (by simp) ?_
      refine AllReadyIn.cons rfl (fun K hK => ?_) (AllReadyIn.cons rfl (fun K hK => ?_) AllReadyIn.nil)
      · go_simp
        refine hK _ _ ?_; clear hK K
        refine wpAnyIn_ready (rs := [2]) (by kernel_rfl) (by simp) ?_
        refine AllReadyIn.cons rfl (fun K hK => ?_) AllReadyIn.nil
        go_simp
        gi_wp2_with (refine ⟨trivial, ?_⟩; gi_at_call 34; refine (CallsIn.inRound l (callsIn_wide.2 (Tryd.strconv_Itoa_small x.val (by omega) _))).mono ?_; rintro e w' ⟨rfl, hw'⟩; subst hw'; rw [Hd.out])
        refine wpAnyIn_ready (rs := [3]) (by kernel_rfl) (by simp) ?_
        refine AllReadyIn.cons rfl (fun K hK => ?_) AllReadyIn.nil
        go_simp
        refine hK _ _ ?_; clear hK K
        refine wpAnyIn_ready (rs := [4]) (by kernel_rfl) (by simp) ?_
        refine AllReadyIn.cons rfl (fun K hK => ?_) AllReadyIn.nil
        refine stepIn_append rfl _ _ 44 rfl v _ _ w2 rfl rfl hrun ?_
        refine hK _ _ ?_; clear hK K
        refine wpAnyIn_ready (rs := [5]) (by kernel_rfl) (by simp) ?_
        refine AllReadyIn.cons rfl (fun K hK => ?_) AllReadyIn.nil
        go_simp
        refine hK _ _ ?_; clear hK K
        refine wpAnyIn_done (by kernel_rfl) ?_ _
        exact hfin
      · go_simp
        gi_wp2_with (refine ⟨trivial, ?_⟩; gi_at_call 34; refine (CallsIn.inRound l (callsIn_wide.2 (Tryd.strconv_Itoa_small x.val (by omega) _))).mono ?_; rintro e w' ⟨rfl, hw'⟩; subst hw'; rw [Hd.out])
        refine wpAnyIn_ready (rs := [0, 3]) (by kernel_rfl) (by simp) ?_
        refine AllReadyIn.cons rfl (fun K hK => ?_) (AllReadyIn.cons rfl (fun K hK => ?_) AllReadyIn.nil)
        · go_simp
          refine hK _ _ ?_; clear hK K
          refine wpAnyIn_ready (rs := [3]) (by kernel_rfl) (by simp) ?_
          refine AllReadyIn.cons rfl (fun K hK => ?_) AllReadyIn.nil
          go_simp
          refine hK _ _ ?_; clear hK K
          refine wpAnyIn_ready (rs := [4]) (by kernel_rfl) (by simp) ?_
          refine AllReadyIn.cons rfl (fun K hK => ?_) AllReadyIn.nil
          refine stepIn_append rfl _ _ 44 rfl v _ _ w2 rfl rfl hrun ?_
          refine hK _ _ ?_; clear hK K
          refine wpAnyIn_ready (rs := [5]) (by kernel_rfl) (by simp) ?_
          refine AllReadyIn.cons rfl (fun K hK => ?_) AllReadyIn.nil
          go_simp
          refine hK _ _ ?_; clear hK K
          refine wpAnyIn_done (by kernel_rfl) ?_ _
          exact hfin
        · go_simp
          refine hK _ _ ?_; clear hK K
          refine wpAnyIn_ready (rs := [0]) (by kernel_rfl) (by simp) ?_
          refine AllReadyIn.cons rfl (fun K hK => ?_) AllReadyIn.nil
          go_simp
          refine hK _ _ ?_; clear hK K
          refine wpAnyIn_ready (rs := [4]) (by kernel_rfl) (by simp) ?_
          refine AllReadyIn.cons rfl (fun K hK => ?_) AllReadyIn.nil
          refine stepIn_append rfl _ _ 44 rfl v _ _ w2 rfl rfl hrun ?_
          refine hK _ _ ?_; clear hK K
          refine wpAnyIn_ready (rs := [5]) (by kernel_rfl) (by simp) ?_
          refine AllReadyIn.cons rfl (fun K hK => ?_) AllReadyIn.nil
          go_simp
          refine hK _ _ ?_; clear hK K
          refine wpAnyIn_done (by kernel_rfl) ?_ _
          exact hfin
  case done =>
    rintro D ys W hD hys ⟨⟨v, hv, hrow, _⟩, hB⟩ hK
    have hyl : 0 < ys.length := by
      rw [← ints_len, hys]
      obtain ⟨c, _, _, hp⟩ := memL_pop n h0 hn
      rw [hp]; simp
    have hr := hrow
    obtain ⟨g, cap, rfl, hgl, hgc, hcells⟩ : ∃ g cap, v = .slice (some ⟨g, 0, none⟩) (nums ys).length cap ∧ g < W.heap.size ∧ (nums ys).length ≤ cap ∧ ∀ (j : Nat) x, (nums ys)[j]? = some x → W.cell? ⟨g, 0 + j, none⟩ = some (.string x) := by
      rcases hr.2 with ⟨_, hz⟩ | ⟨g, cap, cur, hv', _, hg, hnc, _, _, ht⟩
      · omega
      · refine ⟨g, cap, by rw [nums_len]; exact hv', (Array.getElem?_eq_some_iff.1 hg).1, by rw [nums_len]; exact hnc, fun j y hj => ?_⟩
        have hjl : j < ys.length := by rw [← nums_len]; exact (List.getElem?_eq_some_iff.1 hj).1
        rw [cell_of_row W g _ cur 9 (0, 0) hg, Nat.zero_add, ← Array.getElem?_toList]
        have h1 : (cur.toList.take (ys.length * 1))[j]? = ((nums ys).map Value.string)[j]? := by rw [ht]
        rw [Nat.mul_one, List.getElem?_take_of_lt hjl] at h1
        rw [h1, List.getElem?_map, hj]; rfl
    have hjoin : Lib.join ((nums ys).map (·.data.toList)) (ByteArray.mk #[44]).data.toList = textN n := by
      rw [join_nums, hys]
      unfold textN
      rw [if_neg]
      intro he
      rw [he] at hys
      have := ints_len ys
      rw [hys] at this
      simp at this
      omega
    have hjl : (Lib.join ((nums ys).map (·.data.toList)) (ByteArray.mk #[44]).data.toList).length ≤ 140737488355328 := by
      rw [join_nums, hys]
      have := textL_len (memL n 64) (memL_range n 64) _ (Nat.le_refl _)
      rw [List.take_length] at this
      have := memL_len n 64
      omega
    have Hj := Lib.hid hjoin
    have hc := hv.cell
    have hnl : (nums ys).length ≤ 64 := by
      have := memL_len n 64
      rw [nums_len, ← ints_len, hys]
      exact this
    clear hr hjoin hys hyl hrow
    gi_wp2_with (refine ⟨trivial, ?_⟩; gi_at_call 35; refine (callsIn_wide.2 (Tryd.strings_Join g 0 cap (nums ys) ⟨#[44]⟩ _ hcells hgl (by omega) hgc hjl)).mono ?_; rintro e W3 ⟨rfl, hB3⟩; rw [Hj.out])
    have hDl : D < W.heap.size := (Array.getElem?_eq_some_iff.1 hK).1
    have hK3 := (hB3.block D hDl).trans hK
    refine ⟨by simp, .inl ⟨_, _, rfl, run_takeDeferred hK3, ?_⟩⟩
    exact ⟨_, results_tmp rfl _ _ _, rfl, (hB.trans (hB3.mono hB.size)).trans (belowK_b (w := w) (Nat.le_refl _) W3 D _ _ (by simp at hD; omega) hK3 rfl rfl)⟩
  case stop =>
    rintro D c pre W _ _ h _
    exact h.elim

set_option maxHeartbeats 400000 in
theorem Text_any (n : Nat) (hn : n < 18446744073709551616) (w : World) (hT : TabAt 0 Lib.deBruijn64tab w) :
    Calls Tryd.prog 24 #[.int .u64 n] w fun e w' => e = .returned (.string ⟨(textN n).toArray⟩) ∧ Below w.heap.size w w' := by
  by_cases h0 : n = 0
  · subst h0
    have he : textN 0 = [45] := by unfold textN; rw [if_pos memL_zero]
    rw [he]
    clear hT
    go_enter Tryd.func24, Tryd.ntmps24
    go_wp2
    go_ret
    exact ⟨rfl, Below.refl _ _⟩
  · exact Text_pos n hn h0 w hT
end Go.Proofs.YtjdklmglljhjhaaDoor
