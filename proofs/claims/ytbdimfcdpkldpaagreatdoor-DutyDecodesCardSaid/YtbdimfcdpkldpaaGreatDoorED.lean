/- The contract of the reference's Decode of duties. -/
import Derived.Test.YtbdimfcdpkldpaaGreatDoorEB
import Derived.Test.YtbdimfcdpkldpaaGreatDoorEC
import Derived.Test.YtbdimfcdpkldpaaGreatDoorZ2
import Derived.Deep.DeepCutAuto
import Derived.Deep.CutBlock
namespace Go.Proofs.YtbdimfcdpkldpaaGreatDoor
open Go.RowKit
open Wire (RS rdNum RsV bV)

/-- An array of seven whose first numbers are known. -/
def arr7 (pre : List Nat) : Array Value := ((pre ++ List.replicate (7 - pre.length) 0).map uV).toArray
theorem arr7_get {pre : List Nat} {k : Nat} (hk : pre.length = k) (h : k < 7) : (arr7 pre)[k]? = some (.int .u64 0) := by
  subst hk
  unfold arr7
  rw [List.getElem?_toArray, List.getElem?_map, List.getElem?_append_right (Nat.le_refl _), Nat.sub_self, List.getElem?_replicate, if_pos (by omega)]
  rfl
theorem arr7_set {pre : List Nat} {k : Nat} (hk : pre.length = k) (h : k < 7) (x : Nat) : (arr7 pre).setIfInBounds k (.int .u64 (x : Int)) = arr7 (pre ++ [x]) := by
  subst hk
  unfold arr7
  rw [List.setIfInBounds_toArray]
  congr 1
  rw [show 7 - pre.length = (7 - (pre ++ [x]).length) + 1 by rw [List.length_append]; simp; omega, List.replicate_succ, List.map_append, List.map_cons, List.set_append_right _ _ (by rw [List.length_map]; exact Nat.le_refl _), List.length_map, Nat.sub_self, List.set_cons_zero]
  simp [uV]
theorem rdNums_go {n : Nat} {acc : List Nat} {st : RS} {R : RS × List Nat} (h : ((rdNums (n + 1) st).1, acc ++ (rdNums (n + 1) st).2) = R) : ((rdNums n (rdNum st).1).1, (acc ++ [(rdNum st).2]) ++ (rdNums n (rdNum st).1).2) = R := by
  rw [← h, rdNums]
  simp
theorem big_bool (a : Nat) : decide ((a : Int) > 2147483647) = decide (2147483647 < a) := by
  rw [decide_eq_decide]
  omega

set_option maxRecDepth 100000 in
set_option maxHeartbeats 16000000 in
theorem RDecodeY_any (p : Option Addr) (n0 c : Nat) (l : List UInt8) (hl : l.length ≤ 250000) (G : Nat → Prop) (w : World) (hG : ∀ k, G k → k < w.heap.size) (hr : RV w G (.slice p n0 c) l.length 1 (l.map bV)) :
    Calls Tryz.prog 18 #[.slice p n0 c] w fun e w' => Told2 w' w.heap.size e (decY l) ∧ Below w.heap.size w w' := by
  obtain ⟨R, hR⟩ : ∃ R, decY l = R := ⟨_, rfl⟩
  rw [hR]
  obtain ⟨Q, hQ⟩ : ∃ Q, rdNums 7 (.ok l) = Q := ⟨_, rfl⟩
  have HR : Hid (decGo Q.2 (countY Q.1) = R) := Lib.hid (by rw [← hR, ← hQ]; rfl)
  have HXB : Hid (∀ x ∈ Q.2, x < 18446744073709551616) := Lib.hid (by rw [← hQ]; exact nums_lt7 7 _)
  have HQ0 : Hid (((rdNums (7 - 0) (.ok l)).1, [] ++ (rdNums (7 - 0) (.ok l)).2) = Q) := Lib.hid hQ
  have HV0 : Hid (RsV w G (.agg #[.slice p n0 c, .int .i64 ((RS.ok l).code : Int)]) (.ok l)) := Lib.hid ⟨⟨_, rfl, hr⟩, hl⟩
  have hz0 : Blk (((w.alloc (.cells (zeroY.cells (.slice none 0 0) (.slice none 0 0)) 27)).alloc (.cells #[.slice p n0 c, .int .i64 0] 94)).alloc (.cells zero7 61)) w.heap.size 27 (zeroY.cells (.slice none 0 0) (.slice none 0 0)) := ((Blk.new w _ _).alloc _).alloc _
  have h40 : Blk (((w.alloc (.cells (zeroY.cells (.slice none 0 0) (.slice none 0 0)) 27)).alloc (.cells #[.slice p n0 c, .int .i64 0] 94)).alloc (.cells zero7 61)) (w.heap.size + 1) 94 #[.slice p n0 c, .int .i64 ((RS.ok l).code : Int)] := (two_new w _ _ _).alloc _
  have h50 : Blk (((w.alloc (.cells (zeroY.cells (.slice none 0 0) (.slice none 0 0)) 27)).alloc (.cells #[.slice p n0 c, .int .i64 0] 94)).alloc (.cells zero7 61)) (w.heap.size + 2) 61 (arr7 []) := by
    have := Blk.new ((w.alloc (.cells (zeroY.cells (.slice none 0 0) (.slice none 0 0)) 27)).alloc (.cells #[.slice p n0 c, .int .i64 0] 94)) 61 zero7
    rwa [show ((w.alloc (.cells (zeroY.cells (.slice none 0 0) (.slice none 0 0)) 27)).alloc (.cells #[.slice p n0 c, .int .i64 0] 94)).heap.size = w.heap.size + 2 by simp] at this
  have hb0 : Below w.heap.size w (((w.alloc (.cells (zeroY.cells (.slice none 0 0) (.slice none 0 0)) 27)).alloc (.cells #[.slice p n0 c, .int .i64 0] 94)).alloc (.cells zero7 61)) := (below_alloc2 w _ _).alloc (by simp; omega) _
  have HGG := Lib.hid hG
  clear hR hQ hr hG hl
  go_enter Tryz.func18, Tryz.ntmps18
  go_wp2_with (first
    | (refine wpList_alloc_agg rfl 27 rfl (zeroY.cells (.slice none 0 0) (.slice none 0 0)) zeroYR ?_)
    | (refine wpList_alloc_agg rfl 94 rfl #[.slice none 0 0, .int .i64 0] zeroRd ?_)
    | (refine wpList_alloc_agg rfl 61 rfl zero7 zero7R ?_)
    | (refine wpList_store_row rfl 94 _ _ rfl (w.alloc (.cells (zeroY.cells (.slice none 0 0) (.slice none 0 0)) 27)).heap.size #[.slice p n0 c, .int .i64 0] rfl rfl 94 _ (heap_alloc_new _ _) (sizeRd _ _) rfl (oneRd _ trivial) ?_; rw [World.setRow_alloc_new]))
  try simp only [World.size_alloc]
  obtain ⟨W0, hW0⟩ : ∃ W0, W0 = (((w.alloc (.cells (zeroY.cells (.slice none 0 0) (.slice none 0 0)) 27)).alloc (.cells #[.slice p n0 c, .int .i64 0] 94)).alloc (.cells zero7 61)) := ⟨_, rfl⟩
  rw [← hW0] at hz0 h40 h50 hb0 ⊢
  have HZ0 := Lib.hid hz0
  have H40 := Lib.hid h40
  have H50 := Lib.hid h50
  clear hW0 hz0 h40 h50
  go_loopw [6] (fun t wr => ∃ (k : Nat) (pre : List Nat) (S : RS) (q : Option Addr) (n cc : Nat), k ≤ 7 ∧ t = .int .i64 k ∧ pre.length = k ∧ Hid (((rdNums (7 - k) S).1, pre ++ (rdNums (7 - k) S).2) = Q) ∧ Hid (RsV w G (.agg #[.slice q n cc, .int .i64 (S.code : Int)]) S) ∧ Hid (Blk wr (w.heap.size + 1) 94 #[.slice q n cc, .int .i64 (S.code : Int)]) ∧ Hid (Blk wr (w.heap.size + 2) 61 (arr7 pre)) ∧ Hid (Blk wr w.heap.size 27 (zeroY.cells (.slice none 0 0) (.slice none 0 0))) ∧ Below w.heap.size w wr) (fun t _ => 7 - (intOf t).toNat)
  case atStart => exact ⟨0, [], .ok l, p, n0, c, by omega, rfl, rfl, HQ0, HV0, H40, H50, HZ0, hb0⟩
  case round =>
    clear HQ0 HV0 H40 H50 HZ0 hb0
    obtain ⟨k, pre, S, q, n, cc, hk, rfl, hpl, hX, hv, h4, h5, h2, hb⟩ := hrel
    have b4 := h4.out
    have b5 := h5.out
    have b2 := h2.out
    by_cases hlt : k < 7
    · have hx := hX.out
      rw [show 7 - k = 7 - (k + 1) + 1 by omega] at hx
      have HX := Lib.hid (rdNums_go hx)
      have hget := Wire.GetNum_any _ S G wr (fun j hj => Nat.lt_of_lt_of_le (HGG.out j hj) hb.size) (hv.out.later hb)
      generalize rdNum S = qq at hget HX
      obtain ⟨S1, x⟩ := qq
      simp only at hget
      have hcg := arr7_get hpl hlt
      have HST := Lib.hid (arr7_set hpl hlt x)
      have HPL := Lib.hid hpl
      have hbs := hb.size
      clear hx hX h4 h5 h2 hpl
      go_wp2_with (first
        | (refine wpList_load_row rfl 94 _ rfl (w.heap.size + 1) rfl 94 _ (0, 0) _ b4 Tryz.underlying94 rfl (sizeRd _ _) ?_)
        | (go_at_call 52; (with_reducible refine hget.mono ?_); clear hget; rintro e w1 ⟨⟨v1, rfl, hv1⟩, hb1⟩; obtain ⟨p1, n1, c1, rfl⟩ := hv1.shape; have x4 := bump b4 hb1; have x5 := bump b5 hb1; have x2 := bump b2 hb1; have hbw1 := below_pre hb hb1; have HV1 := Lib.hid (Wire.RsV.back hv1 hb HGG.out); clear hv1)
        | (refine wpList_store_row rfl 94 _ _ rfl (w.heap.size + 1) #[.slice p1 n1 c1, .int .i64 (S1.code : Int)] rfl rfl 94 _ x4 (sizeRd _ _) rfl (oneRd _ trivial) ?_; have z4 := x4.row #[.slice p1 n1 c1, .int .i64 (S1.code : Int)]; have z5 := x5.foot (foot_setRow w1 (w.heap.size + 1) #[.slice p1 n1 c1, .int .i64 (S1.code : Int)]) (by omega); have z2 := x2.foot (foot_setRow w1 (w.heap.size + 1) #[.slice p1 n1 c1, .int .i64 (S1.code : Int)]) (by omega); have zf := z5.frozen k; have zc := (z5.cell k).trans hcg))
      have y5 := z5.set k (.int .u64 (x : Int))
      rw [HST.out] at y5
      have y4 := z4.far (p := ⟨w.heap.size + 2, k, none⟩) (by simp) (.int .u64 (x : Int))
      have y2 := z2.far (p := ⟨w.heap.size + 2, k, none⟩) (by simp) (.int .u64 (x : Int))
      have hbw3 := (hbw1.trans (foot_row (w := w1) (B := w.heap.size) (r := w.heap.size + 1) #[.slice p1 n1 c1, .int .i64 (S1.code : Int)] (by omega))).trans ((foot_cell (w1.setRow (w.heap.size + 1) #[.slice p1 n1 c1, .int .i64 (S1.code : Int)]) (w.heap.size + 2) k (.int .u64 (x : Int))).below (B := w.heap.size) (Nat.le_trans hbw1.size (foot_setRow w1 (w.heap.size + 1) _).size) (fun j hj => by omega))
      go_roundw
      case rel => exact ⟨k + 1, pre ++ [x], S1, p1, n1, c1, by omega, by go_num, by rw [List.length_append, HPL.out]; rfl, HX, HV1, Lib.hid y4, Lib.hid y5, Lib.hid y2, hbw3⟩
      case measure => simp [intOf]; omega
    · obtain rfl : k = 7 := by omega
      have hx := hX.out
      rw [Nat.sub_self, rdNums, List.append_nil] at hx
      subst hx
      obtain ⟨a0, a1, a2, a3, a4, a5, a6, rfl⟩ : ∃ a0 a1 a2 a3 a4 a5 a6, pre = [a0, a1, a2, a3, a4, a5, a6] := by
        match pre, hpl with
        | [a0, a1, a2, a3, a4, a5, a6], _ => exact ⟨a0, a1, a2, a3, a4, a5, a6, rfl⟩
      have q0 : wr.cell? ⟨w.heap.size + 2, 0, none⟩ = some (.int .u64 (a0 : Int)) := b5.cell 0
      have q1 : wr.cell? ⟨w.heap.size + 2, 1, none⟩ = some (.int .u64 (a1 : Int)) := b5.cell 1
      have q2 : wr.cell? ⟨w.heap.size + 2, 2, none⟩ = some (.int .u64 (a2 : Int)) := b5.cell 2
      have q3 : wr.cell? ⟨w.heap.size + 2, 3, none⟩ = some (.int .u64 (a3 : Int)) := b5.cell 3
      obtain ⟨gr, hgr⟩ : ∃ gr, bigY [a0, a1, a2, a3, a4, a5, a6] = gr := ⟨_, rfl⟩
      have hgb : (decide ((a0 : Int) > 2147483647) || decide ((a1 : Int) > 2147483647) || decide ((a2 : Int) > 2147483647) || decide ((a3 : Int) > 2147483647)) = gr := by
        rw [big_bool, big_bool, big_bool, big_bool, ← hgr]
        rfl
      have hxs := HXB.out
      simp only at hxs
      have u0 := hxs a0 (by simp)
      have u1 := hxs a1 (by simp)
      have u2 := hxs a2 (by simp)
      have u3 := hxs a3 (by simp)
      have U0 := Lib.hid u0
      have U1 := Lib.hid u1
      have U2 := Lib.hid u2
      have U3 := Lib.hid u3
      have HXS := Lib.hid hxs
      have HGRB := Lib.hid hgr
      clear hX h4 h5 h2 hlt hk hpl hgr u0 u1 u2 u3 hxs HXB
      go_upto_region 7 with fail
      go_cut [7] (fun s7 wx => s7 = .bool gr ∧ wr = wx)
      case first =>
        cases e0 : decide ((a0 : Int) > 2147483647) with
        | true =>
          rw [e0, Bool.true_or, Bool.true_or, Bool.true_or] at hgb
          subst hgb
          go_wp2
          go_meet
          exact ⟨rfl, rfl⟩
        | false =>
          cases e1 : decide ((a1 : Int) > 2147483647) with
          | true =>
            rw [e0, e1, Bool.false_or, Bool.true_or, Bool.true_or] at hgb
            subst hgb
            go_wp2
            go_meet
            exact ⟨rfl, rfl⟩
          | false =>
            cases e2 : decide ((a2 : Int) > 2147483647) with
            | true =>
              rw [e0, e1, e2, Bool.false_or, Bool.false_or, Bool.true_or] at hgb
              subst hgb
              go_wp2
              go_meet
              exact ⟨rfl, rfl⟩
            | false =>
              rw [e0, e1, e2, Bool.false_or, Bool.false_or, Bool.false_or] at hgb
              go_wp2
              go_meet
              exact ⟨rfl, rfl⟩
      case rest =>
        obtain ⟨rfl, rfl⟩ := hcut
        obtain ⟨X, hX⟩ : ∃ X : Dut, X = headOf [a0, a1, a2, a3, a4, a5, a6] [] [] := ⟨_, rfl⟩
        have HXc : Hid ((#[.int .i64 ((smallY a0 : Nat) : Int), .int .i64 ((smallY a1 : Nat) : Int), .int .i64 ((smallY a2 : Nat) : Int), .int .i64 ((smallY a3 : Nat) : Int), .int .u64 (a4 : Int), .float .f64 a5, .float .f64 a6, .slice none 0 0, .slice none 0 0] : Array Value) = X.cells (.slice none 0 0) (.slice none 0 0)) := Lib.hid (by rw [hX]; rfl)
        have HX := Lib.hid hX
        have b5d : Blk wr.drew (w.heap.size + 2) 61 (arr7 [a0, a1, a2, a3, a4, a5, a6]) := b5
        have s0 := fun W => Small_any a0 U0.out W
        have s1 := fun W => Small_any a1 U1.out W
        have s2 := fun W => Small_any a2 U2.out W
        have s3 := fun W => Small_any a3 U3.out W
        clear hX hgb
        go_wp2
        refine wp_region_held_drew (S := fun w' => Blk w' (w.heap.size + 2) 61 (arr7 [a0, a1, a2, a3, a4, a5, a6])) (by kernel_rfl) b5d (fun hS0 => ?_)
        refine wpAnyH_take (i := 0) (v := ?_) rfl (by kernel_rfl) (by kernel_rfl) (by kernel_rfl) (fun _ _ _ h => h) (Or.inl ⟨by rfl, ?_⟩) hS0 ?_
        rotate_left
        · intro w1 _; go_simp; with_reducible rfl
        try simp only [List.getElem_toArray, List.getElem_cons_zero, Act.put, List.setIfInBounds_toArray, List.set_cons_zero, List.set_cons_succ]
        refine wpAnyH_take (i := 1) (v := .int .u64 (a0 : Int)) rfl (by kernel_rfl) (by kernel_rfl) (by kernel_rfl) (fun _ _ _ h => h) (Or.inl ⟨by rfl, fun w1 hS1 => by have h0 : w1.cell? ⟨w.heap.size + 2, 0, none⟩ = some (.int .u64 (a0 : Int)) := Blk.cell hS1 0; go_simp⟩) hS0 ?_
        try simp only [List.getElem_toArray, List.getElem_cons_zero, List.getElem_cons_succ, Act.put, List.setIfInBounds_toArray, List.set_cons_zero, List.set_cons_succ]
        refine wpAnyH_call (i := 2) (v := .int .i64 ((smallY a0 : Nat) : Int)) rfl (by kernel_rfl) (fun _ _ _ h => h) (by kernel_rfl) (by kernel_rfl) (⟨by rfl, fun w1 _ => ⟨_, _, by go_simp, s0 w1⟩⟩) hS0 ?_
        try simp only [List.getElem_toArray, List.getElem_cons_zero, List.getElem_cons_succ, Act.put, List.setIfInBounds_toArray, List.set_cons_zero, List.set_cons_succ]
        refine wpAnyH_take (i := 3) (v := ?_) rfl (by kernel_rfl) (by kernel_rfl) (by kernel_rfl) (fun _ _ _ h => h) (Or.inl ⟨by rfl, ?_⟩) hS0 ?_
        rotate_left
        · intro w1 _; go_simp; with_reducible rfl
        try simp only [List.getElem_toArray, List.getElem_cons_zero, List.getElem_cons_succ, Act.put, List.setIfInBounds_toArray, List.set_cons_zero, List.set_cons_succ]
        refine wpAnyH_take (i := 4) (v := .int .u64 (a1 : Int)) rfl (by kernel_rfl) (by kernel_rfl) (by kernel_rfl) (fun _ _ _ h => h) (Or.inl ⟨by rfl, fun w1 hS1 => by have h0 : w1.cell? ⟨w.heap.size + 2, 1, none⟩ = some (.int .u64 (a1 : Int)) := Blk.cell hS1 1; go_simp⟩) hS0 ?_
        try simp only [List.getElem_toArray, List.getElem_cons_zero, List.getElem_cons_succ, Act.put, List.setIfInBounds_toArray, List.set_cons_zero, List.set_cons_succ]
        refine wpAnyH_call (i := 5) (v := .int .i64 ((smallY a1 : Nat) : Int)) rfl (by kernel_rfl) (fun _ _ _ h => h) (by kernel_rfl) (by kernel_rfl) (⟨by rfl, fun w1 _ => ⟨_, _, by go_simp, s1 w1⟩⟩) hS0 ?_
        try simp only [List.getElem_toArray, List.getElem_cons_zero, List.getElem_cons_succ, Act.put, List.setIfInBounds_toArray, List.set_cons_zero, List.set_cons_succ]
        refine wpAnyH_take (i := 6) (v := ?_) rfl (by kernel_rfl) (by kernel_rfl) (by kernel_rfl) (fun _ _ _ h => h) (Or.inl ⟨by rfl, ?_⟩) hS0 ?_
        rotate_left
        · intro w1 _; go_simp; with_reducible rfl
        try simp only [List.getElem_toArray, List.getElem_cons_zero, List.getElem_cons_succ, Act.put, List.setIfInBounds_toArray, List.set_cons_zero, List.set_cons_succ]
        refine wpAnyH_take (i := 7) (v := .int .u64 (a2 : Int)) rfl (by kernel_rfl) (by kernel_rfl) (by kernel_rfl) (fun _ _ _ h => h) (Or.inl ⟨by rfl, fun w1 hS1 => by have h0 : w1.cell? ⟨w.heap.size + 2, 2, none⟩ = some (.int .u64 (a2 : Int)) := Blk.cell hS1 2; go_simp⟩) hS0 ?_
        try simp only [List.getElem_toArray, List.getElem_cons_zero, List.getElem_cons_succ, Act.put, List.setIfInBounds_toArray, List.set_cons_zero, List.set_cons_succ]
        refine wpAnyH_call (i := 8) (v := .int .i64 ((smallY a2 : Nat) : Int)) rfl (by kernel_rfl) (fun _ _ _ h => h) (by kernel_rfl) (by kernel_rfl) (⟨by rfl, fun w1 _ => ⟨_, _, by go_simp, s2 w1⟩⟩) hS0 ?_
        try simp only [List.getElem_toArray, List.getElem_cons_zero, List.getElem_cons_succ, Act.put, List.setIfInBounds_toArray, List.set_cons_zero, List.set_cons_succ]
        refine wpAnyH_take (i := 9) (v := ?_) rfl (by kernel_rfl) (by kernel_rfl) (by kernel_rfl) (fun _ _ _ h => h) (Or.inl ⟨by rfl, ?_⟩) hS0 ?_
        rotate_left
        · intro w1 _; go_simp; with_reducible rfl
        try simp only [List.getElem_toArray, List.getElem_cons_zero, List.getElem_cons_succ, Act.put, List.setIfInBounds_toArray, List.set_cons_zero, List.set_cons_succ]
        refine wpAnyH_take (i := 10) (v := .int .u64 (a3 : Int)) rfl (by kernel_rfl) (by kernel_rfl) (by kernel_rfl) (fun _ _ _ h => h) (Or.inl ⟨by rfl, fun w1 hS1 => by have h0 : w1.cell? ⟨w.heap.size + 2, 3, none⟩ = some (.int .u64 (a3 : Int)) := Blk.cell hS1 3; go_simp⟩) hS0 ?_
        try simp only [List.getElem_toArray, List.getElem_cons_zero, List.getElem_cons_succ, Act.put, List.setIfInBounds_toArray, List.set_cons_zero, List.set_cons_succ]
        refine wpAnyH_call (i := 11) (v := .int .i64 ((smallY a3 : Nat) : Int)) rfl (by kernel_rfl) (fun _ _ _ h => h) (by kernel_rfl) (by kernel_rfl) (⟨by rfl, fun w1 _ => ⟨_, _, by go_simp, s3 w1⟩⟩) hS0 ?_
        try simp only [List.getElem_toArray, List.getElem_cons_zero, List.getElem_cons_succ, Act.put, List.setIfInBounds_toArray, List.set_cons_zero, List.set_cons_succ]
        refine wpAnyH_take (i := 12) (v := ?_) rfl (by kernel_rfl) (by kernel_rfl) (by kernel_rfl) (fun _ _ _ h => h) (Or.inl ⟨by rfl, ?_⟩) hS0 ?_
        rotate_left
        · intro w1 _; go_simp; with_reducible rfl
        try simp only [List.getElem_toArray, List.getElem_cons_zero, List.getElem_cons_succ, Act.put, List.setIfInBounds_toArray, List.set_cons_zero, List.set_cons_succ]
        refine wpAnyH_take (i := 13) (v := .int .u64 (a4 : Int)) rfl (by kernel_rfl) (by kernel_rfl) (by kernel_rfl) (fun _ _ _ h => h) (Or.inl ⟨by rfl, fun w1 hS1 => by have h0 : w1.cell? ⟨w.heap.size + 2, 4, none⟩ = some (.int .u64 (a4 : Int)) := Blk.cell hS1 4; go_simp⟩) hS0 ?_
        try simp only [List.getElem_toArray, List.getElem_cons_zero, List.getElem_cons_succ, Act.put, List.setIfInBounds_toArray, List.set_cons_zero, List.set_cons_succ]
        refine wpAnyH_take (i := 14) (v := ?_) rfl (by kernel_rfl) (by kernel_rfl) (by kernel_rfl) (fun _ _ _ h => h) (Or.inl ⟨by rfl, ?_⟩) hS0 ?_
        rotate_left
        · intro w1 _; go_simp; with_reducible rfl
        try simp only [List.getElem_toArray, List.getElem_cons_zero, List.getElem_cons_succ, Act.put, List.setIfInBounds_toArray, List.set_cons_zero, List.set_cons_succ]
        refine wpAnyH_take (i := 15) (v := .int .u64 (a5 : Int)) rfl (by kernel_rfl) (by kernel_rfl) (by kernel_rfl) (fun _ _ _ h => h) (Or.inl ⟨by rfl, fun w1 hS1 => by have h0 : w1.cell? ⟨w.heap.size + 2, 5, none⟩ = some (.int .u64 (a5 : Int)) := Blk.cell hS1 5; go_simp⟩) hS0 ?_
        try simp only [List.getElem_toArray, List.getElem_cons_zero, List.getElem_cons_succ, Act.put, List.setIfInBounds_toArray, List.set_cons_zero, List.set_cons_succ]
        refine wpAnyH_take (i := 16) (v := .float .f64 a5) rfl (by kernel_rfl) (by kernel_rfl) (by kernel_rfl) (fun _ _ _ h => h) (Or.inl ⟨by rfl, fun w1 hS1 => by go_simp; rw [f64from_run]⟩) hS0 ?_
        try simp only [List.getElem_toArray, List.getElem_cons_zero, List.getElem_cons_succ, Act.put, List.setIfInBounds_toArray, List.set_cons_zero, List.set_cons_succ]
        refine wpAnyH_take (i := 17) (v := ?_) rfl (by kernel_rfl) (by kernel_rfl) (by kernel_rfl) (fun _ _ _ h => h) (Or.inl ⟨by rfl, ?_⟩) hS0 ?_
        rotate_left
        · intro w1 _; go_simp; with_reducible rfl
        try simp only [List.getElem_toArray, List.getElem_cons_zero, List.getElem_cons_succ, Act.put, List.setIfInBounds_toArray, List.set_cons_zero, List.set_cons_succ]
        refine wpAnyH_take (i := 18) (v := .int .u64 (a6 : Int)) rfl (by kernel_rfl) (by kernel_rfl) (by kernel_rfl) (fun _ _ _ h => h) (Or.inl ⟨by rfl, fun w1 hS1 => by have h0 : w1.cell? ⟨w.heap.size + 2, 6, none⟩ = some (.int .u64 (a6 : Int)) := Blk.cell hS1 6; go_simp⟩) hS0 ?_
        try simp only [List.getElem_toArray, List.getElem_cons_zero, List.getElem_cons_succ, Act.put, List.setIfInBounds_toArray, List.set_cons_zero, List.set_cons_succ]
        refine wpAnyH_take (i := 19) (v := .float .f64 a6) rfl (by kernel_rfl) (by kernel_rfl) (by kernel_rfl) (fun _ _ _ h => h) (Or.inl ⟨by rfl, fun w1 hS1 => by go_simp; rw [f64from_run]⟩) hS0 ?_
        try simp only [List.getElem_toArray, List.getElem_cons_zero, List.getElem_cons_succ, Act.put, List.setIfInBounds_toArray, List.set_cons_zero, List.set_cons_succ]
        refine wpAnyH_take (i := 20) (v := .agg (X.cells (.slice none 0 0) (.slice none 0 0))) rfl (by kernel_rfl) (by kernel_rfl) (by kernel_rfl) (fun _ _ _ h => h) (Or.inl ⟨by rfl, fun w1 hS1 => by go_simp; rw [← HXc.out]⟩) hS0 ?_
        try simp only [List.getElem_toArray, List.getElem_cons_zero, List.getElem_cons_succ, Act.put, List.setIfInBounds_toArray, List.set_cons_zero, List.set_cons_succ]
        refine wpAnyH_ready (rs := [21]) (by kernel_rfl) (by simp) ?_
        refine AllReadyH.cons rfl (fun K hK => ?_) AllReadyH.nil
        refine step_alloc_agg rfl 27 rfl (zeroY.cells (.slice none 0 0) (.slice none 0 0)) zeroYR ?_
        refine hK.out _ _ ((hS0).alloc _) (fun hS1 => ?_); clear hK K
        refine wpAnyH_ready (rs := [22]) (by kernel_rfl) (by simp) ?_
        refine AllReadyH.cons rfl (fun K hK => ?_) AllReadyH.nil
        refine step_store_row rfl 27 _ _ rfl wr.drew.heap.size (X.cells (.slice none 0 0) (.slice none 0 0)) rfl rfl 27 _ (heap_alloc_new wr.drew _) (sizeY _ _ _) rfl (oneY _ _ _ _ _ _ _) ?_
        rw [World.setRow_alloc_new]
        refine hK.out _ _ (Blk.alloc b5d _) (fun hS2 => ?_); clear hK K
        refine wpAnyH_done (by kernel_rfl) ?_ _
        obtain ⟨g8, hg8⟩ : ∃ g8, g8 = wr.drew.heap.size := ⟨_, rfl⟩
        obtain ⟨W8, hW8⟩ : ∃ W8, W8 = wr.drew.alloc (.cells (X.cells (.slice none 0 0) (.slice none 0 0)) 27) := ⟨_, rfl⟩
        have x8 : Blk W8 g8 27 (X.cells (.slice none 0 0) (.slice none 0 0)) := by rw [hg8, hW8]; exact Blk.new wr.drew _ _
        have x4 : Blk W8 (w.heap.size + 1) 94 #[.slice q n cc, .int .i64 (S.code : Int)] := by rw [hW8]; exact Blk.alloc (w := wr.drew) b4 _
        have x2 : Blk W8 w.heap.size 27 (zeroY.cells (.slice none 0 0) (.slice none 0 0)) := by rw [hW8]; exact Blk.alloc (w := wr.drew) b2 _
        have hb8 : Below w.heap.size w W8 := by rw [hW8]; exact (hb.drew : Below w.heap.size w wr.drew).alloc hb.size _
        have hg9 : w.heap.size + 2 < g8 := by rw [hg8]; exact b5.lt
        rw [← hW8, ← hg8]
        clear hW8 hg8 b5d b5 b4 b2 hb hS0 hS1 hS2 q0 q1 q2 q3 s0 s1 s2 s3
        
        obtain ⟨i0, hi, hz0, hz1, hz2⟩ := info_parts (show (Tryz.prog.info? 45).map (fun i => (i.zero, i.size, i.bytes)) = some (some (.slice none 0 0), 1, 24) by kernel_rfl)
        have hcnt := RCountY_any q n cc (S.code : Int) S G W8 (fun j hj => Nat.lt_of_lt_of_le (HGG.out j hj) hb8.size) (hv.out.later hb8)
        have hn6 := countY_le S
        have hc9 : Hid (countY S = countY S) := Lib.hid rfl
        obtain ⟨CS, hCS⟩ : ∃ CS, countY S = CS := ⟨_, rfl⟩
        rw [hCS] at hcnt hn6
        have HCS := Lib.hid hCS
        obtain ⟨S1, n1⟩ := CS
        simp only at hcnt hn6
        clear hCS hc9 hv
        go_upto_block 2 with (first
          | (refine wpList_load_row rfl 94 _ rfl (w.heap.size + 1) rfl 94 _ (0, 0) _ x4 Tryz.underlying94 rfl (sizeRd _ _) ?_)
          | (go_at_call 55; (with_reducible refine hcnt.mono ?_); clear hcnt; rintro e w9 ⟨⟨p1, m1, c1, rfl, hv1⟩, hb9⟩; have y4 := bump x4 hb9; have y8 := bump x8 hb9; have y2 := bump x2 hb9; have hbw9 := below_pre hb8 hb9; have HV1 := Lib.hid (Wire.RsV.back hv1 hb8 HGG.out); clear hv1)
          | (refine wpList_store_row rfl 94 _ _ rfl (w.heap.size + 1) #[.slice p1 m1 c1, .int .i64 (S1.code : Int)] rfl rfl 94 _ y4 (sizeRd _ _) rfl (oneRd _ trivial) ?_; have z4 := y4.row #[.slice p1 m1 c1, .int .i64 (S1.code : Int)]; have z8 := y8.foot (foot_setRow w9 (w.heap.size + 1) #[.slice p1 m1 c1, .int .i64 (S1.code : Int)]) (by omega); have z2 := y2.foot (foot_setRow w9 (w.heap.size + 1) #[.slice p1 m1 c1, .int .i64 (S1.code : Int)]) (by omega); have hbw10 := hbw9.trans (foot_row (w := w9) (B := w.heap.size) (r := w.heap.size + 1) #[.slice p1 m1 c1, .int .i64 (S1.code : Int)] (by omega))))
        obtain ⟨W9, hW9⟩ : ∃ W9, W9 = w9.setRow (w.heap.size + 1) #[.slice p1 m1 c1, .int .i64 (S1.code : Int)] := ⟨_, rfl⟩
        rw [← hW9] at z4 z8 z2 hbw10 ⊢
        have Z4 := Lib.hid z4
        have Z8 := Lib.hid z8
        have Z2 := Lib.hid z2
        have HB9 := Lib.hid hbw10
        have hlt9 : g8 < W9.heap.size := z8.lt
        have HLT9 := Lib.hid hlt9
        clear hW9 x4 x8 x2 hb8 hb9 y4 y8 y2 hbw9 z4 z8 z2 hbw10 hlt9
        go_cut [] (fun wx => ∃ (S2 : RS) (ps : List (List Deed)) (vp : Value) (q2 : Option Addr) (n2 c2 : Nat), Hid (progsG n1 [] S1 = (S2, ps)) ∧ Hid (RsV w G (.agg #[.slice q2 n2 c2, .int .i64 (S2.code : Int)]) S2) ∧ Hid (Blk wx (w.heap.size + 1) 94 #[.slice q2 n2 c2, .int .i64 (S2.code : Int)]) ∧ Hid (Blk wx g8 27 (X.cells vp (.slice none 0 0))) ∧ Hid (OPP 45 109 wx (g8 + 1) vp ps) ∧ Hid (Blk wx w.heap.size 27 (zeroY.cells (.slice none 0 0) (.slice none 0 0))) ∧ Hid (∀ p ∈ ps, ∀ x ∈ p, x.ok) ∧ Hid (g8 < wx.heap.size) ∧ Below w.heap.size w wx)
        case first =>
          go_wp2_with fail
          go_loopw [10] (fun t wr => ∃ (k : Nat) (acc : List (List Deed)) (S : RS) (vp : Value) (q : Option Addr) (n cc : Nat), k ≤ n1 ∧ t = .int .i64 k ∧ acc.length = k ∧ Hid (progsG (n1 - k) acc S = progsG n1 [] S1) ∧ Hid (RsV w G (.agg #[.slice q n cc, .int .i64 (S.code : Int)]) S) ∧ Hid (Blk wr (w.heap.size + 1) 94 #[.slice q n cc, .int .i64 (S.code : Int)]) ∧ Hid (Blk wr g8 27 (X.cells vp (.slice none 0 0))) ∧ Hid (OPP 45 109 wr (g8 + 1) vp acc) ∧ Hid (Blk wr w.heap.size 27 (zeroY.cells (.slice none 0 0) (.slice none 0 0))) ∧ Hid (∀ p ∈ acc, ∀ x ∈ p, x.ok) ∧ Hid (g8 < wr.heap.size) ∧ Hid (Below w.heap.size w wr)) (fun t _ => n1 - (intOf t).toNat)
          case atStart => exact ⟨0, [], S1, _, p1, m1, c1, by omega, rfl, rfl, Lib.hid rfl, HV1, Z4, Z8, Lib.hid (OPP.nil _ _), Z2, Lib.hid (fun p hp => nomatch hp), HLT9, HB9⟩
          case round =>
            clear HV1 Z4 Z8 Z2 HB9 HLT9
            obtain ⟨k, acc, S, vp, q, n, cc, hk, rfl, hal, hX2, hv, h4, h8, hO, h2, hok, hlt8, hb⟩ := hrel
            have b4 := h4.out
            have b8 := h8.out
            have b2 := h2.out
            have hcd : wr.cell? ⟨w.heap.size + 1, 1, none⟩ = some (.int .i64 (S.code : Int)) := b4.cell 1
            have hbb := hb.out
            obtain ⟨us0, _, ho0, _⟩ := id hO.out
            obtain ⟨vpp, vpc, rfl⟩ := own_shape9 ho0
            have hb8l := hlt8.out
            clear ho0 h4 h8 h2
            by_cases hgo : k < n1 ∧ S.code = 0
            · obtain ⟨hlt, hz⟩ := hgo
              have tz : ((S.code : Int) == 0) = true := by rw [hz]; rfl
              have hx := hX2.out
              rw [show n1 - k = n1 - (k + 1) + 1 by omega] at hx
              have hnx := progsG_next hx hz
              have hpo := getPr_oks S
              rw [getPr_out] at hnx hpo
              have hrg := RPGet_any q n cc (S.code : Int) S G wr (fun j hj => Nat.lt_of_lt_of_le (HGG.out j hj) hbb.size) (hv.out.later hbb)
              generalize getP S = qq at hnx hpo hrg
              obtain ⟨S2, pp, y⟩ := qq
              simp only at hnx hpo hrg
              generalize outS y S2 = S3 at hnx hrg
              have HNX := Lib.hid hnx
              have HPO := Lib.hid (oks_snoc hok.out hpo)
              have hOw := hO.out
              have HAL := Lib.hid hal
              clear hx hX2 hz hnx hpo hok hO
              go_wp2_with (first
                | (refine wpList_load_row rfl 94 _ rfl (w.heap.size + 1) rfl 94 _ (0, 0) _ b4 Tryz.underlying94 rfl (sizeRd _ _) ?_)
                | (go_at_call 56; (with_reducible refine hrg.mono ?_); clear hrg; rintro e w4 ⟨⟨p4, m4, c4, v4, rfl, hv4, hown4⟩, hb4⟩; obtain ⟨pv, pc, rfl⟩ := own_shape9 hown4; have y4 := bump b4 hb4; have y8 := bump b8 hb4; have y2 := bump b2 hb4; have hbw4 := below_pre hbb hb4; have HV4 := Lib.hid (Wire.RsV.back (Wire.RsV.back hv4 hb4 (fun j hj => Nat.lt_of_lt_of_le (HGG.out j hj) hbb.size)) hbb HGG.out); have ha5 := below_alloc1 w4 (.cells #[.slice p4 m4 c4, .int .i64 (S3.code : Int)] 94); have k5 := Blk.new w4 94 #[.slice p4 m4 c4, .int .i64 (S3.code : Int)]; have u4 := bump y4 ha5; have u8 := bump y8 ha5; have u2 := bump y2 ha5; have hbw5 := below_pre hbw4 ha5; have hfo5 : Foot (fun j => j = w.heap.size + 1) wr (w4.alloc (.cells #[.slice p4 m4 c4, .int .i64 (S3.code : Int)] 94)) := (Foot.of_below _ hb4).alloc _; have hown5 := hown4.alloc (.cells #[.slice p4 m4 c4, .int .i64 (S3.code : Int)] 94))
                | (refine wpList_alloc_agg rfl 94 rfl #[.slice none 0 0, .int .i64 0] zeroRd ?_)
                | (refine wpList_store_row rfl 94 _ _ rfl w4.heap.size #[.slice p4 m4 c4, .int .i64 (S3.code : Int)] rfl rfl 94 _ (heap_alloc_new w4 _) (sizeRd _ _) rfl (oneRd _ trivial) ?_; rw [World.setRow_alloc_new])
                | (refine wpList_load_row rfl 94 _ rfl w4.heap.size rfl 94 _ (0, 0) _ k5 Tryz.underlying94 rfl (sizeRd _ _) ?_)
                | (refine wpList_store_row rfl 94 _ _ rfl (w.heap.size + 1) #[.slice p4 m4 c4, .int .i64 (S3.code : Int)] rfl rfl 94 _ u4 (sizeRd _ _) rfl (oneRd _ trivial) ?_; have hf6 := foot_setRow (w4.alloc (.cells #[.slice p4 m4 c4, .int .i64 (S3.code : Int)] 94)) (w.heap.size + 1) #[.slice p4 m4 c4, .int .i64 (S3.code : Int)]; have t4 := u4.row #[.slice p4 m4 c4, .int .i64 (S3.code : Int)]; have t8 := u8.foot hf6 (by omega); have t2 := u2.foot hf6 (by omega); have hfo6 := hfo5.trans hf6; have hown6 := hf6.own hown5 (fun j hj (e : j = w.heap.size + 1) => by have := (hown5.lt j hj).1; omega); have hbw6 := hbw5.trans (foot_row (w := w4.alloc (.cells #[.slice p4 m4 c4, .int .i64 (S3.code : Int)] 94)) (B := w.heap.size) (r := w.heap.size + 1) #[.slice p4 m4 c4, .int .i64 (S3.code : Int)] (by omega)); obtain ⟨us, hul, ho2, hmk⟩ := hOw.outer2 (by decide) hfo6 (by omega); have HMK := Lib.hid hmk; clear hmk; rw [HAL.out] at ho2; have c7 : ((w4.alloc (.cells #[.slice p4 m4 c4, .int .i64 (S3.code : Int)] 94)).setRow (w.heap.size + 1) #[.slice p4 m4 c4, .int .i64 (S3.code : Int)]).cell? ⟨g8, 7, none⟩ = some (.slice vpp acc.length vpc) := t8.cell 7; rw [HAL.out] at c7; clear hf6 u4 u8 u2 hfo5 hown5 k5 ha5; generalize (w4.alloc (.cells #[.slice p4 m4 c4, .int .i64 (S3.code : Int)] 94)).setRow (w.heap.size + 1) #[.slice p4 m4 c4, .int .i64 (S3.code : Int)] = w6 at t4 t8 t2 hfo6 hown6 hbw6 ho2 HMK c7 ⊢)
                | (at_builtin; refine wpList_append_lits rfl _ _ 24 rfl (g8 + 1) 45 i0 (.slice none 0 0) 24 Tryz.underlying24 hi hz0 hz1 hz2 rfl (by decide) ho2 rfl _ rfl rfl rfl (by omega) (by have := hfo6.size; omega) ?_; intro v' w7 ho7 hb7 _ hf7; obtain ⟨vq, vqc, rfl⟩ := own_shape9 ho7; have s4 := t4.foot hf7 (own_ne_blk ho2 t4 (by decide)); have s8 := t8.foot hf7 (own_ne_blk ho2 t8 (by decide)); have s2 := t2.foot hf7 (own_ne_blk ho2 t2 (by decide)); have fr7 := s8.frozen 7; have c77 : w7.cell? ⟨g8, 7, none⟩ = some (.slice vpp acc.length vpc) := s8.cell 7))
              have hn7 := hf7.own hown6 (own_apart hown6 ho2 (by decide))
              have hO7 := HMK.out _ _ pp w7 (by rw [HAL.out]; exact ho7) (by rw [HAL.out]; exact hf7) (own_mono hn7 (by omega)) (fun j hj => (hown6.lt j hj).1)
              have hfs8 := foot_cell w7 g8 7 (.slice vq (k + 1) vqc)
              have r8 : Blk (w7.setCell ⟨g8, 7, none⟩ (.slice vq (k + 1) vqc)) g8 27 (X.cells (.slice vq (k + 1) vqc) (.slice none 0 0)) := s8.set 7 _
              have r4 := s4.foot hfs8 (by omega)
              have r2 := s2.foot hfs8 (by omega)
              have hO8 := hO7.far s8 (by decide) (by decide) hfs8
              have hbw7 : Below w.heap.size w w7 := hbw6.trans (hb7.mono (by omega))
              have hbw8 := hbw7.trans (hfs8.below (B := w.heap.size) hbw7.size (fun j hj => by omega))
              have hl8 := r8.lt
              go_roundw
              case rel => exact ⟨k + 1, acc ++ [pp], S3, _, p4, m4, c4, by omega, by go_num, by rw [List.length_append, HAL.out]; rfl, HNX, HV4, Lib.hid r4, Lib.hid r8, Lib.hid hO8, Lib.hid r2, HPO, Lib.hid hl8, Lib.hid hbw8⟩
              case measure => simp [intOf]; omega
            · have hst := progsG_stop hX2.out (by
                by_cases h : k < n1
                · exact .inr (fun e => hgo ⟨h, e⟩)
                · exact .inl (by omega))
              have tq : (¬ (k : Int) < (n1 : Int)) ∨ ((k : Int) < (n1 : Int) ∧ ((S.code : Int) == 0) = false) := by
                by_cases h : k < n1
                · exact .inr ⟨by omega, by rw [beq_eq_false_iff_ne]; exact fun e => hgo ⟨h, by omega⟩⟩
                · exact .inl (by omega)
              have HST := Lib.hid hst
              clear hgo hX2 hst
              rcases tq with tq | ⟨tq, tz⟩
              all_goals
                go_wp2
                go_meet
                exact ⟨S, acc, _, q, n, cc, HST, hv, Lib.hid b4, Lib.hid b8, hO, Lib.hid b2, hok, hlt8, hbb⟩
        case rest =>
          obtain ⟨S2, ps, vp, q2, n2, c2, hPG, hv, h4, h8, hO, h2, hok, hlt8, hb⟩ := hcut
          clear HV1 Z4 Z8 Z2 HB9 HLT9
          have x4 := h4.out
          have x8 := h8.out
          have x2 := h2.out
          obtain ⟨us0, _, ho0, _⟩ := id hO.out
          obtain ⟨vpp, vpc, rfl⟩ := own_shape9 ho0
          have hcnt := RCountY_any q2 n2 c2 (S2.code : Int) S2 G wc (fun j hj => Nat.lt_of_lt_of_le (HGG.out j hj) hb.size) (hv.out.later hb)
          have hm6 := countY_le S2
          obtain ⟨CS2, hCS2⟩ : ∃ CS2, countY S2 = CS2 := ⟨_, rfl⟩
          rw [hCS2] at hcnt hm6
          have HCS2 := Lib.hid hCS2
          obtain ⟨S3, m1⟩ := CS2
          simp only at hcnt hm6
          have hlc := hlt8.out
          clear hCS2 hv ho0 h4 h8 h2
          go_upto_block 4 with (first
            | (refine wpList_load_row rfl 94 _ rfl (w.heap.size + 1) rfl 94 _ (0, 0) _ x4 Tryz.underlying94 rfl (sizeRd _ _) ?_)
            | (go_at_call 55; (with_reducible refine hcnt.mono ?_); clear hcnt; rintro e w9 ⟨⟨p3, m3, c3, rfl, hv3⟩, hb9⟩; have y4 := bump x4 hb9; have y8 := bump x8 hb9; have y2 := bump x2 hb9; have hO9 := hO.out.below hb9; have hbw9 := below_pre hb hb9; have HV3 := Lib.hid (Wire.RsV.back hv3 hb HGG.out); clear hv3)
            | (refine wpList_store_row rfl 94 _ _ rfl (w.heap.size + 1) #[.slice p3 m3 c3, .int .i64 (S3.code : Int)] rfl rfl 94 _ y4 (sizeRd _ _) rfl (oneRd _ trivial) ?_; have z4 := y4.row #[.slice p3 m3 c3, .int .i64 (S3.code : Int)]; have z8 := y8.foot (foot_setRow w9 (w.heap.size + 1) #[.slice p3 m3 c3, .int .i64 (S3.code : Int)]) (by omega); have z2 := y2.foot (foot_setRow w9 (w.heap.size + 1) #[.slice p3 m3 c3, .int .i64 (S3.code : Int)]) (by omega); have zO := hO9.far y4 (by decide) (by decide) (foot_setRow w9 (w.heap.size + 1) #[.slice p3 m3 c3, .int .i64 (S3.code : Int)]); have hbw10 := hbw9.trans (foot_row (w := w9) (B := w.heap.size) (r := w.heap.size + 1) #[.slice p3 m3 c3, .int .i64 (S3.code : Int)] (by omega))))
          obtain ⟨W9, hW9⟩ : ∃ W9, W9 = w9.setRow (w.heap.size + 1) #[.slice p3 m3 c3, .int .i64 (S3.code : Int)] := ⟨_, rfl⟩
          rw [← hW9] at z4 z8 z2 zO hbw10 ⊢
          have Z4 := Lib.hid z4
          have Z8 := Lib.hid z8
          have Z2 := Lib.hid z2
          have ZO := Lib.hid zO
          have HB9 := Lib.hid hbw10
          have hlt9 : g8 < W9.heap.size := z8.lt
          have HLT9 := Lib.hid hlt9
          have HOK := hok
          clear hW9 x4 x8 x2 hb hb9 y4 y8 y2 hO9 hbw9 z4 z8 z2 zO hbw10 hlt9 hO hlt8 hlc hok
          go_cut [7] (fun s7 wx => ∃ (S4 : RS) (ss : List St) (g' : Bool) (vs : Value) (q4 : Option Addr) (n4 c4 : Nat), s7 = .bool g' ∧ Hid (startsG m1 [] gr S3 = (S4, ss, g')) ∧ Hid (RsV w G (.agg #[.slice q4 n4 c4, .int .i64 (S4.code : Int)]) S4) ∧ Hid (Blk wx (w.heap.size + 1) 94 #[.slice q4 n4 c4, .int .i64 (S4.code : Int)]) ∧ Hid (Blk wx g8 27 (X.cells (.slice vpp ps.length vpc) vs)) ∧ Hid (OPP 45 109 wx (g8 + 1) (.slice vpp ps.length vpc) ps) ∧ Hid (wx.ownsRow (g8 + 1) 58 3 vs ss.length (ss.flatMap stCells)) ∧ Hid (Blk wx w.heap.size 27 (zeroY.cells (.slice none 0 0) (.slice none 0 0))) ∧ Hid (∀ s ∈ ss, s.ok) ∧ Hid (g8 < wx.heap.size) ∧ Below w.heap.size w wx)
          case first =>
            go_wp2_with fail
            go_loopw [7, 13] (fun s7 t wr => ∃ (k : Nat) (acc : List St) (g : Bool) (S : RS) (vs : Value) (q : Option Addr) (n cc : Nat), k ≤ m1 ∧ s7 = .bool g ∧ t = .int .i64 k ∧ acc.length = k ∧ Hid (startsG (m1 - k) acc g S = startsG m1 [] gr S3) ∧ Hid (RsV w G (.agg #[.slice q n cc, .int .i64 (S.code : Int)]) S) ∧ Hid (Blk wr (w.heap.size + 1) 94 #[.slice q n cc, .int .i64 (S.code : Int)]) ∧ Hid (Blk wr g8 27 (X.cells (.slice vpp ps.length vpc) vs)) ∧ Hid (OPP 45 109 wr (g8 + 1) (.slice vpp ps.length vpc) ps) ∧ Hid (wr.ownsRow (g8 + 1) 58 3 vs acc.length (acc.flatMap stCells)) ∧ Hid (Blk wr w.heap.size 27 (zeroY.cells (.slice none 0 0) (.slice none 0 0))) ∧ Hid (∀ s ∈ acc, s.ok) ∧ Hid (g8 < wr.heap.size) ∧ Hid (Below w.heap.size w wr)) (fun _ t _ => m1 - (intOf t).toNat)
            case atStart => exact ⟨0, [], gr, S3, _, p3, m3, c3, by omega, rfl, rfl, rfl, Lib.hid rfl, HV3, Z4, Z8, ZO, Lib.hid (World.ownsRow_nil _ _ _ _), Z2, Lib.hid (fun p hp => nomatch hp), HLT9, HB9⟩
            case round =>
              clear HV3 Z4 Z8 Z2 ZO HB9 HLT9
              obtain ⟨k, acc, g, S, vs, q, n, cc, hk, rfl, rfl, hal, hX3, hv, h4, h8, hO, hs, h2, hok, hlt8, hb⟩ := hrel
              have b4 := h4.out
              have b8 := h8.out
              have b2 := h2.out
              have hcd : wr.cell? ⟨w.heap.size + 1, 1, none⟩ = some (.int .i64 (S.code : Int)) := b4.cell 1
              have hbb := hb.out
              have hss := hs.out
              obtain ⟨vsp, vsc, rfl⟩ := own_shape9 hss
              have hb8l := hlt8.out
              have hOO := hO.out
              clear h4 h8 h2 hs hO
              by_cases hgo : k < m1 ∧ S.code = 0
              · obtain ⟨hlt, hz⟩ := hgo
                have tz : ((S.code : Int) == 0) = true := by rw [hz]; rfl
                have hx := hX3.out
                rw [show m1 - k = m1 - (k + 1) + 1 by omega] at hx
                have hnx := startsG_next hx hz
                have hsok := stOf_ok S
                have hga := fun W (hbW : Below w.heap.size w W) => Wire.GetNum_any _ S G W (fun j hj => Nat.lt_of_lt_of_le (HGG.out j hj) hbW.size) (hv.out.later hbW)
                have hxa := Wire.rdNum_lt S
                unfold rdSt at hnx hsok
                generalize rdNum S = qa at hnx hsok hga hxa
                obtain ⟨Sa, xa⟩ := qa
                simp only at hnx hsok hga hxa
                have hgb := fun p m c W (hV : RsV w G (.agg #[.slice p m c, .int .i64 (Sa.code : Int)]) Sa) (hbW : Below w.heap.size w W) => Wire.GetNum_any _ Sa G W (fun j hj => Nat.lt_of_lt_of_le (HGG.out j hj) hbW.size) (hV.later hbW)
                have hxb := Wire.rdNum_lt Sa
                generalize rdNum Sa = qb at hnx hsok hgb hxb
                obtain ⟨Sb, xb⟩ := qb
                simp only at hnx hsok hgb hxb
                have hgc := fun p m c W (hV : RsV w G (.agg #[.slice p m c, .int .i64 (Sb.code : Int)]) Sb) (hbW : Below w.heap.size w W) => Wire.GetNum_any _ Sb G W (fun j hj => Nat.lt_of_lt_of_le (HGG.out j hj) hbW.size) (hV.later hbW)
                generalize rdNum Sb = qc at hnx hsok hgc
                obtain ⟨Sc, xc⟩ := qc
                simp only at hnx hsok hgc
                obtain ⟨gN, hgN⟩ : ∃ gN, (g || bigSt (xa, xb, xc)) = gN := ⟨_, rfl⟩
                rw [hgN] at hnx
                have hq : (g = true ∧ gN = true) ∨ (g = false ∧ decide ((xa : Int) > 2147483647) = true ∧ gN = true) ∨ (g = false ∧ decide ((xa : Int) > 2147483647) = false ∧ decide ((xb : Int) > 2147483647) = gN) := by
                  rw [big_bool, big_bool]
                  unfold bigSt at hgN
                  simp only at hgN
                  cases g with
                  | true => exact .inl ⟨rfl, by rw [← hgN]; rfl⟩
                  | false =>
                    rw [Bool.false_or] at hgN
                    cases hA : decide (2147483647 < xa) with
                    | true => rw [hA, Bool.true_or] at hgN; exact .inr (.inl ⟨rfl, rfl, hgN.symm⟩)
                    | false => rw [hA, Bool.false_or] at hgN; exact .inr (.inr ⟨rfl, rfl, hgN⟩)
                have sa := fun W => Small_any xa hxa W
                have sb := fun W => Small_any xb hxb W
                have HNX := Lib.hid hnx
                have HSOK := Lib.hid (st_snoc hok.out hsok)
                have HAL := Lib.hid hal
                have HGA := Lib.hid hga
                have HGB := Lib.hid hgb
                have HGC := Lib.hid hgc
                have ha0 := below_alloc1 wr (.cells #[.int .i64 0, .int .i64 0, .int .u64 0] 58)
                have k0 := Blk.new wr 58 #[.int .i64 0, .int .i64 0, .int .u64 0]
                have a4 := bump b4 ha0
                have f0 : Foot (fun j => j = w.heap.size + 1) wr (wr.alloc (.cells #[.int .i64 0, .int .i64 0, .int .u64 0] 58)) := (Foot.refl _ wr).alloc _
                have hb0 := below_pre hbb ha0
                have hl4 := b4.lt
                clear hx hX3 hz hnx hsok hok hgN hga hgb hgc hxa hxb ha0
                rcases hq with ⟨rfl, rfl⟩ | ⟨rfl, ta, rfl⟩ | ⟨rfl, ta, tb⟩
                all_goals
                  go_wp2_with (first
                    | (refine wpList_load_row rfl 94 _ rfl (w.heap.size + 1) rfl 94 _ (0, 0) _ a4 Tryz.underlying94 rfl (sizeRd _ _) ?_)
                    | (go_at_call 52; (with_reducible refine (HGA.out _ hb0).mono ?_); rintro e w1 ⟨⟨v1, rfl, hv1⟩, hb1⟩; obtain ⟨p1, m1', c1, rfl⟩ := hv1.shape; have y4 := bump a4 hb1; have k1 := bump k0 hb1; have f1 := f0.trans (Foot.of_below _ hb1); have hbw1 := below_pre hb0 hb1; have HVA := Lib.hid (Wire.RsV.back hv1 hb0 HGG.out); clear hv1)
                    | (refine wpList_store_row rfl 94 _ _ rfl (w.heap.size + 1) #[.slice p1 m1' c1, .int .i64 (Sa.code : Int)] rfl rfl 94 _ y4 (sizeRd _ _) rfl (oneRd _ trivial) ?_; have z4 := y4.row #[.slice p1 m1' c1, .int .i64 (Sa.code : Int)]; have k2 := k1.foot (foot_setRow w1 (w.heap.size + 1) #[.slice p1 m1' c1, .int .i64 (Sa.code : Int)]) (by omega); have f2 := f1.trans (foot_setRow w1 (w.heap.size + 1) #[.slice p1 m1' c1, .int .i64 (Sa.code : Int)]); have hbw2 := hbw1.trans (foot_row (w := w1) (B := w.heap.size) (r := w.heap.size + 1) #[.slice p1 m1' c1, .int .i64 (Sa.code : Int)] (by omega)); clear y4; generalize w1.setRow (w.heap.size + 1) #[.slice p1 m1' c1, .int .i64 (Sa.code : Int)] = wa at z4 k2 f2 hbw2 ⊢)
                    | (refine wpList_load_row rfl 94 _ rfl (w.heap.size + 1) rfl 94 _ (0, 0) _ z4 Tryz.underlying94 rfl (sizeRd _ _) ?_)
                    | (go_at_call 52; (with_reducible refine (HGB.out _ _ _ _ HVA.out hbw2).mono ?_); rintro e w3 ⟨⟨v3, rfl, hv3⟩, hb3⟩; obtain ⟨p3', m3', c3', rfl⟩ := hv3.shape; have y4 := bump z4 hb3; have k3 := bump k2 hb3; have f3 := f2.trans (Foot.of_below _ hb3); have hbw3 := below_pre hbw2 hb3; have HVB := Lib.hid (Wire.RsV.back hv3 hbw2 HGG.out); clear hv3)
                    | (refine wpList_store_row rfl 94 _ _ rfl (w.heap.size + 1) #[.slice p3' m3' c3', .int .i64 (Sb.code : Int)] rfl rfl 94 _ y4 (sizeRd _ _) rfl (oneRd _ trivial) ?_; have u4 := y4.row #[.slice p3' m3' c3', .int .i64 (Sb.code : Int)]; have k4 := k3.foot (foot_setRow w3 (w.heap.size + 1) #[.slice p3' m3' c3', .int .i64 (Sb.code : Int)]) (by omega); have f4 := f3.trans (foot_setRow w3 (w.heap.size + 1) #[.slice p3' m3' c3', .int .i64 (Sb.code : Int)]); have hbw4 := hbw3.trans (foot_row (w := w3) (B := w.heap.size) (r := w.heap.size + 1) #[.slice p3' m3' c3', .int .i64 (Sb.code : Int)] (by omega)); clear y4; generalize w3.setRow (w.heap.size + 1) #[.slice p3' m3' c3', .int .i64 (Sb.code : Int)] = wb at u4 k4 f4 hbw4 ⊢)
                    | (refine wpList_load_row rfl 94 _ rfl (w.heap.size + 1) rfl 94 _ (0, 0) _ u4 Tryz.underlying94 rfl (sizeRd _ _) ?_)
                    | (go_at_call 52; (with_reducible refine (HGC.out _ _ _ _ HVB.out hbw4).mono ?_); rintro e w5 ⟨⟨v5, rfl, hv5⟩, hb5⟩; obtain ⟨p5, m5, c5, rfl⟩ := hv5.shape; have y4 := bump u4 hb5; have k5 := bump k4 hb5; have f5 := f4.trans (Foot.of_below _ hb5); have hbw5 := below_pre hbw4 hb5; have HVC := Lib.hid (Wire.RsV.back hv5 hbw4 HGG.out); clear hv5)
                    | (refine wpList_store_row rfl 94 _ _ rfl (w.heap.size + 1) #[.slice p5 m5 c5, .int .i64 (Sc.code : Int)] rfl rfl 94 _ y4 (sizeRd _ _) rfl (oneRd _ trivial) ?_; have t4 := y4.row #[.slice p5 m5 c5, .int .i64 (Sc.code : Int)]; have k6 := k5.foot (foot_setRow w5 (w.heap.size + 1) #[.slice p5 m5 c5, .int .i64 (Sc.code : Int)]) (by omega); have f6 := f5.trans (foot_setRow w5 (w.heap.size + 1) #[.slice p5 m5 c5, .int .i64 (Sc.code : Int)]); have hbw6 := hbw5.trans (foot_row (w := w5) (B := w.heap.size) (r := w.heap.size + 1) #[.slice p5 m5 c5, .int .i64 (Sc.code : Int)] (by omega)); clear y4; generalize w5.setRow (w.heap.size + 1) #[.slice p5 m5 c5, .int .i64 (Sc.code : Int)] = wd at t4 k6 f6 hbw6 ⊢; have e2 := k6.frozen 2; have d2 : wd.cell? ⟨wr.heap.size, 2, none⟩ = some (.int .u64 0) := k6.cell 2; have j1 : Blk (wd.setCell ⟨wr.heap.size, 2, none⟩ (.int .u64 (xc : Int))) wr.heap.size 58 #[.int .i64 0, .int .i64 0, .int .u64 (xc : Int)] := k6.set 2 _; have e0 := j1.frozen 0; have d0 : (wd.setCell ⟨wr.heap.size, 2, none⟩ (.int .u64 (xc : Int))).cell? ⟨wr.heap.size, 0, none⟩ = some (.int .i64 0) := j1.cell 0; have j2 : Blk ((wd.setCell ⟨wr.heap.size, 2, none⟩ (.int .u64 (xc : Int))).setCell ⟨wr.heap.size, 0, none⟩ (.int .i64 ((smallY xa : Nat) : Int))) wr.heap.size 58 #[.int .i64 ((smallY xa : Nat) : Int), .int .i64 0, .int .u64 (xc : Int)] := j1.set 0 _; have e1 := j2.frozen 1; have d1 : ((wd.setCell ⟨wr.heap.size, 2, none⟩ (.int .u64 (xc : Int))).setCell ⟨wr.heap.size, 0, none⟩ (.int .i64 ((smallY xa : Nat) : Int))).cell? ⟨wr.heap.size, 1, none⟩ = some (.int .i64 0) := j2.cell 1; have j3 : Blk (((wd.setCell ⟨wr.heap.size, 2, none⟩ (.int .u64 (xc : Int))).setCell ⟨wr.heap.size, 0, none⟩ (.int .i64 ((smallY xa : Nat) : Int))).setCell ⟨wr.heap.size, 1, none⟩ (.int .i64 ((smallY xb : Nat) : Int))) wr.heap.size 58 #[.int .i64 (stOf (xa, xb, xc)).prog, .int .i64 (stOf (xa, xb, xc)).grade, .int .u64 ((stOf (xa, xb, xc)).mask : Int)] := j2.set 1 _; have f9 : Foot (fun j => j = w.heap.size + 1) wr (((wd.setCell ⟨wr.heap.size, 2, none⟩ (.int .u64 (xc : Int))).setCell ⟨wr.heap.size, 0, none⟩ (.int .i64 ((smallY xa : Nat) : Int))).setCell ⟨wr.heap.size, 1, none⟩ (.int .i64 ((smallY xb : Nat) : Int))) := ((f6.setCell (p := ⟨wr.heap.size, 2, none⟩) (.inr (Nat.le_refl _)) _).setCell (p := ⟨wr.heap.size, 0, none⟩) (.inr (Nat.le_refl _)) _).setCell (p := ⟨wr.heap.size, 1, none⟩) (.inr (Nat.le_refl _)) _; have r8 := b8.foot f9 (by omega); have d8 : (((wd.setCell ⟨wr.heap.size, 2, none⟩ (.int .u64 (xc : Int))).setCell ⟨wr.heap.size, 0, none⟩ (.int .i64 ((smallY xa : Nat) : Int))).setCell ⟨wr.heap.size, 1, none⟩ (.int .i64 ((smallY xb : Nat) : Int))).cell? ⟨g8, 8, none⟩ = some (.slice vsp acc.length vsc) := r8.cell 8; rw [HAL.out] at d8)
                    | (go_at_call 53; (with_reducible refine (sa _).mono ?_); rintro e w' ⟨rfl, rfl⟩)
                    | (go_at_call 53; (with_reducible refine (sb _).mono ?_); rintro e w' ⟨rfl, rfl⟩)
                    | (refine wpList_load_row rfl 58 _ rfl wr.heap.size rfl 58 _ (0, 0) _ j3 Tryz.underlying58 rfl (sizeSt (stOf (xa, xb, xc))) ?_; have r4 : Blk (((wd.setCell ⟨wr.heap.size, 2, none⟩ (.int .u64 (xc : Int))).setCell ⟨wr.heap.size, 0, none⟩ (.int .i64 ((smallY xa : Nat) : Int))).setCell ⟨wr.heap.size, 1, none⟩ (.int .i64 ((smallY xb : Nat) : Int))) (w.heap.size + 1) 94 #[.slice p5 m5 c5, .int .i64 (Sc.code : Int)] := ((t4.far (p := ⟨wr.heap.size, 2, none⟩) (by simp; omega) _).far (p := ⟨wr.heap.size, 0, none⟩) (by simp; omega) _).far (p := ⟨wr.heap.size, 1, none⟩) (by simp; omega) _; have r2 := b2.foot f9 (by omega); have rO := hOO.foot f9 (fun j hj _ e => by omega); have rs := f9.own hss (fun j hj e => by have := (hss.lt j hj).1; omega); rw [HAL.out] at rs; have hbw9 := hbb.trans (f9.below (B := w.heap.size) hbb.size (fun j hj => by omega)); clear j1 j2 e0 e1 e2 d0 d1 d2 f6 k6 t4; generalize (((wd.setCell ⟨wr.heap.size, 2, none⟩ (.int .u64 (xc : Int))).setCell ⟨wr.heap.size, 0, none⟩ (.int .i64 ((smallY xa : Nat) : Int))).setCell ⟨wr.heap.size, 1, none⟩ (.int .i64 ((smallY xb : Nat) : Int))) = we at j3 f9 r8 d8 r4 r2 rO rs hbw9 ⊢)
                    | (refine wpList_lit_st rfl _ rfl (stOf (xa, xb, xc)) rfl ?_)
                    | (at_builtin; refine wpList_append_st rfl _ _ rfl (g8 + 1) rs rfl rfl (stOf (xa, xb, xc)) 58 (by omega) (by have := f9.size; omega) ?_; intro v' w8 ho8 hb8 hf8; obtain ⟨vq, vqc, rfl⟩ := own_shape9 ho8; have s4 := r4.foot hf8 (own_ne_blk rs r4 (by decide)); have s8 := r8.foot hf8 (own_ne_blk rs r8 (by decide)); have s2 := r2.foot hf8 (own_ne_blk rs r2 (by decide)); have fr8 := s8.frozen 8; have c8 : w8.cell? ⟨g8, 8, none⟩ = some (.slice vsp acc.length vsc) := s8.cell 8))
                  have sO : OPP 45 109 w8 (g8 + 1) (.slice vpp ps.length vpc) ps := rO.apart rs (by decide) (by decide) hf8
                  have hfs9 := foot_cell w8 g8 8 (.slice vq (k + 1) vqc)
                  have t8 : Blk (w8.setCell ⟨g8, 8, none⟩ (.slice vq (k + 1) vqc)) g8 27 (X.cells (.slice vpp ps.length vpc) (.slice vq (k + 1) vqc)) := s8.set 8 _
                  have t4 := s4.foot hfs9 (by omega)
                  have t2 := s2.foot hfs9 (by omega)
                  have tO := sO.far s8 (by decide) (by decide) hfs9
                  have ts := own_far ho8 s8 (by decide) hfs9
                  have hl9 := t8.lt
                  have hbx := hbw9.trans (hb8.mono (by omega))
                  have hby := hbx.trans (hfs9.below (B := w.heap.size) hbx.size (fun j hj => by omega))
                  have hlen : (acc ++ [stOf (xa, xb, xc)]).length = k + 1 := by rw [List.length_append, HAL.out]; rfl
                  have HLEN := Lib.hid hlen
                  clear hlen
                  go_roundw
                  case rel => exact ⟨k + 1, acc ++ [stOf (xa, xb, xc)], _, Sc, _, p5, m5, c5, by omega, rfl, by go_num, HLEN.out, HNX, HVC, Lib.hid t4, Lib.hid t8, Lib.hid tO, Lib.hid (by rw [HLEN.out]; exact ts), Lib.hid t2, HSOK, Lib.hid hl9, Lib.hid hby⟩
                  case measure => simp [intOf]; omega
              · have hst := startsG_stop hX3.out (by
                  by_cases h : k < m1
                  · exact .inr (fun e => hgo ⟨h, e⟩)
                  · exact .inl (by omega))
                have tq : (¬ (k : Int) < (m1 : Int)) ∨ ((k : Int) < (m1 : Int) ∧ ((S.code : Int) == 0) = false) := by
                  by_cases h : k < m1
                  · exact .inr ⟨by omega, by rw [beq_eq_false_iff_ne]; exact fun e => hgo ⟨h, by omega⟩⟩
                  · exact .inl (by omega)
                have HST := Lib.hid hst
                clear hgo hX3 hst
                rcases tq with tq | ⟨tq, tz⟩
                all_goals
                  go_wp2
                  go_meet
                  exact ⟨S, acc, g, _, q, n, cc, rfl, HST, hv, Lib.hid b4, Lib.hid b8, Lib.hid hOO, Lib.hid hss, Lib.hid b2, hok, hlt8, hbb⟩
          case rest =>
            obtain ⟨S4, ss, g', vs, q4, n4, c4, rfl, hSG, hv, h4, h8, hO, hs, h2, hsok, hlt8, hb⟩ := hcut
            clear HV3 Z4 Z8 Z2 ZO HB9 HLT9
            have x4 := h4.out
            have x8 := h8.out
            have x2 := h2.out
            have hss := hs.out
            obtain ⟨vsp, vsc, rfl⟩ := own_shape9 hss
            obtain ⟨D, hD⟩ : ∃ D, D = headOf [a0, a1, a2, a3, a4, a5, a6] ps ss := ⟨_, rfl⟩
            have hDp : D.progs = ps := by rw [hD]; rfl
            have hDs : D.starts = ss := by rw [hD]; rfl
            have okD : D.ok := by rw [hD]; exact headOf_ok HXS.out HOK.out hsok.out
            have hXD : X.cells (.slice vpp ps.length vpc) (.slice vsp ss.length vsc) = D.cells (.slice vpp D.progs.length vpc) (.slice vsp D.starts.length vsc) := by rw [hDp, hDs, hD, HX.out]; rfl
            have hDV : DV wc (fun j => w.heap.size + 1 ≤ j) (.slice vpp D.progs.length vpc) (.slice vsp D.starts.length vsc) D := by
              refine ⟨?_, ?_⟩
              · rw [hDp]; exact hO.out.reads.grow (fun j hj => by omega)
              · rw [hDs]; exact (rs_own hss rfl).grow (fun j hj => by omega)
            rw [hXD] at x8
            have hRE : R = endY S4 g' D := by
              rw [← HR.out]
              unfold decGo
              rw [HCS.out]
              simp only
              rw [hPG.out]
              simp only
              rw [HCS2.out, HGRB.out]
              simp only
              rw [hSG.out, hD]
            have hdone := Wire.RefDone_any _ S4 G wc (hv.out.later hb)
            unfold endY at hRE
            rw [done_eq9] at hRE
            generalize Wire.rdDone S4 = f at hRE hdone
            clear hD hDp hDs hXD hSG hv h4 h8 h2 hO hs hsok hss hPG HX HXc HXS HR HCS HCS2 HGRB HOK
            by_cases hf : f = 0
            · rw [if_pos hf] at hRE
              have tf : ((f : Int) != 0) = false := by rw [hf]; rfl
              clear hf
              cases g' with
              | true =>
                rw [if_pos rfl] at hRE
                have HRE := Lib.hid hRE
                clear hRE
                go_wp2_with (first
                  | (refine wpList_load_row rfl 94 _ rfl (w.heap.size + 1) rfl 94 _ (0, 0) _ x4 Tryz.underlying94 rfl (sizeRd _ _) ?_)
                  | (go_at_call 57; (with_reducible refine hdone.mono ?_); clear hdone; rintro e w9 ⟨rfl, hb9⟩; have y2 := bump x2 hb9; have hbw9 := below_pre hb hb9)
                  | (refine wpList_store_row rfl 27 _ _ rfl w.heap.size (zeroY.cells (.slice none 0 0) (.slice none 0 0)) rfl rfl 27 _ y2 (sizeY _ _ _) rfl (oneY _ _ _ _ _ _ _) ?_))
                refine bodyPost_ret (results_row_tmp rfl _ _ w.heap.size 27 (zeroY.cells (.slice none 0 0) (.slice none 0 0)) (0, 0) _ rfl (y2.row _) Tryz.underlying27 rfl (sizeY _ _ _)) rfl ?_
                rw [HRE.out]
                exact ⟨⟨_, _, rfl, ⟨RPP.nil _ _, RSs.nil _ _⟩⟩, hbw9.trans (foot_row _ (Nat.le_refl _))⟩
              | false =>
                rw [if_neg (by decide)] at hRE
                have hchk := fun W (hW : DV W (fun j => w.heap.size + 1 ≤ j) (.slice vpp D.progs.length vpc) (.slice vsp D.starts.length vsc) D) => RCheckY_any D okD _ _ _ W hW
                by_cases hc : checkY D = 0
                · rw [if_pos hc] at hRE
                  rw [hc] at hchk
                  have HRE := Lib.hid hRE
                  have HDV := Lib.hid hDV
                  clear hRE hc hDV okD
                  go_wp2_with (first
                    | (refine wpList_load_row rfl 94 _ rfl (w.heap.size + 1) rfl 94 _ (0, 0) _ x4 Tryz.underlying94 rfl (sizeRd _ _) ?_)
                    | (go_at_call 57; (with_reducible refine hdone.mono ?_); clear hdone; rintro e w9 ⟨rfl, hb9⟩; have y2 := bump x2 hb9; have y8 := bump x8 hb9; have hbw9 := below_pre hb hb9; have hD9 := HDV.out.later hb9)
                    | (refine wpList_load_row rfl 27 _ rfl g8 rfl 27 _ (0, 0) _ y8 Tryz.underlying27 rfl (sizeY _ _ _) ?_)
                    | (go_at_call 11; (with_reducible refine (hchk _ hD9).mono ?_); clear hchk; rintro e w7 ⟨rfl, hb7⟩; have z2 := bump y2 hb7; have z8 := bump y8 hb7; have hbw7 := below_pre hbw9 hb7; have HD7 := Lib.hid (hD9.later hb7))
                    | (refine wpList_load_row rfl 27 _ rfl g8 rfl 27 _ (0, 0) _ z8 Tryz.underlying27 rfl (sizeY _ _ _) ?_)
                    | (refine wpList_store_row rfl 27 _ _ rfl w.heap.size (D.cells (.slice vpp D.progs.length vpc) (.slice vsp D.starts.length vsc)) rfl rfl 27 _ z2 (sizeY _ _ _) rfl (oneY _ _ _ _ _ _ _) ?_))
                  refine bodyPost_ret (results_row_tmp rfl _ _ w.heap.size 27 (D.cells (.slice vpp D.progs.length vpc) (.slice vsp D.starts.length vsc)) (0, 0) _ rfl (z2.row _) Tryz.underlying27 rfl (sizeY _ _ _)) rfl ?_
                  rw [HRE.out]
                  exact ⟨⟨_, _, rfl, (DV.foot HD7.out (foot_setRow w7 w.heap.size (D.cells (.slice vpp D.progs.length vpc) (.slice vsp D.starts.length vsc))) (fun j hj e => by omega)).grow (fun j hj => by omega)⟩, hbw7.trans (foot_row _ (Nat.le_refl _))⟩
                · rw [if_neg hc] at hRE
                  have hne : ((checkY D : Int) != 0) = true := by simp; omega
                  generalize checkY D = code at *
                  have HRE := Lib.hid hRE
                  have HDV := Lib.hid hDV
                  clear hRE hc hDV okD
                  go_wp2_with (first
                    | (refine wpList_load_row rfl 94 _ rfl (w.heap.size + 1) rfl 94 _ (0, 0) _ x4 Tryz.underlying94 rfl (sizeRd _ _) ?_)
                    | (go_at_call 57; (with_reducible refine hdone.mono ?_); clear hdone; rintro e w9 ⟨rfl, hb9⟩; have y2 := bump x2 hb9; have y8 := bump x8 hb9; have hbw9 := below_pre hb hb9; have hD9 := HDV.out.later hb9)
                    | (refine wpList_load_row rfl 27 _ rfl g8 rfl 27 _ (0, 0) _ y8 Tryz.underlying27 rfl (sizeY _ _ _) ?_)
                    | (go_at_call 11; (with_reducible refine (hchk _ hD9).mono ?_); clear hchk; rintro e w7 ⟨rfl, hb7⟩; have z2 := bump y2 hb7; have hbw7 := below_pre hbw9 hb7)
                    | (refine wpList_store_row rfl 27 _ _ rfl w.heap.size (zeroY.cells (.slice none 0 0) (.slice none 0 0)) rfl rfl 27 _ z2 (sizeY _ _ _) rfl (oneY _ _ _ _ _ _ _) ?_))
                  refine bodyPost_ret (results_row_tmp rfl _ _ w.heap.size 27 (zeroY.cells (.slice none 0 0) (.slice none 0 0)) (0, 0) _ rfl (z2.row _) Tryz.underlying27 rfl (sizeY _ _ _)) rfl ?_
                  rw [HRE.out]
                  exact ⟨⟨_, _, rfl, ⟨RPP.nil _ _, RSs.nil _ _⟩⟩, hbw7.trans (foot_row _ (Nat.le_refl _))⟩
            · rw [if_neg hf] at hRE
              have tf : ((f : Int) != 0) = true := by simp; omega
              have HRE := Lib.hid hRE
              clear hf hRE
              go_wp2_with (first
                | (refine wpList_load_row rfl 94 _ rfl (w.heap.size + 1) rfl 94 _ (0, 0) _ x4 Tryz.underlying94 rfl (sizeRd _ _) ?_)
                | (go_at_call 57; (with_reducible refine hdone.mono ?_); clear hdone; rintro e w9 ⟨rfl, hb9⟩; have y2 := bump x2 hb9; have hbw9 := below_pre hb hb9)
                | (refine wpList_store_row rfl 27 _ _ rfl w.heap.size (zeroY.cells (.slice none 0 0) (.slice none 0 0)) rfl rfl 27 _ y2 (sizeY _ _ _) rfl (oneY _ _ _ _ _ _ _) ?_))
              refine bodyPost_ret (results_row_tmp rfl _ _ w.heap.size 27 (zeroY.cells (.slice none 0 0) (.slice none 0 0)) (0, 0) _ rfl (y2.row _) Tryz.underlying27 rfl (sizeY _ _ _)) rfl ?_
              rw [HRE.out]
              exact ⟨⟨_, _, rfl, ⟨RPP.nil _ _, RSs.nil _ _⟩⟩, hbw9.trans (foot_row _ (Nat.le_refl _))⟩
end Go.Proofs.YtbdimfcdpkldpaaGreatDoor
