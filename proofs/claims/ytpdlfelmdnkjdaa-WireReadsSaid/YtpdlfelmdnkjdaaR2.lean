/- The contract of the reference's GetNum. -/
import Derived.Test.YtpdlfelmdnkjdaaR1
namespace Go.Proofs.Ytpdlfelmdnkjdaa
open Go.RowKit

/-- The frame of a call: the argument's box at N holds x, y, the result's box behind it; nothing older has turned. -/
structure Fr (w W : World) (x y b0 b1 : Value) : Prop where
  arg : Blk W w.heap.size 39 #[x, y]
  res : Blk W (w.heap.size + 1) 39 #[b0, b1]
  below : Below w.heap.size w W
theorem Fr.new (w : World) (x y b0 b1 : Value) : Fr w ((w.alloc (.cells #[x, y] 39)).alloc (.cells #[b0, b1] 39)) x y b0 b1 :=
  ⟨(Blk.new w _ _).alloc _, by have h := Blk.new (w.alloc (.cells #[x, y] 39)) 39 #[b0, b1]; simpa using h, below_alloc2 _ _ _⟩
section
variable {w W W' : World} {x y b0 b1 : Value}
theorem Fr.later (h : Fr w W x y b0 b1) (hb : Below W.heap.size W W') : Fr w W' x y b0 b1 :=
  ⟨h.arg.below hb h.arg.lt, h.res.below hb h.res.lt, h.below.trans (hb.mono h.below.size)⟩
theorem Fr.put (h : Fr w W x y b0 b1) (u v : Value) : Fr w ((W.setCell ⟨w.heap.size, 0, none⟩ u).setCell ⟨w.heap.size, 1, none⟩ v) u v b0 b1 := by
  refine ⟨?_, ?_, ?_⟩
  · exact (h.arg.set 0 u).set 1 v
  · exact (h.res.far (p := ⟨w.heap.size, 0, none⟩) (by show w.heap.size + 1 ≠ w.heap.size; omega) u).far (p := ⟨w.heap.size, 1, none⟩) (by show w.heap.size + 1 ≠ w.heap.size; omega) v
  · exact (h.below.setCell (p := ⟨w.heap.size, 0, none⟩) (Nat.le_refl _) u).setCell (p := ⟨w.heap.size, 1, none⟩) (Nat.le_refl _) v
theorem Fr.out (h : Fr w W x y b0 b1) (u v : Value) : Below w.heap.size w ((W.setCell ⟨w.heap.size + 1, 0, none⟩ u).setCell ⟨w.heap.size + 1, 1, none⟩ v) :=
  (h.below.setCell (p := ⟨w.heap.size + 1, 0, none⟩) (by show _ ≤ w.heap.size + 1; omega) u).setCell (p := ⟨w.heap.size + 1, 1, none⟩) (by show _ ≤ w.heap.size + 1; omega) v
/-- What the walk is told of a frame. -/
structure Fr.Cells (w W : World) (x y b0 b1 : Value) : Prop where
  a0 : W.cell? ⟨w.heap.size, 0, none⟩ = some x
  a1 : W.cell? ⟨w.heap.size, 1, none⟩ = some y
  r0 : W.cell? ⟨w.heap.size + 1, 0, none⟩ = some b0
  r1 : W.cell? ⟨w.heap.size + 1, 1, none⟩ = some b1
  fa0 : W.frozen? ⟨w.heap.size, 0, none⟩ = false
  fa1 : W.frozen? ⟨w.heap.size, 1, none⟩ = false
  f0 : W.frozen? ⟨w.heap.size + 1, 0, none⟩ = false
  f1 : W.frozen? ⟨w.heap.size + 1, 1, none⟩ = false
theorem Fr.cells (h : Fr w W x y b0 b1) : Fr.Cells w W x y b0 b1 := ⟨h.arg.cell 0, h.arg.cell 1, h.res.cell 0, h.res.cell 1, h.arg.frozen 0, h.arg.frozen 1, h.res.frozen 0, h.res.frozen 1⟩
end

set_option maxHeartbeats 800000 in
theorem GetNum_bad (v : Value) (p : Option Addr) (n c : Nat) (x : Int) (hv : v = .agg #[.slice p n c, .int .i64 x]) (e : Nat) (he : 0 < e) (w : World)
    (hg : ∀ W, Calls Try.prog 34 #[v] W fun e' w' => e' = .returned (.tuple #[.agg #[.slice none 0 0, .int .i64 (e : Int)], .int .u8 0]) ∧ Below W.heap.size W w') :
    Calls Try.prog 35 #[v] w fun e' w' => e' = .returned (.tuple #[.agg #[.slice none 0 0, .int .i64 (e : Int)], .int .u64 0]) ∧ Below w.heap.size w w' := by
  subst hv
  have ht : ((e : Int) != 0) = true := by rw [bne_iff_ne]; omega
  have hfr := Fr.new w (.slice p n c) (.int .i64 x) (.slice none 0 0) (.int .i64 0)
  have HG := Lib.hid hg
  clear he hg
  go_enter Try.func35, Try.ntmps35
  go_wp2_with fail
  refine (HG.out _).mono ?_
  rintro e' w1 ⟨rfl, hb1⟩
  have hfr1 := hfr.later hb1
  obtain ⟨a0, a1, r0, r1, fa0, fa1, f0, f1⟩ := hfr1.cells
  have HF := Lib.hid hfr1
  clear hfr hfr1 hb1
  go_wp2
  exact bodyPost_ret (v := .tuple #[.agg #[.slice none 0 0, .int .i64 e], .int .u64 0]) (by simp [results, Try.results35, go_sem, a0, a1, r0, r1, fa0, fa1, f0, f1]) rfl ⟨rfl, (HF.out.put _ _).out _ _⟩

set_option maxHeartbeats 800000 in
theorem GetNum_great (p : Option Addr) (cp : Nat) (c : UInt8) (l : List UInt8) (h8 : 8 < c.toNat) (G : Nat → Prop) (w : World) (hr : RV w G (.slice p (c :: l).length cp) (c :: l).length 1 ((c :: l).map bV)) (hG : ∀ k, G k → k < w.heap.size) :
    Calls Try.prog 35 #[.agg #[.slice p (c :: l).length cp, .int .i64 0]] w fun e' w' => e' = .returned (.tuple #[.agg #[.slice none 0 0, .int .i64 3], .int .u64 0]) ∧ Below w.heap.size w w' := by
  have hfr := Fr.new w (.slice p (c :: l).length cp) (.int .i64 0) (.slice none 0 0) (.int .i64 0)
  have hg := GetByte_cons p cp c l G _ (hr.below hfr.below (fun k hk hg => hG k hg))
  generalize hn : c.toNat = n at *
  have hd8 : decide ((8 : Int) < (n : Int)) = true := by simp; omega
  clear hn h8
  go_enter Try.func35, Try.ntmps35
  go_wp2_with fail
  refine hg.mono ?_
  clear hg
  rintro e' w1 ⟨⟨sl, rfl, hrl⟩, hb1⟩
  have hrl := hrl.below hb1 (fun k hk hg => hk)
  obtain ⟨q, cq, rfl, hlq, hmq, _, _, hdat⟩ := hrl
  unfold maxLen at hmq
  have hfr1 := (hfr.later hb1).put (.slice q l.length cq) (.int .i64 0)
  obtain ⟨a0, a1, r0, r1, fa0, fa1, f0, f1⟩ := hfr1.cells
  obtain ⟨c0, c1, d0, d1, ga0, ga1, g0, g1⟩ := (hfr.later hb1).cells
  have HF := Lib.hid hfr1
  have hff := Rfail_ok q l.length cq 3
  clear hfr hfr1 hb1
  go_wp2_with fail
  refine (hff _).mono ?_
  clear hff
  rintro e' w2 ⟨rfl, hb2⟩
  have hfr2 := HF.out.later hb2
  obtain ⟨a0', a1', r0', r1', fa0', fa1', f0', f1'⟩ := hfr2.cells
  have HF2 := Lib.hid hfr2
  clear hfr2 hb2
  go_wp2
  exact bodyPost_ret (v := .tuple #[.agg #[.slice none 0 0, .int .i64 3], .int .u64 0]) (by simp [results, Try.results35, go_sem, r0', r1', f0', f1']) rfl ⟨rfl, HF2.out.out _ _⟩

set_option maxHeartbeats 800000 in
theorem GetNum_short (p : Option Addr) (cp : Nat) (c : UInt8) (l : List UInt8) (h8 : ¬ 8 < c.toNat) (hl : l.length < c.toNat) (G : Nat → Prop) (w : World) (hr : RV w G (.slice p (c :: l).length cp) (c :: l).length 1 ((c :: l).map bV)) (hG : ∀ k, G k → k < w.heap.size) :
    Calls Try.prog 35 #[.agg #[.slice p (c :: l).length cp, .int .i64 0]] w fun e' w' => e' = .returned (.tuple #[.agg #[.slice none 0 0, .int .i64 2], .int .u64 0]) ∧ Below w.heap.size w w' := by
  have hfr := Fr.new w (.slice p (c :: l).length cp) (.int .i64 0) (.slice none 0 0) (.int .i64 0)
  have hg := GetByte_cons p cp c l G _ (hr.below hfr.below (fun k hk hg => hG k hg))
  generalize hn : c.toNat = n at *
  have hd8 : decide ((8 : Int) < (n : Int)) = false := by simp; omega
  have hdl : decide (l.length < n) = true := by simp; omega
  clear hn
  go_enter Try.func35, Try.ntmps35
  go_wp2_with fail
  refine hg.mono ?_
  clear hg
  rintro e' w1 ⟨⟨sl, rfl, hrl⟩, hb1⟩
  have hrl := hrl.below hb1 (fun k hk hg => hk)
  obtain ⟨q, cq, rfl, hlq, hmq, _, _, hdat⟩ := hrl
  unfold maxLen at hmq
  have hfr1 := (hfr.later hb1).put (.slice q l.length cq) (.int .i64 0)
  obtain ⟨a0, a1, r0, r1, fa0, fa1, f0, f1⟩ := hfr1.cells
  obtain ⟨c0, c1, d0, d1, ga0, ga1, g0, g1⟩ := (hfr.later hb1).cells
  have HF := Lib.hid hfr1
  have hff := Rfail_ok q l.length cq 2
  clear hfr hfr1 hb1
  go_wp2_with fail
  refine (hff _).mono ?_
  clear hff
  rintro e' w2 ⟨rfl, hb2⟩
  have hfr2 := HF.out.later hb2
  obtain ⟨a0', a1', r0', r1', fa0', fa1', f0', f1'⟩ := hfr2.cells
  have HF2 := Lib.hid hfr2
  clear hfr2 hb2
  go_wp2
  exact bodyPost_ret (v := .tuple #[.agg #[.slice none 0 0, .int .i64 2], .int .u64 0]) (by simp [results, Try.results35, go_sem, r0', r1', f0', f1']) rfl ⟨rfl, HF2.out.out _ _⟩

set_option maxHeartbeats 800000 in
theorem GetNum_zero (p : Option Addr) (cp : Nat) (c : UInt8) (l : List UInt8) (h8 : ¬ 8 < c.toNat) (hl : ¬ l.length < c.toNat) (hn0 : 0 < c.toNat) (hz : l.getD 0 0 = 0) (G : Nat → Prop) (w : World) (hr : RV w G (.slice p (c :: l).length cp) (c :: l).length 1 ((c :: l).map bV)) (hG : ∀ k, G k → k < w.heap.size) :
    Calls Try.prog 35 #[.agg #[.slice p (c :: l).length cp, .int .i64 0]] w fun e' w' => e' = .returned (.tuple #[.agg #[.slice none 0 0, .int .i64 3], .int .u64 0]) ∧ Below w.heap.size w w' := by
  have hfr := Fr.new w (.slice p (c :: l).length cp) (.int .i64 0) (.slice none 0 0) (.int .i64 0)
  have hg := GetByte_cons p cp c l G _ (hr.below hfr.below (fun k hk hg => hG k hg))
  generalize hn : c.toNat = n at *
  have hd8 : decide ((8 : Int) < (n : Int)) = false := by simp; omega
  have hdl : decide (l.length < n) = false := by simp; omega
  clear hn
  go_enter Try.func35, Try.ntmps35
  go_wp2_with fail
  refine hg.mono ?_
  clear hg
  rintro e' w1 ⟨⟨sl, rfl, hrl⟩, hb1⟩
  have hrl := hrl.below hb1 (fun k hk hg => hk)
  obtain ⟨q, cq, rfl, hlq, hmq, _, _, hdat⟩ := hrl
  unfold maxLen at hmq
  obtain ⟨bq, oq, rfl, hbq, hGq, hcell⟩ := hdat.resolve_left (by omega)
  have hGq := hG _ hGq
  have hfr1 := (hfr.later hb1).put (.slice (some ⟨bq, oq, none⟩) l.length cq) (.int .i64 0)
  have h0' : (((w1.setCell ⟨w.heap.size, 0, none⟩ (.slice (some ⟨bq, oq, none⟩) l.length cq)).setCell ⟨w.heap.size, 1, none⟩ (.int .i64 0)).cell? ⟨bq, oq, none⟩) = some (.int .u8 0) := by
    have h00 : w1.cell? ⟨bq, oq, none⟩ = some (.int .u8 0) := hcell 0 _ (by
      rw [List.getElem?_map]
      have h1 : l[0]? = some 0 := by rw [List.getElem?_eq_getElem (by omega), ← hz, List.getD_eq_getElem?_getD, List.getElem?_eq_getElem (by omega)]; rfl
      rw [h1]; rfl)
    exact ((((Foot.refl (fun k => k = w.heap.size) w1).setCell (p := ⟨w.heap.size, 0, none⟩) (.inl rfl) _).setCell (p := ⟨w.heap.size, 1, none⟩) (.inl rfl) _).cell (p := ⟨bq, oq, none⟩) hbq (fun (e : bq = w.heap.size) => by omega)).trans h00
  clear hcell hz
  obtain ⟨a0, a1, r0, r1, fa0, fa1, f0, f1⟩ := hfr1.cells
  obtain ⟨c0, c1, d0, d1, ga0, ga1, g0, g1⟩ := (hfr.later hb1).cells
  have HF := Lib.hid hfr1
  have hff := Rfail_ok (some ⟨bq, oq, none⟩) l.length cq 3
  clear hfr hfr1 hb1
  go_wp2_with fail
  refine (hff _).mono ?_
  clear hff
  rintro e' w2 ⟨rfl, hb2⟩
  have hfr2 := HF.out.later hb2
  obtain ⟨a0', a1', r0', r1', fa0', fa1', f0', f1'⟩ := hfr2.cells
  have HF2 := Lib.hid hfr2
  clear hfr2 hb2
  go_wp2
  exact bodyPost_ret (v := .tuple #[.agg #[.slice none 0 0, .int .i64 3], .int .u64 0]) (by simp [results, Try.results35, go_sem, r0', r1', f0', f1']) rfl ⟨rfl, HF2.out.out _ _⟩

set_option maxHeartbeats 1600000 in
theorem mul_add_wrap (x b : Nat) (hx : x < 72057594037927936) (hb : b < 256) : IntKind.u64.wrap (IntKind.u64.wrap ((x : Int) * 256) + (b : Int)) = ((x * 256 + b : Nat) : Int) := by
  rw [IntWalk.u64_in ((x : Int) * 256) (by omega), IntWalk.u64_in _ (by omega)]; omega

set_option maxHeartbeats 1600000 in
theorem GetNum_ok (p : Option Addr) (cp : Nat) (c : UInt8) (l : List UInt8) (h8 : ¬ 8 < c.toNat) (hl : ¬ l.length < c.toNat) (hz : ¬ (0 < c.toNat ∧ l.getD 0 0 = 0)) (G : Nat → Prop) (w : World) (hr : RV w G (.slice p (c :: l).length cp) (c :: l).length 1 ((c :: l).map bV)) (hG : ∀ k, G k → k < w.heap.size) :
    Calls Try.prog 35 #[.agg #[.slice p (c :: l).length cp, .int .i64 0]] w fun e' w' => (∃ sl, e' = .returned (.tuple #[.agg #[sl, .int .i64 0], .int .u64 (val (l.take c.toNat) : Int)]) ∧ RV w G sl (l.drop c.toNat).length 1 ((l.drop c.toNat).map bV)) ∧ Below w.heap.size w w' := by
  have hfr := Fr.new w (.slice p (c :: l).length cp) (.int .i64 0) (.slice none 0 0) (.int .i64 0)
  have hg := GetByte_cons p cp c l G _ (hr.below hfr.below (fun k hk hg => hG k hg))
  generalize hn : c.toNat = n at *
  have hd8 : decide ((8 : Int) < (n : Int)) = false := by simp; omega
  have hdl : decide (l.length < n) = false := by simp; omega
  clear hn
  go_enter Try.func35, Try.ntmps35
  go_wp2_with fail
  refine hg.mono ?_
  clear hg
  rintro e' w1 ⟨⟨sl, rfl, hrl⟩, hb1⟩
  have HRL := Lib.hid (hrl.back (below_alloc2 w _ _) (Nat.le_refl _) hG)
  have hrl := hrl.below hb1 (fun k hk hg => hk)
  obtain ⟨q, cq, rfl, hlq, hmq, _, _, hdat⟩ := hrl
  unfold maxLen at hmq
  have hfr1 := (hfr.later hb1).put (.slice q l.length cq) (.int .i64 0)
  obtain ⟨a0, a1, r0, r1, fa0, fa1, f0, f1⟩ := hfr1.cells
  obtain ⟨c0, c1, d0, d1, ga0, ga1, g0, g1⟩ := (hfr.later hb1).cells
  have HF := Lib.hid hfr1
  by_cases h0 : n = 0
  · subst h0
    clear hdat hz hfr hfr1 hb1
    have hrr := HRL.out
    go_wp2
    refine wp_loop_rounds 1 ?_
    rw [rounds_succ]
    go_wp2
    exact bodyPost_ret (v := .tuple #[.agg #[.slice q l.length cq, .int .i64 0], .int .u64 0]) (by simp [results, Try.results35, go_sem, r0, r1, f0, f1]) rfl ⟨⟨_, rfl, hrr⟩, HF.out.out _ _⟩
  · obtain ⟨bq, oq, rfl, hbq, hGq, hcell⟩ := hdat.resolve_left (by omega)
    have hGq := hG _ hGq
    have hcs : ∀ k, k < n → (((w1.setCell ⟨w.heap.size, 0, none⟩ (.slice (some ⟨bq, oq, none⟩) l.length cq)).setCell ⟨w.heap.size, 1, none⟩ (.int .i64 0)).cell? ⟨bq, oq + k, none⟩) = some (.int .u8 ((l.getD k 0).toNat : Int)) := fun k hk => by
      have h00 : w1.cell? ⟨bq, oq + k, none⟩ = some (.int .u8 ((l.getD k 0).toNat : Int)) := hcell k _ (by
        rw [List.getElem?_map, List.getD_eq_getElem?_getD, List.getElem?_eq_getElem (by omega)]; rfl)
      exact ((((Foot.refl (fun k => k = w.heap.size) w1).setCell (p := ⟨w.heap.size, 0, none⟩) (.inl rfl) _).setCell (p := ⟨w.heap.size, 1, none⟩) (.inl rfl) _).cell (p := ⟨bq, oq + k, none⟩) hbq (fun (e : bq = w.heap.size) => by omega)).trans h00
    have hn0 : 0 < n := Nat.pos_of_ne_zero h0
    have hc0 := hcs 0 hn0
    have hz1 : 0 < (l.getD 0 0).toNat := by
      rcases Nat.eq_zero_or_pos (l.getD 0 0).toNat with e | e
      · exact absurd ⟨hn0, UInt8.toNat_inj.1 (by simpa using e)⟩ hz
      · exact e
    generalize (l.getD 0 0).toNat = f at hc0 hz1
    rw [Nat.add_zero] at hc0
    have hft : ((f : Int) == 0) = false := by rw [beq_eq_false_iff_ne]; omega
    have HC := Lib.hid hcs
    clear hcs hcell hz hfr hfr1 hb1 hdat
    go_wp2
    generalize ((w1.setCell ⟨w.heap.size, 0, none⟩ (.slice (some ⟨bq, oq, none⟩) l.length cq)).setCell ⟨w.heap.size, 1, none⟩ (.int .i64 0)) = W2 at *
    go_loop [5, 6] (fun x t => ∃ k : Nat, k ≤ n ∧ t = .int .i64 k ∧ x = .int .u64 (val (l.take k) : Int)) (fun _ t => n - (intOf t).toNat)
    case atStart => exact ⟨0, by omega, rfl, rfl⟩
    case round =>
      obtain ⟨k, hk, rfl, rfl⟩ := hrel
      by_cases hkn : k < n
      · have hck := HC.out k hkn
        have hvs := val_small l k (by omega)
        have hbs := (l.getD k 0).toNat_lt
        have hvt := val_take l k (by omega)
        generalize (l.getD k 0).toNat = b1 at hck hbs hvt
        generalize val (l.take k) = x1 at hvs hvt ⊢
        have HV := Lib.hid hvs
        have HT := Lib.hid hvt
        clear hvs hvt
        go_wp2
        go_round
        case rel => exact ⟨k + 1, by omega, by go_num, by rw [mul_add_wrap _ _ HV.out hbs, HT.out]⟩
        case measure => simp [intOf]; omega
      · obtain rfl : k = n := by omega
        have hrr := HRL.out.rest k (by omega)
        rw [Nat.mul_one, ← List.map_drop] at hrr
        by_cases hcq : cq = k
        · subst hcq
          rw [if_pos rfl, show l.length - cq = 0 by omega] at hrr
          have HRR := Lib.hid hrr
          clear hrr
          go_wp2
          exact bodyPost_ret (v := .tuple #[.agg #[.slice (some ⟨bq, oq, none⟩) 0 0, .int .i64 0], .int .u64 (val (l.take cq) : Int)]) (by simp [results, Try.results35, go_sem, r0, r1, f0, f1]) rfl ⟨⟨_, rfl, by simpa using HRR.out⟩, HF.out.out _ _⟩
        · rw [if_neg hcq] at hrr
          have HRR := Lib.hid hrr
          clear hrr
          go_wp2
          exact bodyPost_ret (v := .tuple #[.agg #[.slice (some ⟨bq, oq + k, none⟩) (l.length - k) (cq - k), .int .i64 0], .int .u64 (val (l.take k) : Int)]) (by simp [results, Try.results35, go_sem, r0, r1, f0, f1]) rfl ⟨⟨_, rfl, by have h := HRR.out; simp only [Option.map_some, Go.WideShapes.add_plain] at h; simpa using h⟩, HF.out.out _ _⟩

/-- A contract of the reference's that reads: a state and what was read. -/
def GetOut (w w' : World) (G : Nat → Prop) (e : Ending) (st : RS) (x : Value) : Prop := (∃ v, e = .returned (.tuple #[v, x]) ∧ RsV w G v st) ∧ Below w.heap.size w w'

theorem RsV.shape {w : World} {G : Nat → Prop} {v : Value} {st : RS} (h : RsV w G v st) : ∃ p n c, v = .agg #[.slice p n c, .int .i64 (st.code : Int)] := by
  cases st with
  | ok l => obtain ⟨⟨sl, rfl, hr⟩, _⟩ := h; obtain ⟨p, c, rfl, _⟩ := hr; exact ⟨_, _, _, rfl⟩
  | err e => obtain ⟨rfl, _⟩ := h; exact ⟨_, _, _, rfl⟩

theorem GetByte_any (v : Value) (st : RS) (G : Nat → Prop) (w : World) (h : RsV w G v st) :
    Calls Try.prog 34 #[v] w fun e w' => GetOut w w' G e (rdByte st).1 (.int .u8 ((rdByte st).2 : Int)) := by
  match st with
  | .ok [] =>
    obtain ⟨⟨sl, rfl, hr⟩, _⟩ := h
    obtain ⟨p, c, rfl, _⟩ := hr
    exact (GetByte_nil p c w).mono fun e w' ⟨he, hb⟩ => ⟨⟨_, he, rfl, by decide⟩, hb⟩
  | .ok (c :: l) =>
    obtain ⟨⟨sl, rfl, hr⟩, hl⟩ := h
    obtain ⟨p, cp, rfl, _⟩ := id hr
    exact (GetByte_cons p cp c l G w hr).mono fun e w' ⟨⟨sl, he, hr⟩, hb⟩ => ⟨⟨_, he, ⟨sl, rfl, hr⟩, by simp at hl; omega⟩, hb⟩
  | .err e =>
    obtain ⟨rfl, he⟩ := h
    exact (GetByte_err e he w).mono fun e' w' ⟨he', hb⟩ => ⟨⟨_, he', rfl, he⟩, hb⟩

theorem GetNum_any (v : Value) (st : RS) (G : Nat → Prop) (w : World) (hG : ∀ k, G k → k < w.heap.size) (h : RsV w G v st) :
    Calls Try.prog 35 #[v] w fun e w' => GetOut w w' G e (rdNum st).1 (.int .u64 ((rdNum st).2 : Int)) := by
  match st with
  | .ok [] =>
    obtain ⟨⟨sl, rfl, hr⟩, _⟩ := h
    obtain ⟨p, c, rfl, _⟩ := hr
    exact (GetNum_bad _ p _ c 0 rfl 2 (by decide) w (fun W => GetByte_nil p c W)).mono fun e w' ⟨he, hb⟩ => ⟨⟨_, he, rfl, by decide⟩, hb⟩
  | .err e =>
    obtain ⟨rfl, he⟩ := h
    exact (GetNum_bad _ none 0 0 e rfl e he w (fun W => GetByte_err e he W)).mono fun e' w' ⟨he', hb⟩ => ⟨⟨_, he', rfl, he⟩, hb⟩
  | .ok (c :: l) =>
    obtain ⟨⟨sl, rfl, hr⟩, hl4⟩ := h
    obtain ⟨p, cp, rfl, _⟩ := id hr
    rw [rdNum_cons]
    by_cases h1 : 8 < c.toNat
    · rw [if_pos h1]; exact (GetNum_great p cp c l h1 G w hr hG).mono fun e w' ⟨he, hb⟩ => ⟨⟨_, he, rfl, by decide⟩, hb⟩
    · rw [if_neg h1]
      by_cases h2 : l.length < c.toNat
      · rw [if_pos h2]; exact (GetNum_short p cp c l h1 h2 G w hr hG).mono fun e w' ⟨he, hb⟩ => ⟨⟨_, he, rfl, by decide⟩, hb⟩
      · rw [if_neg h2]
        by_cases h3 : 0 < c.toNat ∧ l.getD 0 0 = 0
        · rw [if_pos h3]; exact (GetNum_zero p cp c l h1 h2 h3.1 h3.2 G w hr hG).mono fun e w' ⟨he, hb⟩ => ⟨⟨_, he, rfl, by decide⟩, hb⟩
        · rw [if_neg h3]; exact (GetNum_ok p cp c l h1 h2 h3 G w hr hG).mono fun e w' ⟨⟨sl, he, hr⟩, hb⟩ => ⟨⟨_, he, ⟨sl, rfl, hr⟩, by rw [List.length_drop]; simp at hl4; omega⟩, hb⟩
end Go.Proofs.Ytpdlfelmdnkjdaa
