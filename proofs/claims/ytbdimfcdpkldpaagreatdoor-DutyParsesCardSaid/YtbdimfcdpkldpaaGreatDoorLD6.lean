/- The contract of the reference's Parse, its loop, at a spawn with all its words. The contract of the reference's Parse, its loop, at a spawn without its last word. The contract of the reference's Parse: what the program's Parse answers. -/
import Derived.Test.YtbdimfcdpkldpaaGreatDoorLD5
namespace Go.Proofs.YtbdimfcdpkldpaaGreatDoor
open Go.RowKit

section
variable (s0 : ByteArray) (hs : s0.size ≤ 4000) (w : World)
include hs
set_option maxRecDepth 100000 in
set_option maxHeartbeats 8000000 in
theorem RParse_spawn (z : List UInt8) (ws : List (List UInt8)) (hD : wordsGo [] s0.data.toList = z :: ws) (h0 : ¬ opOf z = 0) (hl : ws.length = (opr (opOf z)).length) (h2 : opOf z = 2) (R : Deed × Nat)
    (hRn : refGo (opr (opOf z)) ws (opD (opOf z)) = none → R = (zeroD, 3)) (hRg : ∀ d, refGo (opr (opOf z)) ws (opD (opOf z)) = some d → goodD d = true → R = (d, 0)) (hRb : ∀ d, refGo (opr (opOf z)) ws (opD (opOf z)) = some d → goodD d = false → R = (zeroD, 5)) :
    Calls Tryz.prog 82 #[.string s0] w fun e w' => e = .returned (.tuple #[.agg R.1.cells, .int .i64 (R.2 : Int)]) ∧ Below w.heap.size w w' := by
  have hw := RWords_any s0 hs
  rw [hD] at hw
  have hbr0 := Blk.new w 109 zeroD.cells
  have hb0 := below_alloc1 w (.cells zeroD.cells 109)
  obtain ⟨Z, hZ⟩ : ∃ Z : ByteArray, Z = ⟨z.toArray⟩ := ⟨_, rfl⟩
  have hop := rop_any Z
  rw [show Z.data.toList = z by rw [hZ]] at hop
  have HZ := Lib.hid hZ
  have hparts := Parts_any (opOf z : Int) (opOf_isOp z h0)
  have hsz := partsL_size (opOf z : Int)
  have h5 := opr_len (opOf z : Int) (opOf_isOp z h0)
  have h7 := Lib.hid (opr_lt (opOf z : Int) (opOf_isOp z h0))
  have hix := Lib.hid (parts_ix (opOf z : Int))
  unfold sV at hparts
  generalize (ByteArray.mk (partsL (opOf z : Int)).toArray) = s at *
  generalize opr (opOf z : Int) = os at *
  rw [← hl] at hsz
  have t2 : ((opOf z : Int) == 2) = true := by rw [beq_iff_eq]; omega
  have t3 : (((ws.length : Int) + 1) == (ws.length : Int)) = false := by rw [beq_eq_false_iff_ne]; omega
  clear h2
  have hsmall : Hid (∀ l ∈ ws, l.length ≤ 4000) := Lib.hid (fun l hl => by have := (words_small s0.data.toList hs).2 l; rw [hD] at this; exact this (List.mem_cons_of_mem _ hl))
  have hwl : ws.length ≤ 3999 := by have := (words_small s0.data.toList hs).1; rw [hD] at this; simp at this; omega
  generalize opOf z = op at *
  obtain ⟨A, hA⟩ : ∃ A, refGo (os.drop 0) (ws.drop 0) (opD (op : Int)) = A := ⟨_, rfl⟩
  rw [show os = os.drop 0 from rfl, show ws = ws.drop 0 from rfl, hA] at hRn hRg hRb
  have HA := Lib.hid hA
  have HRn := Lib.hid hRn
  have HRg := Lib.hid hRg
  have HRb := Lib.hid hRb
  have hn0 : ((op : Int) == 0) = false := by rw [beq_eq_false_iff_ne]; omega
  have HWL := Lib.hid hl
  clear hl
  simp only [List.drop_zero] at *
  clear h0 hs hD hZ hA hRn hRg hRb
  go_enter Tryz.func82, Tryz.ntmps82
  go_wp2_with (first
    | (refine wpList_alloc_agg rfl 109 rfl zeroD.cells zeroR ?_)
    | (go_at_call 79; (with_reducible refine (hw _).mono ?_); clear hw; rintro e w1 ⟨v, rfl, hown, hb1⟩; have hbr1 := hbr0.below hb1 hbr0.lt; have hrr : RV w1 (fun b => b < w1.heap.size) _ _ 1 _ := (RV.of_own hown).mono (fun k hk _ => hk); obtain ⟨p, c, rfl, hnc, _⟩ := id hrr; obtain ⟨b, off, rfl, hbl, _, hcell1⟩ := hrr.at1 0 (sV z) rfl; rw [Nat.add_zero, sV, ← HZ.out] at hcell1; rw [List.length_cons] at hnc; have g : Hid (Below w1.heap.size w1 w1) := Lib.hid (Below.refl _ _); have hcell := hcell1)
    | (go_at_call 124; (with_reducible refine (hop _).mono ?_); rintro e w2 ⟨rfl, hb2⟩; replace g := Lib.hid (g.out.trans (hb2.mono g.out.size)); clear hb2 hcell; have hcell := (g.out.cell (p := ⟨b, off, none⟩) hbl).trans hcell1)
    | (refine wpList_store_row rfl 109 _ _ rfl w2.heap.size (opD (op : Int)).cells rfl rfl 109 _ (heap_alloc_new w2 _) (sizeD _) rfl (oneD _) ?_; rw [World.setRow_alloc_new]; have hcd : (w2.alloc (.cells (opD (op : Int)).cells 109)).cell? ⟨w2.heap.size, 0, none⟩ = some (.int .i64 (op : Int)) := (Blk.new w2 109 (opD (op : Int)).cells).cell 0)
    | (go_at_call 114; (with_reducible refine (hparts _).mono ?_); clear hparts hcd; rintro e w4 ⟨rfl, hb4⟩; have hbd4 := (Blk.new w2 109 (opD (op : Int)).cells).below hb4 (by simp); have hcd : w4.cell? ⟨w2.heap.size, 0, none⟩ = some (.int .i64 (op : Int)) := hbd4.cell 0))
  have hbr4 : Blk w4 w.heap.size 109 zeroD.cells := ((hbr1.below g.out hbr1.lt).alloc _).below hb4 (by have := (hbr1.below g.out hbr1.lt).lt; simp; omega)
  have hbw2 : Below w.heap.size w w2 := below_pre (below_pre hb0 hb1) g.out
  have hbw4 : Below w.heap.size w w4 := below_pre (hbw2.alloc hbw2.size _) hb4
  have hgs := g.out.size
  have h12 : Below w1.heap.size w1 w4 := (g.out.alloc hgs _).trans (hb4.mono (by simp; omega))
  have hrr4 := hrr.below h12 (fun k hk _ => hk)
  have hgd : w.heap.size < w2.heap.size := (hbr1.below g.out hbr1.lt).lt
  have hg4 := hbd4.lt
  generalize w2.heap.size = gd at *
  clear hbr0 hbr1 hb0 hb1 hb4 hbw2 h12 hcell hcell1 hcd hop hown
  go_loopw [8] (fun t wr => ∃ (k : Nat) (dk : Deed), k ≤ ws.length ∧ t = .int .i64 k ∧ Hid (refGo (os.drop k) (ws.drop k) dk = A) ∧ Blk wr gd 109 dk.cells ∧ Foot (fun b => b = gd) w4 wr) (fun t _ => ws.length - (intOf t).toNat)
  case atStart => exact ⟨0, opD (op : Int), by omega, rfl, HA, hbd4, Foot.refl _ _⟩
  case round =>
    obtain ⟨k, dk, hk, rfl, ha, hbd, hfoot⟩ := hrel
    have hbw5 : Below w.heap.size w wr := hbw4.trans (hfoot.below (B := w.heap.size) (by omega) (fun b hb => by omega))
    have hbr5 := hbr4.foot hfoot (by omega)
    by_cases hlt : k < ws.length
    · obtain ⟨o, ho1⟩ : ∃ o, os[k]? = some o := ⟨_, List.getElem?_eq_getElem (by have := HWL.out; omega)⟩
      obtain ⟨y, hy1⟩ : ∃ y, ws[k]? = some y := ⟨_, List.getElem?_eq_getElem hlt⟩
      have ho7 := h7.out o (List.mem_of_getElem? ho1)
      have hyl := hsmall.out y (List.mem_of_getElem? hy1)
      have ha2 := ha.out
      rw [drop_cons os k o ho1, drop_cons ws k y hy1, refGo] at ha2
      have hi := hix.out k o ho1
      obtain ⟨b', off', hpe, _, _, hcw⟩ := (hrr4.foot hfoot (fun b hb e => by omega)).at1 (k + 1) (sV y) (by rw [List.map_cons, List.getElem?_cons_succ, List.getElem?_map, hy1]; rfl)
      injection hpe with hpe
      injection hpe with hpe1 hpe2
      subst hpe1 hpe2
      unfold sV at hcw
      obtain ⟨Y, hY⟩ : ∃ Y : ByteArray, Y = ⟨y.toArray⟩ := ⟨_, rfl⟩
      have hYl : Y.data.toList = y := by rw [hY]
      rw [← hY] at hcw
      have hYs : Y.size ≤ 4000 := by rw [hY, size_mk]; exact hyl
      have hrd := RRead_any Y hYs wr
      have hrh := RReadHex_any Y wr
      rw [hYl] at hrd hrh
      clear ho1 hy1 hY ha hyl hYs
      have HBD := Lib.hid hbd
      clear hbd
      have e1 : wr.cell? ⟨gd, 1, none⟩ = some (.int .i64 dk.a) := HBD.out.cell 1
      have e2 : wr.cell? ⟨gd, 2, none⟩ = some (.int .i64 dk.b) := HBD.out.cell 2
      have e3 : wr.cell? ⟨gd, 3, none⟩ = some (.int .i64 dk.r) := HBD.out.cell 3
      have e4 : wr.cell? ⟨gd, 4, none⟩ = some (.int .u64 (dk.n : Int)) := HBD.out.cell 4
      have e5 : wr.cell? ⟨gd, 5, none⟩ = some (.int .u64 (dk.mask : Int)) := HBD.out.cell 5
      have e6 : wr.cell? ⟨gd, 6, none⟩ = some (.bool dk.loose) := HBD.out.cell 6
      have f1 := HBD.out.frozen 1
      have f2 := HBD.out.frozen 2
      have f3 := HBD.out.frozen 3
      have f4 := HBD.out.frozen 4
      have f5 := HBD.out.frozen 5
      have f6 := HBD.out.frozen 6
      rcases o_cases ho7 with rfl | rfl | rfl | rfl | rfl | rfl | rfl
      · replace hi : ∀ W, (Instr.index 9 (.string s) (.int .i64 (k : Int))).run Tryz.prog W = .ok (.int .u8 65) W := hi
        clear hrh
        by_cases hy : (readL y).2 = 0
        · have hrw : rdW 0 y = some (readL y).1 := by unfold rdW; simp [hy]
          rw [hy] at hrd
          rw [hrw] at ha2
          generalize (readL y).1 = x at *
          clear hrw
          have HA2 := Lib.hid ha2
          clear ha2 hy
          go_wp2_with (first
            | (go_at_call 122; (with_reducible refine hrd.mono ?_); clear hrd; rintro e w5 ⟨rfl, rfl⟩)
            | (go_at_call 125; (with_reducible refine (small_any x _).mono ?_); rintro e w5 ⟨rfl, rfl⟩))
          go_roundw
          case rel => exact ⟨k + 1, _, by omega, by go_num, HA2, (blk_put HBD.out 1 _ rfl).1, hfoot.trans (blk_put HBD.out 1 _ rfl).2⟩
          case measure => simp [intOf]; omega
        · have hrw : rdW 0 y = none := by unfold rdW; simp [hy]
          rw [hrw] at ha2
          have hA : A = none := ha2.symm
          have ty : (((readL y).2 : Int) != 0) = true := by simp; omega
          generalize (readL y).2 = q at *
          clear ha2 hrw hy
          have hRR := Lib.hid (HRn.out hA)
          go_wp2_with (first
            | (go_at_call 122; (with_reducible refine hrd.mono ?_); clear hrd; rintro e w5 ⟨rfl, rfl⟩)
            | (refine wpList_store_row rfl 109 _ _ rfl w.heap.size zeroD.cells rfl rfl 109 _ hbr5 (sizeD _) rfl (oneD _) ?_))
          refine bodyPost_ret (results_row_tmp rfl _ _ w.heap.size 109 zeroD.cells (0, 0) _ rfl (hbr5.row _) Tryz.underlying109 rfl (sizeD _)) rfl ?_
          exact ⟨by rw [hRR.out]; rfl, hbw5.trans (foot_row _ (Nat.le_refl _))⟩
      · replace hi : ∀ W, (Instr.index 9 (.string s) (.int .i64 (k : Int))).run Tryz.prog W = .ok (.int .u8 66) W := hi
        clear hrh
        by_cases hy : (readL y).2 = 0
        · have hrw : rdW 1 y = some (readL y).1 := by unfold rdW; simp [hy]
          rw [hy] at hrd
          rw [hrw] at ha2
          generalize (readL y).1 = x at *
          clear hrw
          have HA2 := Lib.hid ha2
          clear ha2 hy
          go_wp2_with (first
            | (go_at_call 122; (with_reducible refine hrd.mono ?_); clear hrd; rintro e w5 ⟨rfl, rfl⟩)
            | (go_at_call 125; (with_reducible refine (small_any x _).mono ?_); rintro e w5 ⟨rfl, rfl⟩))
          go_roundw
          case rel => exact ⟨k + 1, _, by omega, by go_num, HA2, (blk_put HBD.out 2 _ rfl).1, hfoot.trans (blk_put HBD.out 2 _ rfl).2⟩
          case measure => simp [intOf]; omega
        · have hrw : rdW 1 y = none := by unfold rdW; simp [hy]
          rw [hrw] at ha2
          have hA : A = none := ha2.symm
          have ty : (((readL y).2 : Int) != 0) = true := by simp; omega
          generalize (readL y).2 = q at *
          clear ha2 hrw hy
          have hRR := Lib.hid (HRn.out hA)
          go_wp2_with (first
            | (go_at_call 122; (with_reducible refine hrd.mono ?_); clear hrd; rintro e w5 ⟨rfl, rfl⟩)
            | (refine wpList_store_row rfl 109 _ _ rfl w.heap.size zeroD.cells rfl rfl 109 _ hbr5 (sizeD _) rfl (oneD _) ?_))
          refine bodyPost_ret (results_row_tmp rfl _ _ w.heap.size 109 zeroD.cells (0, 0) _ rfl (hbr5.row _) Tryz.underlying109 rfl (sizeD _)) rfl ?_
          exact ⟨by rw [hRR.out]; rfl, hbw5.trans (foot_row _ (Nat.le_refl _))⟩
      · replace hi : ∀ W, (Instr.index 9 (.string s) (.int .i64 (k : Int))).run Tryz.prog W = .ok (.int .u8 82) W := hi
        clear hrh
        by_cases hy : (readL y).2 = 0
        · have hrw : rdW 2 y = some (readL y).1 := by unfold rdW; simp [hy]
          rw [hy] at hrd
          rw [hrw] at ha2
          generalize (readL y).1 = x at *
          clear hrw
          have HA2 := Lib.hid ha2
          clear ha2 hy
          go_wp2_with (first
            | (go_at_call 122; (with_reducible refine hrd.mono ?_); clear hrd; rintro e w5 ⟨rfl, rfl⟩)
            | (go_at_call 125; (with_reducible refine (small_any x _).mono ?_); rintro e w5 ⟨rfl, rfl⟩))
          go_roundw
          case rel => exact ⟨k + 1, _, by omega, by go_num, HA2, (blk_put HBD.out 3 _ rfl).1, hfoot.trans (blk_put HBD.out 3 _ rfl).2⟩
          case measure => simp [intOf]; omega
        · have hrw : rdW 2 y = none := by unfold rdW; simp [hy]
          rw [hrw] at ha2
          have hA : A = none := ha2.symm
          have ty : (((readL y).2 : Int) != 0) = true := by simp; omega
          generalize (readL y).2 = q at *
          clear ha2 hrw hy
          have hRR := Lib.hid (HRn.out hA)
          go_wp2_with (first
            | (go_at_call 122; (with_reducible refine hrd.mono ?_); clear hrd; rintro e w5 ⟨rfl, rfl⟩)
            | (refine wpList_store_row rfl 109 _ _ rfl w.heap.size zeroD.cells rfl rfl 109 _ hbr5 (sizeD _) rfl (oneD _) ?_))
          refine bodyPost_ret (results_row_tmp rfl _ _ w.heap.size 109 zeroD.cells (0, 0) _ rfl (hbr5.row _) Tryz.underlying109 rfl (sizeD _)) rfl ?_
          exact ⟨by rw [hRR.out]; rfl, hbw5.trans (foot_row _ (Nat.le_refl _))⟩
      · replace hi : ∀ W, (Instr.index 9 (.string s) (.int .i64 (k : Int))).run Tryz.prog W = .ok (.int .u8 78) W := hi
        clear hrh
        by_cases hy : (readL y).2 = 0
        · have hrw : rdW 3 y = some (readL y).1 := by unfold rdW; simp [hy]
          rw [hy] at hrd
          rw [hrw] at ha2
          generalize (readL y).1 = x at *
          clear hrw
          have HA2 := Lib.hid ha2
          clear ha2 hy
          go_wp2_with (first
            | (go_at_call 122; (with_reducible refine hrd.mono ?_); clear hrd; rintro e w5 ⟨rfl, rfl⟩))
          go_roundw
          case rel => exact ⟨k + 1, _, by omega, by go_num, HA2, (blk_put HBD.out 4 _ rfl).1, hfoot.trans (blk_put HBD.out 4 _ rfl).2⟩
          case measure => simp [intOf]; omega
        · have hrw : rdW 3 y = none := by unfold rdW; simp [hy]
          rw [hrw] at ha2
          have hA : A = none := ha2.symm
          have ty : (((readL y).2 : Int) != 0) = true := by simp; omega
          generalize (readL y).2 = q at *
          clear ha2 hrw hy
          have hRR := Lib.hid (HRn.out hA)
          go_wp2_with (first
            | (go_at_call 122; (with_reducible refine hrd.mono ?_); clear hrd; rintro e w5 ⟨rfl, rfl⟩)
            | (refine wpList_store_row rfl 109 _ _ rfl w.heap.size zeroD.cells rfl rfl 109 _ hbr5 (sizeD _) rfl (oneD _) ?_))
          refine bodyPost_ret (results_row_tmp rfl _ _ w.heap.size 109 zeroD.cells (0, 0) _ rfl (hbr5.row _) Tryz.underlying109 rfl (sizeD _)) rfl ?_
          exact ⟨by rw [hRR.out]; rfl, hbw5.trans (foot_row _ (Nat.le_refl _))⟩
      · replace hi : ∀ W, (Instr.index 9 (.string s) (.int .i64 (k : Int))).run Tryz.prog W = .ok (.int .u8 78) W := hi
        clear hrh
        by_cases hy : (readL y).2 = 0
        · have hrw : rdW 4 y = some (readL y).1 := by unfold rdW; simp [hy]
          rw [hy] at hrd
          rw [hrw] at ha2
          generalize (readL y).1 = x at *
          clear hrw
          have HA2 := Lib.hid ha2
          clear ha2 hy
          go_wp2_with (first
            | (go_at_call 122; (with_reducible refine hrd.mono ?_); clear hrd; rintro e w5 ⟨rfl, rfl⟩))
          go_roundw
          case rel => exact ⟨k + 1, _, by omega, by go_num, HA2, (blk_put HBD.out 4 _ rfl).1, hfoot.trans (blk_put HBD.out 4 _ rfl).2⟩
          case measure => simp [intOf]; omega
        · have hrw : rdW 4 y = none := by unfold rdW; simp [hy]
          rw [hrw] at ha2
          have hA : A = none := ha2.symm
          have ty : (((readL y).2 : Int) != 0) = true := by simp; omega
          generalize (readL y).2 = q at *
          clear ha2 hrw hy
          have hRR := Lib.hid (HRn.out hA)
          go_wp2_with (first
            | (go_at_call 122; (with_reducible refine hrd.mono ?_); clear hrd; rintro e w5 ⟨rfl, rfl⟩)
            | (refine wpList_store_row rfl 109 _ _ rfl w.heap.size zeroD.cells rfl rfl 109 _ hbr5 (sizeD _) rfl (oneD _) ?_))
          refine bodyPost_ret (results_row_tmp rfl _ _ w.heap.size 109 zeroD.cells (0, 0) _ rfl (hbr5.row _) Tryz.underlying109 rfl (sizeD _)) rfl ?_
          exact ⟨by rw [hRR.out]; rfl, hbw5.trans (foot_row _ (Nat.le_refl _))⟩
      · replace hi : ∀ W, (Instr.index 9 (.string s) (.int .i64 (k : Int))).run Tryz.prog W = .ok (.int .u8 77) W := hi
        generalize (readL y).1 = x1 at *
        generalize (readL y).2 = q1 at *
        by_cases hy : (hexR y).2 = 0
        · have hrw : rdW 5 y = some (hexR y).1 := by unfold rdW; simp [hy]
          rw [hy] at hrh
          rw [hrw] at ha2
          generalize (hexR y).1 = x at *
          clear hrw
          have HA2 := Lib.hid ha2
          clear ha2 hy
          go_wp2_with (first
            | (go_at_call 122; (with_reducible refine hrd.mono ?_); clear hrd; rintro e w5 ⟨rfl, rfl⟩)
            | (go_at_call 123; (with_reducible refine hrh.mono ?_); clear hrh; rintro e w5 ⟨rfl, rfl⟩))
          go_roundw
          case rel => exact ⟨k + 1, _, by omega, by go_num, HA2, (blk_put HBD.out 5 _ rfl).1, hfoot.trans (blk_put HBD.out 5 _ rfl).2⟩
          case measure => simp [intOf]; omega
        · have hrw : rdW 5 y = none := by unfold rdW; simp [hy]
          rw [hrw] at ha2
          have hA : A = none := ha2.symm
          have ty : (((hexR y).2 : Int) != 0) = true := by simp; omega
          generalize (hexR y).2 = q at *
          clear ha2 hrw hy
          have hRR := Lib.hid (HRn.out hA)
          go_wp2_with (first
            | (go_at_call 122; (with_reducible refine hrd.mono ?_); clear hrd; rintro e w5 ⟨rfl, rfl⟩)
            | (go_at_call 123; (with_reducible refine hrh.mono ?_); clear hrh; rintro e w5 ⟨rfl, rfl⟩)
            | (refine wpList_store_row rfl 109 _ _ rfl w.heap.size zeroD.cells rfl rfl 109 _ hbr5 (sizeD _) rfl (oneD _) ?_))
          refine bodyPost_ret (results_row_tmp rfl _ _ w.heap.size 109 zeroD.cells (0, 0) _ rfl (hbr5.row _) Tryz.underlying109 rfl (sizeD _)) rfl ?_
          exact ⟨by rw [hRR.out]; rfl, hbw5.trans (foot_row _ (Nat.le_refl _))⟩
      · replace hi : ∀ W, (Instr.index 9 (.string s) (.int .i64 (k : Int))).run Tryz.prog W = .ok (.int .u8 76) W := hi
        clear hrh
        generalize (readL y).1 = x1 at *
        generalize (readL y).2 = q1 at *
        by_cases hy : y = looseL
        · have hrw : rdW 6 y = some 1 := by unfold rdW; simp [hy]
          rw [hrw] at ha2
          have tl : (Y.toList == [108, 111, 111, 115, 101]) = true := by rw [Lib.toList_data, hYl, hy]; rfl
          clear hrw hYl
          have HA2 := Lib.hid ha2
          clear ha2 hy
          go_wp2_with (first
            | (go_at_call 122; (with_reducible refine hrd.mono ?_); clear hrd; rintro e w5 ⟨rfl, rfl⟩))
          go_roundw
          case rel => exact ⟨k + 1, _, by omega, by go_num, HA2, (blk_put HBD.out 6 _ rfl).1, hfoot.trans (blk_put HBD.out 6 _ rfl).2⟩
          case measure => simp [intOf]; omega
        · have hrw : rdW 6 y = none := by unfold rdW; simp [hy]
          rw [hrw] at ha2
          have hA : A = none := ha2.symm
          have tl : (Y.toList == [108, 111, 111, 115, 101]) = false := by rw [Lib.toList_data, hYl, beq_eq_false_iff_ne]; exact hy
          clear ha2 hrw hy hYl
          have hRR := Lib.hid (HRn.out hA)
          go_wp2_with (first
            | (go_at_call 122; (with_reducible refine hrd.mono ?_); clear hrd; rintro e w5 ⟨rfl, rfl⟩)
            | (refine wpList_store_row rfl 109 _ _ rfl w.heap.size zeroD.cells rfl rfl 109 _ hbr5 (sizeD _) rfl (oneD _) ?_))
          refine bodyPost_ret (results_row_tmp rfl _ _ w.heap.size 109 zeroD.cells (0, 0) _ rfl (hbr5.row _) Tryz.underlying109 rfl (sizeD _)) rfl ?_
          exact ⟨by rw [hRR.out]; rfl, hbw5.trans (foot_row _ (Nat.le_refl _))⟩
    · obtain rfl : k = ws.length := by omega
      have ha2 := ha.out
      rw [List.drop_length, refGo_nil] at ha2
      have hA : A = some dk := ha2.symm
      have hgood := RGood_any dk wr
      have hbd5 := hbd
      simp only [Deed.val] at hgood
      clear ha ha2
      by_cases hgg : goodD dk = true
      · rw [hgg] at hgood
        have hRR := Lib.hid (HRg.out _ hA hgg)
        clear hgg hA
        go_wp2_with (first
          | (refine wpList_load_row rfl 109 _ rfl gd rfl 109 _ (0, 0) _ hbd5 Tryz.underlying109 rfl (sizeD _) ?_)
          | (go_at_call 70; (with_reducible refine hgood.mono ?_); clear hgood; rintro e w6 ⟨rfl, hb6⟩; have hbr6 := hbr5.below hb6 hbr5.lt; replace hbd5 := hbd5.below hb6 hbd5.lt)
          | (refine wpList_store_row rfl 109 _ _ rfl w.heap.size dk.cells rfl rfl 109 _ hbr6 (sizeD _) rfl (oneD _) ?_))
        refine bodyPost_ret (results_row_tmp rfl _ _ w.heap.size 109 dk.cells (0, 0) _ rfl (hbr6.row _) Tryz.underlying109 rfl (sizeD _)) rfl ?_
        exact ⟨by rw [hRR.out]; rfl, (below_pre hbw5 hb6).trans (foot_row _ (Nat.le_refl _))⟩
      · have hgg' : goodD dk = false := by simpa using hgg
        rw [hgg'] at hgood
        have hRR := Lib.hid (HRb.out _ hA hgg')
        clear hgg hgg' hA
        go_wp2_with (first
          | (refine wpList_load_row rfl 109 _ rfl gd rfl 109 _ (0, 0) _ hbd5 Tryz.underlying109 rfl (sizeD _) ?_)
          | (go_at_call 70; (with_reducible refine hgood.mono ?_); clear hgood; rintro e w6 ⟨rfl, hb6⟩; have hbr6 := hbr5.below hb6 hbr5.lt)
          | (refine wpList_store_row rfl 109 _ _ rfl w.heap.size zeroD.cells rfl rfl 109 _ hbr6 (sizeD _) rfl (oneD _) ?_))
        refine bodyPost_ret (results_row_tmp rfl _ _ w.heap.size 109 zeroD.cells (0, 0) _ rfl (hbr6.row _) Tryz.underlying109 rfl (sizeD _)) rfl ?_
        exact ⟨by rw [hRR.out]; rfl, (below_pre hbw5 hb6).trans (foot_row _ (Nat.le_refl _))⟩

end
end Go.Proofs.YtbdimfcdpkldpaaGreatDoor

namespace Go.Proofs.YtbdimfcdpkldpaaGreatDoor
open Go.RowKit

theorem short_ix : ∀ (k o : Nat), ([0, 1, 2, 5] : List Nat)[k]? = some o → ∀ W : World, (Instr.index 9 (.string ⟨#[65, 66, 82, 77]⟩) (.int .i64 (k : Int))).run Tryz.prog W = .ok (.int .u8 ((letterN o).toNat : Int)) W := by
  intro k o h W
  have hk : k < 4 := (List.getElem?_eq_some_iff.1 h).1
  rw [run_ix _ k (show k < (ByteArray.mk #[65, 66, 82, 77]).size from hk)]
  match k, h with
  | 0, h => cases h; rfl
  | 1, h => cases h; rfl
  | 2, h => cases h; rfl
  | 3, h => cases h; rfl

section
variable (s0 : ByteArray) (hs : s0.size ≤ 4000) (w : World)
include hs
set_option maxRecDepth 100000 in
set_option maxHeartbeats 8000000 in
theorem RParse_short (z : List UInt8) (ws : List (List UInt8)) (hD : wordsGo [] s0.data.toList = z :: ws) (h0 : ¬ opOf z = 0) (hl : ws.length = 4) (h2 : opOf z = 2) (R : Deed × Nat)
    (hRn : refGo [0, 1, 2, 5] ws (opD (opOf z)) = none → R = (zeroD, 3)) (hRg : ∀ d, refGo [0, 1, 2, 5] ws (opD (opOf z)) = some d → goodD d = true → R = (d, 0)) (hRb : ∀ d, refGo [0, 1, 2, 5] ws (opD (opOf z)) = some d → goodD d = false → R = (zeroD, 5)) :
    Calls Tryz.prog 82 #[.string s0] w fun e w' => e = .returned (.tuple #[.agg R.1.cells, .int .i64 (R.2 : Int)]) ∧ Below w.heap.size w w' := by
  have hw := RWords_any s0 hs
  rw [hD] at hw
  have hbr0 := Blk.new w 109 zeroD.cells
  have hb0 := below_alloc1 w (.cells zeroD.cells 109)
  obtain ⟨Z, hZ⟩ : ∃ Z : ByteArray, Z = ⟨z.toArray⟩ := ⟨_, rfl⟩
  have hop := rop_any Z
  rw [show Z.data.toList = z by rw [hZ]] at hop
  have HZ := Lib.hid hZ
  have hparts := Parts_any (opOf z : Int) (opOf_isOp z h0)
  have hsz := partsL_size (opOf z : Int)
  rw [show (opr (opOf z : Int)).length = 5 by rw [h2]; rfl] at hsz
  have h7 : Hid (∀ o ∈ [0, 1, 2, 5], o < 7) := Lib.hid (by decide)
  have hix := Lib.hid short_ix
  unfold sV at hparts
  generalize (ByteArray.mk (partsL (opOf z : Int)).toArray) = sp at *
  have t2 : ((opOf z : Int) == 2) = true := by rw [beq_iff_eq]; omega
  have t3 : (((ws.length : Int) + 1) == 5) = true := by rw [beq_iff_eq]; omega
  have t4 : (((ws.length : Int) + 1) != 5) = false := by simp; omega
  have hl4 := Lib.hid hl
  replace hl : ws.length = ([0, 1, 2, 5] : List Nat).length := hl
  generalize ([0, 1, 2, 5] : List Nat) = os at *
  clear h2
  have hsmall : Hid (∀ l ∈ ws, l.length ≤ 4000) := Lib.hid (fun l hl => by have := (words_small s0.data.toList hs).2 l; rw [hD] at this; exact this (List.mem_cons_of_mem _ hl))
  have hwl : ws.length ≤ 3999 := by have := (words_small s0.data.toList hs).1; rw [hD] at this; simp at this; omega
  generalize opOf z = op at *
  obtain ⟨A, hA⟩ : ∃ A, refGo (os.drop 0) (ws.drop 0) (opD (op : Int)) = A := ⟨_, rfl⟩
  rw [show os = os.drop 0 from rfl, show ws = ws.drop 0 from rfl, hA] at hRn hRg hRb
  have HA := Lib.hid hA
  have HRn := Lib.hid hRn
  have HRg := Lib.hid hRg
  have HRb := Lib.hid hRb
  have hn0 : ((op : Int) == 0) = false := by rw [beq_eq_false_iff_ne]; omega
  have HWL := Lib.hid hl
  clear hl
  simp only [List.drop_zero] at *
  clear h0 hs hD hZ hA hRn hRg hRb
  go_enter Tryz.func82, Tryz.ntmps82
  go_wp2_with (first
    | (refine wpList_alloc_agg rfl 109 rfl zeroD.cells zeroR ?_)
    | (go_at_call 79; (with_reducible refine (hw _).mono ?_); clear hw; rintro e w1 ⟨v, rfl, hown, hb1⟩; have hbr1 := hbr0.below hb1 hbr0.lt; have hrr : RV w1 (fun b => b < w1.heap.size) _ _ 1 _ := (RV.of_own hown).mono (fun k hk _ => hk); obtain ⟨p, c, rfl, hnc, _⟩ := id hrr; obtain ⟨b, off, rfl, hbl, _, hcell1⟩ := hrr.at1 0 (sV z) rfl; rw [Nat.add_zero, sV, ← HZ.out] at hcell1; rw [List.length_cons] at hnc; have g : Hid (Below w1.heap.size w1 w1) := Lib.hid (Below.refl _ _); have hcell := hcell1)
    | (go_at_call 124; (with_reducible refine (hop _).mono ?_); rintro e w2 ⟨rfl, hb2⟩; replace g := Lib.hid (g.out.trans (hb2.mono g.out.size)); clear hb2 hcell; have hcell := (g.out.cell (p := ⟨b, off, none⟩) hbl).trans hcell1)
    | (refine wpList_store_row rfl 109 _ _ rfl w2.heap.size (opD (op : Int)).cells rfl rfl 109 _ (heap_alloc_new w2 _) (sizeD _) rfl (oneD _) ?_; rw [World.setRow_alloc_new]; have hcd : (w2.alloc (.cells (opD (op : Int)).cells 109)).cell? ⟨w2.heap.size, 0, none⟩ = some (.int .i64 (op : Int)) := (Blk.new w2 109 (opD (op : Int)).cells).cell 0)
    | (go_at_call 114; (with_reducible refine (hparts _).mono ?_); clear hparts hcd; rintro e w4 ⟨rfl, hb4⟩; have hbd4 := (Blk.new w2 109 (opD (op : Int)).cells).below hb4 (by simp); have hcd : w4.cell? ⟨w2.heap.size, 0, none⟩ = some (.int .i64 (op : Int)) := hbd4.cell 0))
  have hbr4 : Blk w4 w.heap.size 109 zeroD.cells := ((hbr1.below g.out hbr1.lt).alloc _).below hb4 (by have := (hbr1.below g.out hbr1.lt).lt; simp; omega)
  have hbw2 : Below w.heap.size w w2 := below_pre (below_pre hb0 hb1) g.out
  have hbw4 : Below w.heap.size w w4 := below_pre (hbw2.alloc hbw2.size _) hb4
  have hgs := g.out.size
  have h12 : Below w1.heap.size w1 w4 := (g.out.alloc hgs _).trans (hb4.mono (by simp; omega))
  have hrr4 := hrr.below h12 (fun k hk _ => hk)
  have hgd : w.heap.size < w2.heap.size := (hbr1.below g.out hbr1.lt).lt
  have hg4 := hbd4.lt
  generalize w2.heap.size = gd at *
  clear hbr0 hbr1 hb0 hb1 hb4 hbw2 h12 hcell hcell1 hcd hop hown
  go_loopw [8] (fun t wr => ∃ (k : Nat) (dk : Deed), k ≤ ws.length ∧ t = .int .i64 k ∧ Hid (refGo (os.drop k) (ws.drop k) dk = A) ∧ Blk wr gd 109 dk.cells ∧ Foot (fun b => b = gd) w4 wr) (fun t _ => ws.length - (intOf t).toNat)
  case atStart => exact ⟨0, opD (op : Int), by omega, rfl, HA, hbd4, Foot.refl _ _⟩
  case round =>
    obtain ⟨k, dk, hk, rfl, ha, hbd, hfoot⟩ := hrel
    have hbw5 : Below w.heap.size w wr := hbw4.trans (hfoot.below (B := w.heap.size) (by omega) (fun b hb => by omega))
    have hbr5 := hbr4.foot hfoot (by omega)
    by_cases hlt : k < ws.length
    · have hlt4 : k < 4 := by have := hl4.out; omega
      obtain ⟨o, ho1⟩ : ∃ o, os[k]? = some o := ⟨_, List.getElem?_eq_getElem (by have := HWL.out; omega)⟩
      obtain ⟨y, hy1⟩ : ∃ y, ws[k]? = some y := ⟨_, List.getElem?_eq_getElem hlt⟩
      have ho7 := h7.out o (List.mem_of_getElem? ho1)
      have hyl := hsmall.out y (List.mem_of_getElem? hy1)
      have ha2 := ha.out
      rw [drop_cons os k o ho1, drop_cons ws k y hy1, refGo] at ha2
      have hi := hix.out k o ho1
      obtain ⟨b', off', hpe, _, _, hcw⟩ := (hrr4.foot hfoot (fun b hb e => by omega)).at1 (k + 1) (sV y) (by rw [List.map_cons, List.getElem?_cons_succ, List.getElem?_map, hy1]; rfl)
      injection hpe with hpe
      injection hpe with hpe1 hpe2
      subst hpe1 hpe2
      unfold sV at hcw
      obtain ⟨Y, hY⟩ : ∃ Y : ByteArray, Y = ⟨y.toArray⟩ := ⟨_, rfl⟩
      have hYl : Y.data.toList = y := by rw [hY]
      rw [← hY] at hcw
      have hYs : Y.size ≤ 4000 := by rw [hY, size_mk]; exact hyl
      have hrd := RRead_any Y hYs wr
      have hrh := RReadHex_any Y wr
      rw [hYl] at hrd hrh
      clear ho1 hy1 hY ha hyl hYs
      have HBD := Lib.hid hbd
      clear hbd
      have e1 : wr.cell? ⟨gd, 1, none⟩ = some (.int .i64 dk.a) := HBD.out.cell 1
      have e2 : wr.cell? ⟨gd, 2, none⟩ = some (.int .i64 dk.b) := HBD.out.cell 2
      have e3 : wr.cell? ⟨gd, 3, none⟩ = some (.int .i64 dk.r) := HBD.out.cell 3
      have e4 : wr.cell? ⟨gd, 4, none⟩ = some (.int .u64 (dk.n : Int)) := HBD.out.cell 4
      have e5 : wr.cell? ⟨gd, 5, none⟩ = some (.int .u64 (dk.mask : Int)) := HBD.out.cell 5
      have e6 : wr.cell? ⟨gd, 6, none⟩ = some (.bool dk.loose) := HBD.out.cell 6
      have f1 := HBD.out.frozen 1
      have f2 := HBD.out.frozen 2
      have f3 := HBD.out.frozen 3
      have f4 := HBD.out.frozen 4
      have f5 := HBD.out.frozen 5
      have f6 := HBD.out.frozen 6
      rcases o_cases ho7 with rfl | rfl | rfl | rfl | rfl | rfl | rfl
      · replace hi : ∀ W, (Instr.index 9 (.string ⟨#[65, 66, 82, 77]⟩) (.int .i64 (k : Int))).run Tryz.prog W = .ok (.int .u8 65) W := hi
        clear hrh
        by_cases hy : (readL y).2 = 0
        · have hrw : rdW 0 y = some (readL y).1 := by unfold rdW; simp [hy]
          rw [hy] at hrd
          rw [hrw] at ha2
          generalize (readL y).1 = x at *
          clear hrw
          have HA2 := Lib.hid ha2
          clear ha2 hy
          go_wp2_with (first
            | (go_at_call 122; (with_reducible refine hrd.mono ?_); clear hrd; rintro e w5 ⟨rfl, rfl⟩)
            | (go_at_call 125; (with_reducible refine (small_any x _).mono ?_); rintro e w5 ⟨rfl, rfl⟩))
          go_roundw
          case rel => exact ⟨k + 1, _, by omega, by go_num, HA2, (blk_put HBD.out 1 _ rfl).1, hfoot.trans (blk_put HBD.out 1 _ rfl).2⟩
          case measure => simp [intOf]; omega
        · have hrw : rdW 0 y = none := by unfold rdW; simp [hy]
          rw [hrw] at ha2
          have hA : A = none := ha2.symm
          have ty : (((readL y).2 : Int) != 0) = true := by simp; omega
          generalize (readL y).2 = q at *
          clear ha2 hrw hy
          have hRR := Lib.hid (HRn.out hA)
          go_wp2_with (first
            | (go_at_call 122; (with_reducible refine hrd.mono ?_); clear hrd; rintro e w5 ⟨rfl, rfl⟩)
            | (refine wpList_store_row rfl 109 _ _ rfl w.heap.size zeroD.cells rfl rfl 109 _ hbr5 (sizeD _) rfl (oneD _) ?_))
          refine bodyPost_ret (results_row_tmp rfl _ _ w.heap.size 109 zeroD.cells (0, 0) _ rfl (hbr5.row _) Tryz.underlying109 rfl (sizeD _)) rfl ?_
          exact ⟨by rw [hRR.out]; rfl, hbw5.trans (foot_row _ (Nat.le_refl _))⟩
      · replace hi : ∀ W, (Instr.index 9 (.string ⟨#[65, 66, 82, 77]⟩) (.int .i64 (k : Int))).run Tryz.prog W = .ok (.int .u8 66) W := hi
        clear hrh
        by_cases hy : (readL y).2 = 0
        · have hrw : rdW 1 y = some (readL y).1 := by unfold rdW; simp [hy]
          rw [hy] at hrd
          rw [hrw] at ha2
          generalize (readL y).1 = x at *
          clear hrw
          have HA2 := Lib.hid ha2
          clear ha2 hy
          go_wp2_with (first
            | (go_at_call 122; (with_reducible refine hrd.mono ?_); clear hrd; rintro e w5 ⟨rfl, rfl⟩)
            | (go_at_call 125; (with_reducible refine (small_any x _).mono ?_); rintro e w5 ⟨rfl, rfl⟩))
          go_roundw
          case rel => exact ⟨k + 1, _, by omega, by go_num, HA2, (blk_put HBD.out 2 _ rfl).1, hfoot.trans (blk_put HBD.out 2 _ rfl).2⟩
          case measure => simp [intOf]; omega
        · have hrw : rdW 1 y = none := by unfold rdW; simp [hy]
          rw [hrw] at ha2
          have hA : A = none := ha2.symm
          have ty : (((readL y).2 : Int) != 0) = true := by simp; omega
          generalize (readL y).2 = q at *
          clear ha2 hrw hy
          have hRR := Lib.hid (HRn.out hA)
          go_wp2_with (first
            | (go_at_call 122; (with_reducible refine hrd.mono ?_); clear hrd; rintro e w5 ⟨rfl, rfl⟩)
            | (refine wpList_store_row rfl 109 _ _ rfl w.heap.size zeroD.cells rfl rfl 109 _ hbr5 (sizeD _) rfl (oneD _) ?_))
          refine bodyPost_ret (results_row_tmp rfl _ _ w.heap.size 109 zeroD.cells (0, 0) _ rfl (hbr5.row _) Tryz.underlying109 rfl (sizeD _)) rfl ?_
          exact ⟨by rw [hRR.out]; rfl, hbw5.trans (foot_row _ (Nat.le_refl _))⟩
      · replace hi : ∀ W, (Instr.index 9 (.string ⟨#[65, 66, 82, 77]⟩) (.int .i64 (k : Int))).run Tryz.prog W = .ok (.int .u8 82) W := hi
        clear hrh
        by_cases hy : (readL y).2 = 0
        · have hrw : rdW 2 y = some (readL y).1 := by unfold rdW; simp [hy]
          rw [hy] at hrd
          rw [hrw] at ha2
          generalize (readL y).1 = x at *
          clear hrw
          have HA2 := Lib.hid ha2
          clear ha2 hy
          go_wp2_with (first
            | (go_at_call 122; (with_reducible refine hrd.mono ?_); clear hrd; rintro e w5 ⟨rfl, rfl⟩)
            | (go_at_call 125; (with_reducible refine (small_any x _).mono ?_); rintro e w5 ⟨rfl, rfl⟩))
          go_roundw
          case rel => exact ⟨k + 1, _, by omega, by go_num, HA2, (blk_put HBD.out 3 _ rfl).1, hfoot.trans (blk_put HBD.out 3 _ rfl).2⟩
          case measure => simp [intOf]; omega
        · have hrw : rdW 2 y = none := by unfold rdW; simp [hy]
          rw [hrw] at ha2
          have hA : A = none := ha2.symm
          have ty : (((readL y).2 : Int) != 0) = true := by simp; omega
          generalize (readL y).2 = q at *
          clear ha2 hrw hy
          have hRR := Lib.hid (HRn.out hA)
          go_wp2_with (first
            | (go_at_call 122; (with_reducible refine hrd.mono ?_); clear hrd; rintro e w5 ⟨rfl, rfl⟩)
            | (refine wpList_store_row rfl 109 _ _ rfl w.heap.size zeroD.cells rfl rfl 109 _ hbr5 (sizeD _) rfl (oneD _) ?_))
          refine bodyPost_ret (results_row_tmp rfl _ _ w.heap.size 109 zeroD.cells (0, 0) _ rfl (hbr5.row _) Tryz.underlying109 rfl (sizeD _)) rfl ?_
          exact ⟨by rw [hRR.out]; rfl, hbw5.trans (foot_row _ (Nat.le_refl _))⟩
      · replace hi : ∀ W, (Instr.index 9 (.string ⟨#[65, 66, 82, 77]⟩) (.int .i64 (k : Int))).run Tryz.prog W = .ok (.int .u8 78) W := hi
        clear hrh
        by_cases hy : (readL y).2 = 0
        · have hrw : rdW 3 y = some (readL y).1 := by unfold rdW; simp [hy]
          rw [hy] at hrd
          rw [hrw] at ha2
          generalize (readL y).1 = x at *
          clear hrw
          have HA2 := Lib.hid ha2
          clear ha2 hy
          go_wp2_with (first
            | (go_at_call 122; (with_reducible refine hrd.mono ?_); clear hrd; rintro e w5 ⟨rfl, rfl⟩))
          go_roundw
          case rel => exact ⟨k + 1, _, by omega, by go_num, HA2, (blk_put HBD.out 4 _ rfl).1, hfoot.trans (blk_put HBD.out 4 _ rfl).2⟩
          case measure => simp [intOf]; omega
        · have hrw : rdW 3 y = none := by unfold rdW; simp [hy]
          rw [hrw] at ha2
          have hA : A = none := ha2.symm
          have ty : (((readL y).2 : Int) != 0) = true := by simp; omega
          generalize (readL y).2 = q at *
          clear ha2 hrw hy
          have hRR := Lib.hid (HRn.out hA)
          go_wp2_with (first
            | (go_at_call 122; (with_reducible refine hrd.mono ?_); clear hrd; rintro e w5 ⟨rfl, rfl⟩)
            | (refine wpList_store_row rfl 109 _ _ rfl w.heap.size zeroD.cells rfl rfl 109 _ hbr5 (sizeD _) rfl (oneD _) ?_))
          refine bodyPost_ret (results_row_tmp rfl _ _ w.heap.size 109 zeroD.cells (0, 0) _ rfl (hbr5.row _) Tryz.underlying109 rfl (sizeD _)) rfl ?_
          exact ⟨by rw [hRR.out]; rfl, hbw5.trans (foot_row _ (Nat.le_refl _))⟩
      · replace hi : ∀ W, (Instr.index 9 (.string ⟨#[65, 66, 82, 77]⟩) (.int .i64 (k : Int))).run Tryz.prog W = .ok (.int .u8 78) W := hi
        clear hrh
        by_cases hy : (readL y).2 = 0
        · have hrw : rdW 4 y = some (readL y).1 := by unfold rdW; simp [hy]
          rw [hy] at hrd
          rw [hrw] at ha2
          generalize (readL y).1 = x at *
          clear hrw
          have HA2 := Lib.hid ha2
          clear ha2 hy
          go_wp2_with (first
            | (go_at_call 122; (with_reducible refine hrd.mono ?_); clear hrd; rintro e w5 ⟨rfl, rfl⟩))
          go_roundw
          case rel => exact ⟨k + 1, _, by omega, by go_num, HA2, (blk_put HBD.out 4 _ rfl).1, hfoot.trans (blk_put HBD.out 4 _ rfl).2⟩
          case measure => simp [intOf]; omega
        · have hrw : rdW 4 y = none := by unfold rdW; simp [hy]
          rw [hrw] at ha2
          have hA : A = none := ha2.symm
          have ty : (((readL y).2 : Int) != 0) = true := by simp; omega
          generalize (readL y).2 = q at *
          clear ha2 hrw hy
          have hRR := Lib.hid (HRn.out hA)
          go_wp2_with (first
            | (go_at_call 122; (with_reducible refine hrd.mono ?_); clear hrd; rintro e w5 ⟨rfl, rfl⟩)
            | (refine wpList_store_row rfl 109 _ _ rfl w.heap.size zeroD.cells rfl rfl 109 _ hbr5 (sizeD _) rfl (oneD _) ?_))
          refine bodyPost_ret (results_row_tmp rfl _ _ w.heap.size 109 zeroD.cells (0, 0) _ rfl (hbr5.row _) Tryz.underlying109 rfl (sizeD _)) rfl ?_
          exact ⟨by rw [hRR.out]; rfl, hbw5.trans (foot_row _ (Nat.le_refl _))⟩
      · replace hi : ∀ W, (Instr.index 9 (.string ⟨#[65, 66, 82, 77]⟩) (.int .i64 (k : Int))).run Tryz.prog W = .ok (.int .u8 77) W := hi
        generalize (readL y).1 = x1 at *
        generalize (readL y).2 = q1 at *
        by_cases hy : (hexR y).2 = 0
        · have hrw : rdW 5 y = some (hexR y).1 := by unfold rdW; simp [hy]
          rw [hy] at hrh
          rw [hrw] at ha2
          generalize (hexR y).1 = x at *
          clear hrw
          have HA2 := Lib.hid ha2
          clear ha2 hy
          go_wp2_with (first
            | (go_at_call 122; (with_reducible refine hrd.mono ?_); clear hrd; rintro e w5 ⟨rfl, rfl⟩)
            | (go_at_call 123; (with_reducible refine hrh.mono ?_); clear hrh; rintro e w5 ⟨rfl, rfl⟩))
          go_roundw
          case rel => exact ⟨k + 1, _, by omega, by go_num, HA2, (blk_put HBD.out 5 _ rfl).1, hfoot.trans (blk_put HBD.out 5 _ rfl).2⟩
          case measure => simp [intOf]; omega
        · have hrw : rdW 5 y = none := by unfold rdW; simp [hy]
          rw [hrw] at ha2
          have hA : A = none := ha2.symm
          have ty : (((hexR y).2 : Int) != 0) = true := by simp; omega
          generalize (hexR y).2 = q at *
          clear ha2 hrw hy
          have hRR := Lib.hid (HRn.out hA)
          go_wp2_with (first
            | (go_at_call 122; (with_reducible refine hrd.mono ?_); clear hrd; rintro e w5 ⟨rfl, rfl⟩)
            | (go_at_call 123; (with_reducible refine hrh.mono ?_); clear hrh; rintro e w5 ⟨rfl, rfl⟩)
            | (refine wpList_store_row rfl 109 _ _ rfl w.heap.size zeroD.cells rfl rfl 109 _ hbr5 (sizeD _) rfl (oneD _) ?_))
          refine bodyPost_ret (results_row_tmp rfl _ _ w.heap.size 109 zeroD.cells (0, 0) _ rfl (hbr5.row _) Tryz.underlying109 rfl (sizeD _)) rfl ?_
          exact ⟨by rw [hRR.out]; rfl, hbw5.trans (foot_row _ (Nat.le_refl _))⟩
      · replace hi : ∀ W, (Instr.index 9 (.string ⟨#[65, 66, 82, 77]⟩) (.int .i64 (k : Int))).run Tryz.prog W = .ok (.int .u8 76) W := hi
        clear hrh
        generalize (readL y).1 = x1 at *
        generalize (readL y).2 = q1 at *
        by_cases hy : y = looseL
        · have hrw : rdW 6 y = some 1 := by unfold rdW; simp [hy]
          rw [hrw] at ha2
          have tl : (Y.toList == [108, 111, 111, 115, 101]) = true := by rw [Lib.toList_data, hYl, hy]; rfl
          clear hrw hYl
          have HA2 := Lib.hid ha2
          clear ha2 hy
          go_wp2_with (first
            | (go_at_call 122; (with_reducible refine hrd.mono ?_); clear hrd; rintro e w5 ⟨rfl, rfl⟩))
          go_roundw
          case rel => exact ⟨k + 1, _, by omega, by go_num, HA2, (blk_put HBD.out 6 _ rfl).1, hfoot.trans (blk_put HBD.out 6 _ rfl).2⟩
          case measure => simp [intOf]; omega
        · have hrw : rdW 6 y = none := by unfold rdW; simp [hy]
          rw [hrw] at ha2
          have hA : A = none := ha2.symm
          have tl : (Y.toList == [108, 111, 111, 115, 101]) = false := by rw [Lib.toList_data, hYl, beq_eq_false_iff_ne]; exact hy
          clear ha2 hrw hy hYl
          have hRR := Lib.hid (HRn.out hA)
          go_wp2_with (first
            | (go_at_call 122; (with_reducible refine hrd.mono ?_); clear hrd; rintro e w5 ⟨rfl, rfl⟩)
            | (refine wpList_store_row rfl 109 _ _ rfl w.heap.size zeroD.cells rfl rfl 109 _ hbr5 (sizeD _) rfl (oneD _) ?_))
          refine bodyPost_ret (results_row_tmp rfl _ _ w.heap.size 109 zeroD.cells (0, 0) _ rfl (hbr5.row _) Tryz.underlying109 rfl (sizeD _)) rfl ?_
          exact ⟨by rw [hRR.out]; rfl, hbw5.trans (foot_row _ (Nat.le_refl _))⟩
    · have hlt4 : ¬ k < 4 := by have := hl4.out; omega
      obtain rfl : k = ws.length := by omega
      have ha2 := ha.out
      rw [List.drop_length, refGo_nil] at ha2
      have hA : A = some dk := ha2.symm
      have hgood := RGood_any dk wr
      have hbd5 := hbd
      simp only [Deed.val] at hgood
      clear ha ha2
      by_cases hgg : goodD dk = true
      · rw [hgg] at hgood
        have hRR := Lib.hid (HRg.out _ hA hgg)
        clear hgg hA
        go_wp2_with (first
          | (refine wpList_load_row rfl 109 _ rfl gd rfl 109 _ (0, 0) _ hbd5 Tryz.underlying109 rfl (sizeD _) ?_)
          | (go_at_call 70; (with_reducible refine hgood.mono ?_); clear hgood; rintro e w6 ⟨rfl, hb6⟩; have hbr6 := hbr5.below hb6 hbr5.lt; replace hbd5 := hbd5.below hb6 hbd5.lt)
          | (refine wpList_store_row rfl 109 _ _ rfl w.heap.size dk.cells rfl rfl 109 _ hbr6 (sizeD _) rfl (oneD _) ?_))
        refine bodyPost_ret (results_row_tmp rfl _ _ w.heap.size 109 dk.cells (0, 0) _ rfl (hbr6.row _) Tryz.underlying109 rfl (sizeD _)) rfl ?_
        exact ⟨by rw [hRR.out]; rfl, (below_pre hbw5 hb6).trans (foot_row _ (Nat.le_refl _))⟩
      · have hgg' : goodD dk = false := by simpa using hgg
        rw [hgg'] at hgood
        have hRR := Lib.hid (HRb.out _ hA hgg')
        clear hgg hgg' hA
        go_wp2_with (first
          | (refine wpList_load_row rfl 109 _ rfl gd rfl 109 _ (0, 0) _ hbd5 Tryz.underlying109 rfl (sizeD _) ?_)
          | (go_at_call 70; (with_reducible refine hgood.mono ?_); clear hgood; rintro e w6 ⟨rfl, hb6⟩; have hbr6 := hbr5.below hb6 hbr5.lt)
          | (refine wpList_store_row rfl 109 _ _ rfl w.heap.size zeroD.cells rfl rfl 109 _ hbr6 (sizeD _) rfl (oneD _) ?_))
        refine bodyPost_ret (results_row_tmp rfl _ _ w.heap.size 109 zeroD.cells (0, 0) _ rfl (hbr6.row _) Tryz.underlying109 rfl (sizeD _)) rfl ?_
        exact ⟨by rw [hRR.out]; rfl, (below_pre hbw5 hb6).trans (foot_row _ (Nat.le_refl _))⟩

end
end Go.Proofs.YtbdimfcdpkldpaaGreatDoor

namespace Go.Proofs.YtbdimfcdpkldpaaGreatDoor
open Go.RowKit

theorem refEnd_none {o : Option Deed} (h : o = none) : refEnd o = (zeroD, 3) := by rw [h]; rfl
theorem refEnd_good {o : Option Deed} (d : Deed) (h : o = some d) (hg : goodD d = true) : refEnd o = (d, 0) := by rw [h]; unfold refEnd; simp only [if_pos hg]
theorem refEnd_bad {o : Option Deed} (d : Deed) (h : o = some d) (hg : goodD d = false) : refEnd o = (zeroD, 5) := by rw [h]; unfold refEnd; simp [hg]
theorem parseD_cons {l z : List UInt8} {ws : List (List UInt8)} (hD : wordsGo [] l = z :: ws) (h0 : ¬ opOf z = 0) : parseD l = progEnd (opOf z) ws := by
  unfold parseD
  rw [hD]
  simp only [if_neg h0]
  rfl
theorem RParse_any (s : ByteArray) (hs : s.size ≤ 4000) (w : World) : Calls Tryz.prog 82 #[.string s] w fun e w' => e = .returned (.tuple #[(parseD s.data.toList).1.val, .int .i64 ((parseD s.data.toList).2 : Nat)]) ∧ Below w.heap.size w w' := by
  cases hD : wordsGo [] s.data.toList with
  | nil =>
    have e : parseD s.data.toList = (zeroD, 15) := by unfold parseD; rw [hD]
    rw [e]
    exact RParse_none s hs w hD
  | cons z ws =>
    by_cases h0 : opOf z = 0
    · have e : parseD s.data.toList = (zeroD, 15) := by unfold parseD; rw [hD]; simp only [if_pos h0]
      rw [e]
      exact RParse_word s hs w z ws hD h0
    · rw [parseD_cons hD h0]
      by_cases hl : lenOk (opOf z) (opr (opOf z)).length ws.length = true
      · have he := end_all (opOf z : Int) (opOf_isOp z h0) ws hl
        have hl' : ws.length = (opr (opOf z)).length ∨ (ws.length + 1 = (opr (opOf z)).length ∧ (opOf z : Int) = 2) := by
          unfold lenOk at hl
          simpa [Bool.or_eq_true, Bool.and_eq_true] using hl
        rw [← he]
        rcases hl' with h | ⟨h, h2⟩
        · by_cases h2 : opOf z = 2
          · exact RParse_spawn s hs w z ws hD h0 h h2 _ refEnd_none (fun d => refEnd_good d) (fun d => refEnd_bad d)
          · exact RParse_other s hs w z ws hD h0 h h2 _ refEnd_none (fun d => refEnd_good d) (fun d => refEnd_bad d)
        · have h2' : opOf z = 2 := by omega
          have h5 : (opr (opOf z : Int)).length = 5 := by rw [h2']; rfl
          have h4 : ws.length = 4 := by omega
          have ho : opr (opOf z : Int) = [0, 1, 2, 5, 6] := by rw [h2']; rfl
          rw [ho, ← short_same ws h4]
          exact RParse_short s hs w z ws hD h0 h4 h2' _ refEnd_none (fun d => refEnd_good d) (fun d => refEnd_bad d)
      · have hl' : lenOk (opOf z) (opr (opOf z)).length ws.length = false := by simpa using hl
        have e : progEnd (opOf z) ws = (zeroD, 3) := by unfold progEnd readR; rw [if_neg hl]; rfl
        rw [e]
        exact RParse_form s hs w z ws hD h0 hl'
end Go.Proofs.YtbdimfcdpkldpaaGreatDoor
