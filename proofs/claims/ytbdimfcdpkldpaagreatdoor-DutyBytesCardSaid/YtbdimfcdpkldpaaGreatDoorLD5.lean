/- The contract of the reference's Parse, where it ends ahead of its loop. The contract of the reference's Parse, its loop, at any operation but a spawn. Plain mathematics: the reference's way of parsing is the program's; an instruction is parsed from its line. Plain mathematics: an instruction is parsed from its line. -/
import Derived.Test.YtbdimfcdpkldpaaGreatDoorLD4
import Derived.Test.YtbdimfcdpkldpaaGreatDoorD15
namespace Go.Proofs.YtbdimfcdpkldpaaGreatDoor
open Go.RowKit

section
variable (s0 : ByteArray) (hs : s0.size ≤ 4000) (w : World)
include hs
set_option maxHeartbeats 1000000 in
theorem RParse_none (hD : wordsGo [] s0.data.toList = []) :
    Calls Tryz.prog 82 #[.string s0] w fun e w' => e = .returned (.tuple #[.agg zeroD.cells, .int .i64 15]) ∧ Below w.heap.size w w' := by
  have hw := RWords_any s0 hs
  rw [hD] at hw
  have hbr0 := Blk.new w 109 zeroD.cells
  have hb0 := below_alloc1 w (.cells zeroD.cells 109)
  go_enter Tryz.func82, Tryz.ntmps82
  go_wp2_with (first
    | (refine wpList_alloc_agg rfl 109 rfl zeroD.cells zeroR ?_)
    | (go_at_call 79; (with_reducible refine (hw _).mono ?_); clear hw; rintro e w1 ⟨v, rfl, hown, hb1⟩; have hbr1 := hbr0.below hb1 hbr0.lt; obtain ⟨p, c, rfl, _⟩ := id (RV.of_own hown))
    | (refine wpList_store_row rfl 109 _ _ rfl w.heap.size zeroD.cells rfl rfl 109 _ hbr1 (sizeD _) rfl (oneD _) ?_))
  refine bodyPost_ret (results_row_tmp rfl _ _ w.heap.size 109 zeroD.cells (0, 0) _ rfl (hbr1.row _) Tryz.underlying109 rfl (sizeD _)) rfl ?_
  exact ⟨rfl, (below_pre hb0 hb1).trans (foot_row _ (Nat.le_refl _))⟩

set_option maxHeartbeats 1000000 in
theorem RParse_word (z : List UInt8) (ws : List (List UInt8)) (hD : wordsGo [] s0.data.toList = z :: ws) (h0 : opOf z = 0) :
    Calls Tryz.prog 82 #[.string s0] w fun e w' => e = .returned (.tuple #[.agg zeroD.cells, .int .i64 15]) ∧ Below w.heap.size w w' := by
  have hw := RWords_any s0 hs
  rw [hD] at hw
  have hbr0 := Blk.new w 109 zeroD.cells
  have hb0 := below_alloc1 w (.cells zeroD.cells 109)
  obtain ⟨Z, hZ⟩ : ∃ Z : ByteArray, Z = ⟨z.toArray⟩ := ⟨_, rfl⟩
  have hop := rop_any Z
  rw [show Z.data.toList = z by rw [hZ]] at hop
  have HZ := Lib.hid hZ
  rw [h0] at hop
  clear h0 hs hD hZ
  go_enter Tryz.func82, Tryz.ntmps82
  go_wp2_with (first
    | (refine wpList_alloc_agg rfl 109 rfl zeroD.cells zeroR ?_)
    | (go_at_call 79; (with_reducible refine (hw _).mono ?_); clear hw; rintro e w1 ⟨v, rfl, hown, hb1⟩; have hbr1 := hbr0.below hb1 hbr0.lt; have hrr : RV w1 (fun b => b < w1.heap.size) _ _ 1 _ := (RV.of_own hown).mono (fun k hk _ => hk); obtain ⟨p, c, rfl, hnc, _⟩ := id hrr; obtain ⟨b, off, rfl, hbl, _, hcell1⟩ := hrr.at1 0 (sV z) rfl; rw [Nat.add_zero, sV, ← HZ.out] at hcell1; rw [List.length_cons] at hnc; have g : Hid (Below w1.heap.size w1 w1) := Lib.hid (Below.refl _ _); have hcell := hcell1)
    | (go_at_call 124; (with_reducible refine (hop _).mono ?_); rintro e w2 ⟨rfl, hb2⟩; replace g := Lib.hid (g.out.trans (hb2.mono g.out.size)); clear hb2 hcell; have hcell := (g.out.cell (p := ⟨b, off, none⟩) hbl).trans hcell1)
    | (have hbr2 := hbr1.below g.out hbr1.lt; refine wpList_store_row rfl 109 _ _ rfl w.heap.size zeroD.cells rfl rfl 109 _ hbr2 (sizeD _) rfl (oneD _) ?_))
  have hbr2 := hbr1.below g.out hbr1.lt
  refine bodyPost_ret (results_row_tmp rfl _ _ w.heap.size 109 zeroD.cells (0, 0) _ rfl (hbr2.row _) Tryz.underlying109 rfl (sizeD _)) rfl ?_
  exact ⟨rfl, (below_pre (below_pre hb0 hb1) g.out).trans (foot_row _ (Nat.le_refl _))⟩

set_option maxHeartbeats 2000000 in
theorem RParse_form (z : List UInt8) (ws : List (List UInt8)) (hD : wordsGo [] s0.data.toList = z :: ws) (h0 : ¬ opOf z = 0) (hl : lenOk (opOf z) (opr (opOf z)).length ws.length = false) :
    Calls Tryz.prog 82 #[.string s0] w fun e w' => e = .returned (.tuple #[.agg zeroD.cells, .int .i64 3]) ∧ Below w.heap.size w w' := by
  have hw := RWords_any s0 hs
  rw [hD] at hw
  have hbr0 := Blk.new w 109 zeroD.cells
  have hb0 := below_alloc1 w (.cells zeroD.cells 109)
  obtain ⟨Z, hZ⟩ : ∃ Z : ByteArray, Z = ⟨z.toArray⟩ := ⟨_, rfl⟩
  have hop := rop_any Z
  rw [show Z.data.toList = z by rw [hZ]] at hop
  have HZ := Lib.hid hZ
  have hparts := Parts_any (opOf z : Int) (opOf_isOp z h0)
  have hsz := partsL_size (opOf z : Int)
  have h5 := opr_len (opOf z : Int) (opOf_isOp z h0)
  have hcase : (¬ ws.length = (opr (opOf z)).length ∧ ¬ ws.length + 1 = (opr (opOf z)).length) ∨ (¬ ws.length = (opr (opOf z)).length ∧ ¬ opOf z = 2) := by
    unfold lenOk at hl
    simp only [Bool.or_eq_false_iff, beq_eq_false_iff_ne, Bool.and_eq_false_iff] at hl
    omega
  unfold sV at hparts
  generalize (ByteArray.mk (partsL (opOf z : Int)).toArray) = s at *
  generalize (opr (opOf z : Int)).length = n at *
  generalize opOf z = op at *
  have hn0 : ((op : Int) == 0) = false := by rw [beq_eq_false_iff_ne]; omega
  have hne : ((ws.length : Int) + 1 != (n : Int) + 1) = true := by simp; omega
  have hwl : ws.length ≤ 3999 := by have := (words_small s0.data.toList hs).1; rw [hD] at this; simp at this; omega
  clear h0 hs hD hZ hl
  have htt : ((op : Int) == 2) = false ∨ (((op : Int) == 2) = true ∧ (((ws.length : Int) + 1) == (n : Int)) = false) := by
    by_cases h2 : op = 2
    · subst h2
      exact .inr ⟨rfl, by rw [beq_eq_false_iff_ne]; omega⟩
    · exact .inl (by rw [beq_eq_false_iff_ne]; omega)
  clear hcase
  rcases htt with t2 | ⟨t2, t3⟩
  all_goals
    go_enter Tryz.func82, Tryz.ntmps82
    go_wp2_with (first
      | (refine wpList_alloc_agg rfl 109 rfl zeroD.cells zeroR ?_)
      | (go_at_call 79; (with_reducible refine (hw _).mono ?_); clear hw; rintro e w1 ⟨v, rfl, hown, hb1⟩; have hbr1 := hbr0.below hb1 hbr0.lt; have hrr : RV w1 (fun b => b < w1.heap.size) _ _ 1 _ := (RV.of_own hown).mono (fun k hk _ => hk); obtain ⟨p, c, rfl, hnc, _⟩ := id hrr; obtain ⟨b, off, rfl, hbl, _, hcell1⟩ := hrr.at1 0 (sV z) rfl; rw [Nat.add_zero, sV, ← HZ.out] at hcell1; rw [List.length_cons] at hnc; have g : Hid (Below w1.heap.size w1 w1) := Lib.hid (Below.refl _ _); have hcell := hcell1)
      | (go_at_call 124; (with_reducible refine (hop _).mono ?_); rintro e w2 ⟨rfl, hb2⟩; replace g := Lib.hid (g.out.trans (hb2.mono g.out.size)); clear hb2 hcell; have hcell := (g.out.cell (p := ⟨b, off, none⟩) hbl).trans hcell1)
      | (refine wpList_store_row rfl 109 _ _ rfl w2.heap.size (opD (op : Int)).cells rfl rfl 109 _ (heap_alloc_new w2 _) (sizeD _) rfl (oneD _) ?_; rw [World.setRow_alloc_new]; have hcd : (w2.alloc (.cells (opD (op : Int)).cells 109)).cell? ⟨w2.heap.size, 0, none⟩ = some (.int .i64 (op : Int)) := (Blk.new w2 109 (opD (op : Int)).cells).cell 0)
      | (go_at_call 114; (with_reducible refine (hparts _).mono ?_); clear hparts hcd; rintro e w4 ⟨rfl, hb4⟩; have hbd4 := (Blk.new w2 109 (opD (op : Int)).cells).below hb4 (by simp); have hcd : w4.cell? ⟨w2.heap.size, 0, none⟩ = some (.int .i64 (op : Int)) := hbd4.cell 0)
      | (have hbr4 : Blk w4 w.heap.size 109 zeroD.cells := ((hbr1.below g.out hbr1.lt).alloc _).below hb4 (by have := (hbr1.below g.out hbr1.lt).lt; simp; omega); refine wpList_store_row rfl 109 _ _ rfl w.heap.size zeroD.cells rfl rfl 109 _ hbr4 (sizeD _) rfl (oneD _) ?_))
    have hbr4 : Blk w4 w.heap.size 109 zeroD.cells := ((hbr1.below g.out hbr1.lt).alloc _).below hb4 (by have := (hbr1.below g.out hbr1.lt).lt; simp; omega)
    refine bodyPost_ret (results_row_tmp rfl _ _ w.heap.size 109 zeroD.cells (0, 0) _ rfl (hbr4.row _) Tryz.underlying109 rfl (sizeD _)) rfl ?_
    have hbw2 : Below w.heap.size w w2 := below_pre (below_pre hb0 hb1) g.out
    exact ⟨rfl, (below_pre (hbw2.alloc hbw2.size _) hb4).trans (foot_row _ (Nat.le_refl _))⟩
end
end Go.Proofs.YtbdimfcdpkldpaaGreatDoor

namespace Go.Proofs.YtbdimfcdpkldpaaGreatDoor
open Go.RowKit

def setP (o x : Nat) (d : Deed) : Deed :=
  match o with
  | 0 => { d with a := (smallN x : Int) }
  | 1 => { d with b := (smallN x : Int) }
  | 2 => { d with r := (smallN x : Int) }
  | 5 => { d with mask := x }
  | 6 => { d with loose := true }
  | _ => { d with n := x }
/-- What the reference's loop makes of words. -/
def refGo : List Nat → List (List UInt8) → Deed → Option Deed
  | o :: os, y :: ws, d => match rdW o y with
    | some x => refGo os ws (setP o x d)
    | none => none
  | _, _, d => some d
theorem refGo_nil (l : List Nat) (d : Deed) : refGo l [] d = some d := by cases l <;> rfl

section
variable (s0 : ByteArray) (hs : s0.size ≤ 4000) (w : World)
include hs
set_option maxRecDepth 100000 in
set_option maxHeartbeats 8000000 in
theorem RParse_other (z : List UInt8) (ws : List (List UInt8)) (hD : wordsGo [] s0.data.toList = z :: ws) (h0 : ¬ opOf z = 0) (hl : ws.length = (opr (opOf z)).length) (h2 : ¬ opOf z = 2) (R : Deed × Nat)
    (hRn : refGo (opr (opOf z)) ws (opD (opOf z)) = none → R = (zeroD, 3)) (hRg : ∀ d, refGo (opr (opOf z)) ws (opD (opOf z)) = some d → goodD d = true → R = (d, 0)) (hRb : ∀ d, refGo (opr (opOf z)) ws (opD (opOf z)) = some d → goodD d = false → R = (zeroD, 5)) :
    Calls Tryz.prog 82 #[.string s0] w fun e w' => e = .returned (.tuple #[.agg R.1.cells, .int .i64 (R.2 : Int)]) ∧ Below w.heap.size w w' := by
  have hw := RWords_any s0 hs
  rw [hD] at hw
  have hbr0 := Blk.new w 109 zeroD.cells
  have hb0 := below_alloc1 w (.cells zeroD.cells 109)
  obtain ⟨Z, hZ⟩ : ∃ Z : ByteArray, Z = ⟨z.toArray⟩ := ⟨_, rfl⟩
  have hop := rop_any Z
  rw [show Z.data.toList = z by rw [hZ]] at hop
  have HZ := Lib.hid hZ
  have hparts := Parts_any (opOf z : Int) (opOf_isOp z h0)
  have hsz := partsL_size (opOf z : Int)
  have h5 := opr_len (opOf z : Int) (opOf_isOp z h0)
  have h7 := Lib.hid (opr_lt (opOf z : Int) (opOf_isOp z h0))
  have hix := Lib.hid (parts_ix (opOf z : Int))
  unfold sV at hparts
  generalize (ByteArray.mk (partsL (opOf z : Int)).toArray) = s at *
  generalize opr (opOf z : Int) = os at *
  rw [← hl] at hsz
  have t2 : ((opOf z : Int) == 2) = false := by rw [beq_eq_false_iff_ne]; omega
  clear h2
  have hsmall : Hid (∀ l ∈ ws, l.length ≤ 4000) := Lib.hid (fun l hl => by have := (words_small s0.data.toList hs).2 l; rw [hD] at this; exact this (List.mem_cons_of_mem _ hl))
  have hwl : ws.length ≤ 3999 := by have := (words_small s0.data.toList hs).1; rw [hD] at this; simp at this; omega
  generalize opOf z = op at *
  obtain ⟨A, hA⟩ : ∃ A, refGo (os.drop 0) (ws.drop 0) (opD (op : Int)) = A := ⟨_, rfl⟩
  rw [show os = os.drop 0 from rfl, show ws = ws.drop 0 from rfl, hA] at hRn hRg hRb
  have HA := Lib.hid hA
  have HRn := Lib.hid hRn
  have HRg := Lib.hid hRg
  have HRb := Lib.hid hRb
  have hn0 : ((op : Int) == 0) = false := by rw [beq_eq_false_iff_ne]; omega
  have HWL := Lib.hid hl
  clear hl
  simp only [List.drop_zero] at *
  clear h0 hs hD hZ hA hRn hRg hRb
  go_enter Tryz.func82, Tryz.ntmps82
  go_wp2_with (first
    | (refine wpList_alloc_agg rfl 109 rfl zeroD.cells zeroR ?_)
    | (go_at_call 79; (with_reducible refine (hw _).mono ?_); clear hw; rintro e w1 ⟨v, rfl, hown, hb1⟩; have hbr1 := hbr0.below hb1 hbr0.lt; have hrr : RV w1 (fun b => b < w1.heap.size) _ _ 1 _ := (RV.of_own hown).mono (fun k hk _ => hk); obtain ⟨p, c, rfl, hnc, _⟩ := id hrr; obtain ⟨b, off, rfl, hbl, _, hcell1⟩ := hrr.at1 0 (sV z) rfl; rw [Nat.add_zero, sV, ← HZ.out] at hcell1; rw [List.length_cons] at hnc; have g : Hid (Below w1.heap.size w1 w1) := Lib.hid (Below.refl _ _); have hcell := hcell1)
    | (go_at_call 124; (with_reducible refine (hop _).mono ?_); rintro e w2 ⟨rfl, hb2⟩; replace g := Lib.hid (g.out.trans (hb2.mono g.out.size)); clear hb2 hcell; have hcell := (g.out.cell (p := ⟨b, off, none⟩) hbl).trans hcell1)
    | (refine wpList_store_row rfl 109 _ _ rfl w2.heap.size (opD (op : Int)).cells rfl rfl 109 _ (heap_alloc_new w2 _) (sizeD _) rfl (oneD _) ?_; rw [World.setRow_alloc_new]; have hcd : (w2.alloc (.cells (opD (op : Int)).cells 109)).cell? ⟨w2.heap.size, 0, none⟩ = some (.int .i64 (op : Int)) := (Blk.new w2 109 (opD (op : Int)).cells).cell 0)
    | (go_at_call 114; (with_reducible refine (hparts _).mono ?_); clear hparts hcd; rintro e w4 ⟨rfl, hb4⟩; have hbd4 := (Blk.new w2 109 (opD (op : Int)).cells).below hb4 (by simp); have hcd : w4.cell? ⟨w2.heap.size, 0, none⟩ = some (.int .i64 (op : Int)) := hbd4.cell 0))
  have hbr4 : Blk w4 w.heap.size 109 zeroD.cells := ((hbr1.below g.out hbr1.lt).alloc _).below hb4 (by have := (hbr1.below g.out hbr1.lt).lt; simp; omega)
  have hbw2 : Below w.heap.size w w2 := below_pre (below_pre hb0 hb1) g.out
  have hbw4 : Below w.heap.size w w4 := below_pre (hbw2.alloc hbw2.size _) hb4
  have hgs := g.out.size
  have h12 : Below w1.heap.size w1 w4 := (g.out.alloc hgs _).trans (hb4.mono (by simp; omega))
  have hrr4 := hrr.below h12 (fun k hk _ => hk)
  have hgd : w.heap.size < w2.heap.size := (hbr1.below g.out hbr1.lt).lt
  have hg4 := hbd4.lt
  generalize w2.heap.size = gd at *
  clear hbr0 hbr1 hb0 hb1 hb4 hbw2 h12 hcell hcell1 hcd hop hown
  go_loopw [8] (fun t wr => ∃ (k : Nat) (dk : Deed), k ≤ ws.length ∧ t = .int .i64 k ∧ Hid (refGo (os.drop k) (ws.drop k) dk = A) ∧ Blk wr gd 109 dk.cells ∧ Foot (fun b => b = gd) w4 wr) (fun t _ => ws.length - (intOf t).toNat)
  case atStart => exact ⟨0, opD (op : Int), by omega, rfl, HA, hbd4, Foot.refl _ _⟩
  case round =>
    obtain ⟨k, dk, hk, rfl, ha, hbd, hfoot⟩ := hrel
    have hbw5 : Below w.heap.size w wr := hbw4.trans (hfoot.below (B := w.heap.size) (by omega) (fun b hb => by omega))
    have hbr5 := hbr4.foot hfoot (by omega)
    by_cases hlt : k < ws.length
    · obtain ⟨o, ho1⟩ : ∃ o, os[k]? = some o := ⟨_, List.getElem?_eq_getElem (by have := HWL.out; omega)⟩
      obtain ⟨y, hy1⟩ : ∃ y, ws[k]? = some y := ⟨_, List.getElem?_eq_getElem hlt⟩
      have ho7 := h7.out o (List.mem_of_getElem? ho1)
      have hyl := hsmall.out y (List.mem_of_getElem? hy1)
      have ha2 := ha.out
      rw [drop_cons os k o ho1, drop_cons ws k y hy1, refGo] at ha2
      have hi := hix.out k o ho1
      obtain ⟨b', off', hpe, _, _, hcw⟩ := (hrr4.foot hfoot (fun b hb e => by omega)).at1 (k + 1) (sV y) (by rw [List.map_cons, List.getElem?_cons_succ, List.getElem?_map, hy1]; rfl)
      injection hpe with hpe
      injection hpe with hpe1 hpe2
      subst hpe1 hpe2
      unfold sV at hcw
      obtain ⟨Y, hY⟩ : ∃ Y : ByteArray, Y = ⟨y.toArray⟩ := ⟨_, rfl⟩
      have hYl : Y.data.toList = y := by rw [hY]
      rw [← hY] at hcw
      have hYs : Y.size ≤ 4000 := by rw [hY, size_mk]; exact hyl
      have hrd := RRead_any Y hYs wr
      have hrh := RReadHex_any Y wr
      rw [hYl] at hrd hrh
      clear ho1 hy1 hY ha hyl hYs
      have HBD := Lib.hid hbd
      clear hbd
      have e1 : wr.cell? ⟨gd, 1, none⟩ = some (.int .i64 dk.a) := HBD.out.cell 1
      have e2 : wr.cell? ⟨gd, 2, none⟩ = some (.int .i64 dk.b) := HBD.out.cell 2
      have e3 : wr.cell? ⟨gd, 3, none⟩ = some (.int .i64 dk.r) := HBD.out.cell 3
      have e4 : wr.cell? ⟨gd, 4, none⟩ = some (.int .u64 (dk.n : Int)) := HBD.out.cell 4
      have e5 : wr.cell? ⟨gd, 5, none⟩ = some (.int .u64 (dk.mask : Int)) := HBD.out.cell 5
      have e6 : wr.cell? ⟨gd, 6, none⟩ = some (.bool dk.loose) := HBD.out.cell 6
      have f1 := HBD.out.frozen 1
      have f2 := HBD.out.frozen 2
      have f3 := HBD.out.frozen 3
      have f4 := HBD.out.frozen 4
      have f5 := HBD.out.frozen 5
      have f6 := HBD.out.frozen 6
      rcases o_cases ho7 with rfl | rfl | rfl | rfl | rfl | rfl | rfl
      · replace hi : ∀ W, (Instr.index 9 (.string s) (.int .i64 (k : Int))).run Tryz.prog W = .ok (.int .u8 65) W := hi
        clear hrh
        by_cases hy : (readL y).2 = 0
        · have hrw : rdW 0 y = some (readL y).1 := by unfold rdW; simp [hy]
          rw [hy] at hrd
          rw [hrw] at ha2
          generalize (readL y).1 = x at *
          clear hrw
          have HA2 := Lib.hid ha2
          clear ha2 hy
          go_wp2_with (first
            | (go_at_call 122; (with_reducible refine hrd.mono ?_); clear hrd; rintro e w5 ⟨rfl, rfl⟩)
            | (go_at_call 125; (with_reducible refine (small_any x _).mono ?_); rintro e w5 ⟨rfl, rfl⟩))
          go_roundw
          case rel => exact ⟨k + 1, _, by omega, by go_num, HA2, (blk_put HBD.out 1 _ rfl).1, hfoot.trans (blk_put HBD.out 1 _ rfl).2⟩
          case measure => simp [intOf]; omega
        · have hrw : rdW 0 y = none := by unfold rdW; simp [hy]
          rw [hrw] at ha2
          have hA : A = none := ha2.symm
          have ty : (((readL y).2 : Int) != 0) = true := by simp; omega
          generalize (readL y).2 = q at *
          clear ha2 hrw hy
          have hRR := Lib.hid (HRn.out hA)
          go_wp2_with (first
            | (go_at_call 122; (with_reducible refine hrd.mono ?_); clear hrd; rintro e w5 ⟨rfl, rfl⟩)
            | (refine wpList_store_row rfl 109 _ _ rfl w.heap.size zeroD.cells rfl rfl 109 _ hbr5 (sizeD _) rfl (oneD _) ?_))
          refine bodyPost_ret (results_row_tmp rfl _ _ w.heap.size 109 zeroD.cells (0, 0) _ rfl (hbr5.row _) Tryz.underlying109 rfl (sizeD _)) rfl ?_
          exact ⟨by rw [hRR.out]; rfl, hbw5.trans (foot_row _ (Nat.le_refl _))⟩
      · replace hi : ∀ W, (Instr.index 9 (.string s) (.int .i64 (k : Int))).run Tryz.prog W = .ok (.int .u8 66) W := hi
        clear hrh
        by_cases hy : (readL y).2 = 0
        · have hrw : rdW 1 y = some (readL y).1 := by unfold rdW; simp [hy]
          rw [hy] at hrd
          rw [hrw] at ha2
          generalize (readL y).1 = x at *
          clear hrw
          have HA2 := Lib.hid ha2
          clear ha2 hy
          go_wp2_with (first
            | (go_at_call 122; (with_reducible refine hrd.mono ?_); clear hrd; rintro e w5 ⟨rfl, rfl⟩)
            | (go_at_call 125; (with_reducible refine (small_any x _).mono ?_); rintro e w5 ⟨rfl, rfl⟩))
          go_roundw
          case rel => exact ⟨k + 1, _, by omega, by go_num, HA2, (blk_put HBD.out 2 _ rfl).1, hfoot.trans (blk_put HBD.out 2 _ rfl).2⟩
          case measure => simp [intOf]; omega
        · have hrw : rdW 1 y = none := by unfold rdW; simp [hy]
          rw [hrw] at ha2
          have hA : A = none := ha2.symm
          have ty : (((readL y).2 : Int) != 0) = true := by simp; omega
          generalize (readL y).2 = q at *
          clear ha2 hrw hy
          have hRR := Lib.hid (HRn.out hA)
          go_wp2_with (first
            | (go_at_call 122; (with_reducible refine hrd.mono ?_); clear hrd; rintro e w5 ⟨rfl, rfl⟩)
            | (refine wpList_store_row rfl 109 _ _ rfl w.heap.size zeroD.cells rfl rfl 109 _ hbr5 (sizeD _) rfl (oneD _) ?_))
          refine bodyPost_ret (results_row_tmp rfl _ _ w.heap.size 109 zeroD.cells (0, 0) _ rfl (hbr5.row _) Tryz.underlying109 rfl (sizeD _)) rfl ?_
          exact ⟨by rw [hRR.out]; rfl, hbw5.trans (foot_row _ (Nat.le_refl _))⟩
      · replace hi : ∀ W, (Instr.index 9 (.string s) (.int .i64 (k : Int))).run Tryz.prog W = .ok (.int .u8 82) W := hi
        clear hrh
        by_cases hy : (readL y).2 = 0
        · have hrw : rdW 2 y = some (readL y).1 := by unfold rdW; simp [hy]
          rw [hy] at hrd
          rw [hrw] at ha2
          generalize (readL y).1 = x at *
          clear hrw
          have HA2 := Lib.hid ha2
          clear ha2 hy
          go_wp2_with (first
            | (go_at_call 122; (with_reducible refine hrd.mono ?_); clear hrd; rintro e w5 ⟨rfl, rfl⟩)
            | (go_at_call 125; (with_reducible refine (small_any x _).mono ?_); rintro e w5 ⟨rfl, rfl⟩))
          go_roundw
          case rel => exact ⟨k + 1, _, by omega, by go_num, HA2, (blk_put HBD.out 3 _ rfl).1, hfoot.trans (blk_put HBD.out 3 _ rfl).2⟩
          case measure => simp [intOf]; omega
        · have hrw : rdW 2 y = none := by unfold rdW; simp [hy]
          rw [hrw] at ha2
          have hA : A = none := ha2.symm
          have ty : (((readL y).2 : Int) != 0) = true := by simp; omega
          generalize (readL y).2 = q at *
          clear ha2 hrw hy
          have hRR := Lib.hid (HRn.out hA)
          go_wp2_with (first
            | (go_at_call 122; (with_reducible refine hrd.mono ?_); clear hrd; rintro e w5 ⟨rfl, rfl⟩)
            | (refine wpList_store_row rfl 109 _ _ rfl w.heap.size zeroD.cells rfl rfl 109 _ hbr5 (sizeD _) rfl (oneD _) ?_))
          refine bodyPost_ret (results_row_tmp rfl _ _ w.heap.size 109 zeroD.cells (0, 0) _ rfl (hbr5.row _) Tryz.underlying109 rfl (sizeD _)) rfl ?_
          exact ⟨by rw [hRR.out]; rfl, hbw5.trans (foot_row _ (Nat.le_refl _))⟩
      · replace hi : ∀ W, (Instr.index 9 (.string s) (.int .i64 (k : Int))).run Tryz.prog W = .ok (.int .u8 78) W := hi
        clear hrh
        by_cases hy : (readL y).2 = 0
        · have hrw : rdW 3 y = some (readL y).1 := by unfold rdW; simp [hy]
          rw [hy] at hrd
          rw [hrw] at ha2
          generalize (readL y).1 = x at *
          clear hrw
          have HA2 := Lib.hid ha2
          clear ha2 hy
          go_wp2_with (first
            | (go_at_call 122; (with_reducible refine hrd.mono ?_); clear hrd; rintro e w5 ⟨rfl, rfl⟩))
          go_roundw
          case rel => exact ⟨k + 1, _, by omega, by go_num, HA2, (blk_put HBD.out 4 _ rfl).1, hfoot.trans (blk_put HBD.out 4 _ rfl).2⟩
          case measure => simp [intOf]; omega
        · have hrw : rdW 3 y = none := by unfold rdW; simp [hy]
          rw [hrw] at ha2
          have hA : A = none := ha2.symm
          have ty : (((readL y).2 : Int) != 0) = true := by simp; omega
          generalize (readL y).2 = q at *
          clear ha2 hrw hy
          have hRR := Lib.hid (HRn.out hA)
          go_wp2_with (first
            | (go_at_call 122; (with_reducible refine hrd.mono ?_); clear hrd; rintro e w5 ⟨rfl, rfl⟩)
            | (refine wpList_store_row rfl 109 _ _ rfl w.heap.size zeroD.cells rfl rfl 109 _ hbr5 (sizeD _) rfl (oneD _) ?_))
          refine bodyPost_ret (results_row_tmp rfl _ _ w.heap.size 109 zeroD.cells (0, 0) _ rfl (hbr5.row _) Tryz.underlying109 rfl (sizeD _)) rfl ?_
          exact ⟨by rw [hRR.out]; rfl, hbw5.trans (foot_row _ (Nat.le_refl _))⟩
      · replace hi : ∀ W, (Instr.index 9 (.string s) (.int .i64 (k : Int))).run Tryz.prog W = .ok (.int .u8 78) W := hi
        clear hrh
        by_cases hy : (readL y).2 = 0
        · have hrw : rdW 4 y = some (readL y).1 := by unfold rdW; simp [hy]
          rw [hy] at hrd
          rw [hrw] at ha2
          generalize (readL y).1 = x at *
          clear hrw
          have HA2 := Lib.hid ha2
          clear ha2 hy
          go_wp2_with (first
            | (go_at_call 122; (with_reducible refine hrd.mono ?_); clear hrd; rintro e w5 ⟨rfl, rfl⟩))
          go_roundw
          case rel => exact ⟨k + 1, _, by omega, by go_num, HA2, (blk_put HBD.out 4 _ rfl).1, hfoot.trans (blk_put HBD.out 4 _ rfl).2⟩
          case measure => simp [intOf]; omega
        · have hrw : rdW 4 y = none := by unfold rdW; simp [hy]
          rw [hrw] at ha2
          have hA : A = none := ha2.symm
          have ty : (((readL y).2 : Int) != 0) = true := by simp; omega
          generalize (readL y).2 = q at *
          clear ha2 hrw hy
          have hRR := Lib.hid (HRn.out hA)
          go_wp2_with (first
            | (go_at_call 122; (with_reducible refine hrd.mono ?_); clear hrd; rintro e w5 ⟨rfl, rfl⟩)
            | (refine wpList_store_row rfl 109 _ _ rfl w.heap.size zeroD.cells rfl rfl 109 _ hbr5 (sizeD _) rfl (oneD _) ?_))
          refine bodyPost_ret (results_row_tmp rfl _ _ w.heap.size 109 zeroD.cells (0, 0) _ rfl (hbr5.row _) Tryz.underlying109 rfl (sizeD _)) rfl ?_
          exact ⟨by rw [hRR.out]; rfl, hbw5.trans (foot_row _ (Nat.le_refl _))⟩
      · replace hi : ∀ W, (Instr.index 9 (.string s) (.int .i64 (k : Int))).run Tryz.prog W = .ok (.int .u8 77) W := hi
        generalize (readL y).1 = x1 at *
        generalize (readL y).2 = q1 at *
        by_cases hy : (hexR y).2 = 0
        · have hrw : rdW 5 y = some (hexR y).1 := by unfold rdW; simp [hy]
          rw [hy] at hrh
          rw [hrw] at ha2
          generalize (hexR y).1 = x at *
          clear hrw
          have HA2 := Lib.hid ha2
          clear ha2 hy
          go_wp2_with (first
            | (go_at_call 122; (with_reducible refine hrd.mono ?_); clear hrd; rintro e w5 ⟨rfl, rfl⟩)
            | (go_at_call 123; (with_reducible refine hrh.mono ?_); clear hrh; rintro e w5 ⟨rfl, rfl⟩))
          go_roundw
          case rel => exact ⟨k + 1, _, by omega, by go_num, HA2, (blk_put HBD.out 5 _ rfl).1, hfoot.trans (blk_put HBD.out 5 _ rfl).2⟩
          case measure => simp [intOf]; omega
        · have hrw : rdW 5 y = none := by unfold rdW; simp [hy]
          rw [hrw] at ha2
          have hA : A = none := ha2.symm
          have ty : (((hexR y).2 : Int) != 0) = true := by simp; omega
          generalize (hexR y).2 = q at *
          clear ha2 hrw hy
          have hRR := Lib.hid (HRn.out hA)
          go_wp2_with (first
            | (go_at_call 122; (with_reducible refine hrd.mono ?_); clear hrd; rintro e w5 ⟨rfl, rfl⟩)
            | (go_at_call 123; (with_reducible refine hrh.mono ?_); clear hrh; rintro e w5 ⟨rfl, rfl⟩)
            | (refine wpList_store_row rfl 109 _ _ rfl w.heap.size zeroD.cells rfl rfl 109 _ hbr5 (sizeD _) rfl (oneD _) ?_))
          refine bodyPost_ret (results_row_tmp rfl _ _ w.heap.size 109 zeroD.cells (0, 0) _ rfl (hbr5.row _) Tryz.underlying109 rfl (sizeD _)) rfl ?_
          exact ⟨by rw [hRR.out]; rfl, hbw5.trans (foot_row _ (Nat.le_refl _))⟩
      · replace hi : ∀ W, (Instr.index 9 (.string s) (.int .i64 (k : Int))).run Tryz.prog W = .ok (.int .u8 76) W := hi
        clear hrh
        generalize (readL y).1 = x1 at *
        generalize (readL y).2 = q1 at *
        by_cases hy : y = looseL
        · have hrw : rdW 6 y = some 1 := by unfold rdW; simp [hy]
          rw [hrw] at ha2
          have tl : (Y.toList == [108, 111, 111, 115, 101]) = true := by rw [Lib.toList_data, hYl, hy]; rfl
          clear hrw hYl
          have HA2 := Lib.hid ha2
          clear ha2 hy
          go_wp2_with (first
            | (go_at_call 122; (with_reducible refine hrd.mono ?_); clear hrd; rintro e w5 ⟨rfl, rfl⟩))
          go_roundw
          case rel => exact ⟨k + 1, _, by omega, by go_num, HA2, (blk_put HBD.out 6 _ rfl).1, hfoot.trans (blk_put HBD.out 6 _ rfl).2⟩
          case measure => simp [intOf]; omega
        · have hrw : rdW 6 y = none := by unfold rdW; simp [hy]
          rw [hrw] at ha2
          have hA : A = none := ha2.symm
          have tl : (Y.toList == [108, 111, 111, 115, 101]) = false := by rw [Lib.toList_data, hYl, beq_eq_false_iff_ne]; exact hy
          clear ha2 hrw hy hYl
          have hRR := Lib.hid (HRn.out hA)
          go_wp2_with (first
            | (go_at_call 122; (with_reducible refine hrd.mono ?_); clear hrd; rintro e w5 ⟨rfl, rfl⟩)
            | (refine wpList_store_row rfl 109 _ _ rfl w.heap.size zeroD.cells rfl rfl 109 _ hbr5 (sizeD _) rfl (oneD _) ?_))
          refine bodyPost_ret (results_row_tmp rfl _ _ w.heap.size 109 zeroD.cells (0, 0) _ rfl (hbr5.row _) Tryz.underlying109 rfl (sizeD _)) rfl ?_
          exact ⟨by rw [hRR.out]; rfl, hbw5.trans (foot_row _ (Nat.le_refl _))⟩
    · obtain rfl : k = ws.length := by omega
      have ha2 := ha.out
      rw [List.drop_length, refGo_nil] at ha2
      have hA : A = some dk := ha2.symm
      have hgood := RGood_any dk wr
      have hbd5 := hbd
      simp only [Deed.val] at hgood
      clear ha ha2
      by_cases hgg : goodD dk = true
      · rw [hgg] at hgood
        have hRR := Lib.hid (HRg.out _ hA hgg)
        clear hgg hA
        go_wp2_with (first
          | (refine wpList_load_row rfl 109 _ rfl gd rfl 109 _ (0, 0) _ hbd5 Tryz.underlying109 rfl (sizeD _) ?_)
          | (go_at_call 70; (with_reducible refine hgood.mono ?_); clear hgood; rintro e w6 ⟨rfl, hb6⟩; have hbr6 := hbr5.below hb6 hbr5.lt; replace hbd5 := hbd5.below hb6 hbd5.lt)
          | (refine wpList_store_row rfl 109 _ _ rfl w.heap.size dk.cells rfl rfl 109 _ hbr6 (sizeD _) rfl (oneD _) ?_))
        refine bodyPost_ret (results_row_tmp rfl _ _ w.heap.size 109 dk.cells (0, 0) _ rfl (hbr6.row _) Tryz.underlying109 rfl (sizeD _)) rfl ?_
        exact ⟨by rw [hRR.out]; rfl, (below_pre hbw5 hb6).trans (foot_row _ (Nat.le_refl _))⟩
      · have hgg' : goodD dk = false := by simpa using hgg
        rw [hgg'] at hgood
        have hRR := Lib.hid (HRb.out _ hA hgg')
        clear hgg hgg' hA
        go_wp2_with (first
          | (refine wpList_load_row rfl 109 _ rfl gd rfl 109 _ (0, 0) _ hbd5 Tryz.underlying109 rfl (sizeD _) ?_)
          | (go_at_call 70; (with_reducible refine hgood.mono ?_); clear hgood; rintro e w6 ⟨rfl, hb6⟩; have hbr6 := hbr5.below hb6 hbr5.lt)
          | (refine wpList_store_row rfl 109 _ _ rfl w.heap.size zeroD.cells rfl rfl 109 _ hbr6 (sizeD _) rfl (oneD _) ?_))
        refine bodyPost_ret (results_row_tmp rfl _ _ w.heap.size 109 zeroD.cells (0, 0) _ rfl (hbr6.row _) Tryz.underlying109 rfl (sizeD _)) rfl ?_
        exact ⟨by rw [hRR.out]; rfl, (below_pre hbw5 hb6).trans (foot_row _ (Nat.le_refl _))⟩

end
end Go.Proofs.YtbdimfcdpkldpaaGreatDoor

namespace Go.Proofs.YtbdimfcdpkldpaaGreatDoor

/-- What the reference's Parse answers. -/
def refEnd (o : Option Deed) : Deed × Nat := match o with
  | none => (zeroD, 3)
  | some d => if goodD d = true then (d, 0) else (zeroD, 5)
def progEnd (op : Int) (ws : List (List UInt8)) : Deed × Nat := if (readR op ws).2 = 0 then bldD op (readR op ws).1 else (zeroD, (readR op ws).2)

theorem smallN_64 (x : Nat) : smallN x < 64 ↔ x < 64 := by unfold smallN; split <;> omega
theorem smallN_8 (x : Nat) : smallN x < 8 ↔ x < 8 := by unfold smallN; split <;> omega
theorem smallN_eq (x : Nat) (h : x < 64) : smallN x = x := by unfold smallN; rw [if_neg (by omega)]

theorem end_one (op : Int) (o : Nat) (ho : opr op = [o]) (_h2 : (op == 2) = false) (ws : List (List UInt8)) (hl : ws.length = 1)
    (hb : ∀ x, bldD op [x] = if goodD (setP o x (opD op)) = true then (setP o x (opD op), 0) else (zeroD, 5)) : refEnd (refGo (opr op) ws (opD op)) = progEnd op ws := by
  match ws, hl with
  | [y], _ =>
    unfold progEnd readR lenOk
    rw [ho]
    cases h : rdW o y with
    | none => simp [refGo, rdAll, h, refEnd]
    | some x => simp [refGo, rdAll, h, refEnd, hb]
theorem end_two (op : Int) (o o' : Nat) (ho : opr op = [o, o']) (_h2 : (op == 2) = false) (ws : List (List UInt8)) (hl : ws.length = 2)
    (hb : ∀ x x', bldD op [x, x'] = if goodD (setP o' x' (setP o x (opD op))) = true then (setP o' x' (setP o x (opD op)), 0) else (zeroD, 5)) : refEnd (refGo (opr op) ws (opD op)) = progEnd op ws := by
  match ws, hl with
  | [y, y'], _ =>
    unfold progEnd readR lenOk
    rw [ho]
    cases h : rdW o y with
    | none => simp [refGo, rdAll, h, refEnd]
    | some x =>
      cases h' : rdW o' y' with
      | none => simp [refGo, rdAll, h, h', refEnd]
      | some x' => simp [refGo, rdAll, h, h', refEnd, hb]

theorem b_one (op : Int) (o x : Nat) (h : (op = 1 ∧ o = 3) ∨ (op = 3 ∧ o = 4) ∨ (op = 4 ∧ o = 2) ∨ (op = 6 ∧ o = 4) ∨ (op = 9 ∧ o = 0) ∨ (op = 11 ∧ o = 0)) : bldD op [x] = if goodD (setP o x (opD op)) = true then (setP o x (opD op), 0) else (zeroD, 5) := by
  have e64 := smallN_64 x
  have e8 := smallN_8 x
  have ee := smallN_eq x
  rcases h with ⟨rfl, rfl⟩ | ⟨rfl, rfl⟩ | ⟨rfl, rfl⟩ | ⟨rfl, rfl⟩ | ⟨rfl, rfl⟩ | ⟨rfl, rfl⟩
  all_goals
    simp only [bldD, opr, oprN, Int.reduceToNat, fitAll, fitsN, setAll, setD, setP, opD, goodD, isOp, onlyD, cpAll, cpD, rangeD, eqD]
    generalize smallN x = X at *
    by_cases h64 : x < 64 <;> by_cases h8 : x < 8 <;> by_cases h1 : x < 1 <;> by_cases h6 : 65536 < x
    all_goals simp [*]
    all_goals (repeat' split) <;> simp_all
    all_goals omega
theorem b_two (op : Int) (o o' x x' : Nat) (h : (op = 7 ∧ o = 2 ∧ o' = 5) ∨ (op = 8 ∧ o = 2 ∧ o' = 1) ∨ (op = 10 ∧ o = 0 ∧ o' = 4)) : bldD op [x, x'] = if goodD (setP o' x' (setP o x (opD op))) = true then (setP o' x' (setP o x (opD op)), 0) else (zeroD, 5) := by
  have e64 := smallN_64 x
  have e8 := smallN_8 x
  have ee := smallN_eq x
  have e8' := smallN_8 x'
  have ee' := smallN_eq x'
  rcases h with ⟨rfl, rfl, rfl⟩ | ⟨rfl, rfl, rfl⟩ | ⟨rfl, rfl, rfl⟩
  all_goals
    simp only [bldD, opr, oprN, Int.reduceToNat, fitAll, fitsN, setAll, setD, setP, opD, goodD, isOp, onlyD, cpAll, cpD, rangeD, eqD]
    generalize smallN x = X at *
    generalize smallN x' = X' at *
    by_cases h64 : x < 64 <;> by_cases h8 : x < 8 <;> by_cases h8' : x' < 8
    all_goals simp [*]
    all_goals (repeat' split) <;> simp_all
    all_goals omega
theorem b_spawn (a b r m : Nat) (l : Nat) (d : Deed) (hd : d = ⟨2, (smallN a : Int), (smallN b : Int), (smallN r : Int), 0, m, l == 1⟩) :
    bldD 2 [a, b, r, m, l] = if goodD d = true then (d, 0) else (zeroD, 5) := by
  subst hd
  have ea := smallN_64 a
  have ee := smallN_eq a
  have eb := smallN_8 b
  have eeb := smallN_eq b
  have er := smallN_8 r
  have eer := smallN_eq r
  simp only [bldD, opr, oprN, Int.reduceToNat, fitAll, fitsN, setAll, setD, opD, goodD, isOp, onlyD, cpAll, cpD, rangeD, eqD]
  generalize smallN a = A at *
  generalize smallN b = B at *
  generalize smallN r = C at *
  generalize (l == 1) = t
  by_cases ha : a < 64 <;> by_cases hb : b < 8 <;> by_cases hr : r < 8
  all_goals simp [*]
  all_goals (repeat' split) <;> simp_all
  all_goals omega
theorem end_spawn (ws : List (List UInt8)) (hl : ws.length = 4 ∨ ws.length = 5) : refEnd (refGo [0, 1, 2, 5, 6] ws (opD 2)) = progEnd 2 ws := by
  have ho : opr 2 = [0, 1, 2, 5, 6] := rfl
  rcases hl with hl | hl
  · match ws, hl with
    | [y0, y1, y2, y3], _ =>
      unfold progEnd readR lenOk
      rw [ho]
      cases h0 : rdW 0 y0 with
      | none => simp [refGo, rdAll, h0, refEnd]
      | some a =>
        cases h1 : rdW 1 y1 with
        | none => simp [refGo, rdAll, h0, h1, refEnd]
        | some b =>
          cases h2 : rdW 2 y2 with
          | none => simp [refGo, rdAll, h0, h1, h2, refEnd]
          | some r =>
            cases h3 : rdW 5 y3 with
            | none => simp [refGo, rdAll, h0, h1, h2, h3, refEnd]
            | some m =>
              have := b_spawn a b r m 0 (setP 5 m (setP 2 r (setP 1 b (setP 0 a (opD 2))))) rfl
              simp [refGo, rdAll, h0, h1, h2, h3, refEnd, this]
  · match ws, hl with
    | [y0, y1, y2, y3, y4], _ =>
      unfold progEnd readR lenOk
      rw [ho]
      cases h0 : rdW 0 y0 with
      | none => simp [refGo, rdAll, h0, refEnd]
      | some a =>
        cases h1 : rdW 1 y1 with
        | none => simp [refGo, rdAll, h0, h1, refEnd]
        | some b =>
          cases h2 : rdW 2 y2 with
          | none => simp [refGo, rdAll, h0, h1, h2, refEnd]
          | some r =>
            cases h3 : rdW 5 y3 with
            | none => simp [refGo, rdAll, h0, h1, h2, h3, refEnd]
            | some m =>
              cases h4 : rdW 6 y4 with
              | none => simp [refGo, rdAll, h0, h1, h2, h3, h4, refEnd]
              | some l =>
                have hl1 : l = 1 := by
                  unfold rdW at h4
                  simp at h4
                  exact h4.2.symm
                subst hl1
                have := b_spawn a b r m 1 (setP 6 1 (setP 5 m (setP 2 r (setP 1 b (setP 0 a (opD 2)))))) rfl
                simp [refGo, rdAll, h0, h1, h2, h3, h4, refEnd, this]
theorem end_all (op : Int) (ho : isOp op = true) (ws : List (List UInt8)) (hl : lenOk op (opr op).length ws.length = true) : refEnd (refGo (opr op) ws (opD op)) = progEnd op ws := by
  have hl' : ws.length = (opr op).length ∨ (ws.length + 1 = (opr op).length ∧ op = 2) := by
    unfold lenOk at hl
    simpa [Bool.or_eq_true, Bool.and_eq_true] using hl
  rcases isOp_cases ho with rfl | rfl | rfl | rfl | rfl | rfl | rfl | rfl | rfl | rfl | rfl
  · exact end_one 1 3 rfl rfl ws (by rcases hl' with h | ⟨_, h⟩; exact h; omega) (fun x => b_one 1 3 x (by simp))
  · exact end_spawn ws (by rcases hl' with h | ⟨h, _⟩; exact .inr h; left; change ws.length + 1 = 5 at h; omega)
  · exact end_one 3 4 rfl rfl ws (by rcases hl' with h | ⟨_, h⟩; exact h; omega) (fun x => b_one 3 4 x (by simp))
  · exact end_one 4 2 rfl rfl ws (by rcases hl' with h | ⟨_, h⟩; exact h; omega) (fun x => b_one 4 2 x (by simp))
  · have h0 : ws = [] := by
      rcases hl' with h | ⟨_, h⟩
      · exact List.eq_nil_of_length_eq_zero h
      · omega
    subst h0
    rfl
  · exact end_one 6 4 rfl rfl ws (by rcases hl' with h | ⟨_, h⟩; exact h; omega) (fun x => b_one 6 4 x (by simp))
  · exact end_two 7 2 5 rfl rfl ws (by rcases hl' with h | ⟨_, h⟩; exact h; omega) (fun x x' => b_two 7 2 5 x x' (by simp))
  · exact end_two 8 2 1 rfl rfl ws (by rcases hl' with h | ⟨_, h⟩; exact h; omega) (fun x x' => b_two 8 2 1 x x' (by simp))
  · exact end_one 9 0 rfl rfl ws (by rcases hl' with h | ⟨_, h⟩; exact h; omega) (fun x => b_one 9 0 x (by simp))
  · exact end_two 10 0 4 rfl rfl ws (by rcases hl' with h | ⟨_, h⟩; exact h; omega) (fun x x' => b_two 10 0 4 x x' (by simp))
  · exact end_one 11 0 rfl rfl ws (by rcases hl' with h | ⟨_, h⟩; exact h; omega) (fun x => b_one 11 0 x (by simp))
theorem short_same (ws : List (List UInt8)) (hl : ws.length = 4) (d : Deed) : refGo [0, 1, 2, 5] ws d = refGo [0, 1, 2, 5, 6] ws d := by
  match ws, hl with
  | [y0, y1, y2, y3], _ =>
    simp only [refGo]
end Go.Proofs.YtbdimfcdpkldpaaGreatDoor

namespace Go.Proofs.YtbdimfcdpkldpaaGreatDoor

/-- The words that an operand adds to a line. -/
def wL (o x : Nat) : List (List UInt8) := if o = 5 then [hexN 16 x] else if o = 6 then (if x = 1 then [looseL] else []) else [Lib.decDigits x]
theorem text_words (o x : Nat) : textN o x = joinT [32] (wL o x) := by
  unfold textN wL
  split
  · simp [joinT]
  · split
    · split <;> simp [joinT]
    · simp [joinT]
theorem joinT_append (bl : List UInt8) : ∀ a b : List (List UInt8), joinT bl (a ++ b) = joinT bl a ++ joinT bl b
  | [], b => rfl
  | w :: a, b => by rw [List.cons_append, joinT, joinT, joinT_append bl a b]; simp
theorem flat_words (f : Nat → Nat) : ∀ os : List Nat, os.flatMap (fun o => textN o (f o)) = joinT [32] (os.flatMap (fun o => wL o (f o)))
  | [] => rfl
  | o :: os => by rw [List.flatMap_cons, List.flatMap_cons, joinT_append, text_words, flat_words f os]
theorem val_blank : valB 32 = 16 := by decide
theorem all_word (b : Nat) (hb : b ≤ 16) (l : List UInt8) (h0 : l ≠ []) (h : allD b l = true) : isWord l := by
  refine ⟨h0, fun c hc e => ?_⟩
  subst e
  have := List.all_eq_true.1 h _ hc
  simp only [decide_eq_true_eq] at this
  rw [val_blank] at this
  omega
theorem dec_word (x : Nat) : isWord (Lib.decDigits x) := by
  obtain ⟨_, a2, a3, _⟩ := dec_facts (x + 1) x (by omega)
  exact all_word 10 (by decide) _ a3 a2
theorem hex_word (x : Nat) (h : x < 18446744073709551616) : isWord (hexN 16 x) := by
  obtain ⟨_, a2⟩ := hexN_facts 16 x (by omega)
  exact all_word 16 (by decide) _ (fun e => by have := hexN_len 16 x; rw [e] at this; cases this) a2
theorem loose_word : isWord looseL := ⟨by decide, by decide⟩
theorem name_word (op : Int) (h : isOp op = true) : isWord (nameN op.toNat) := by
  rcases isOp_cases h with rfl | rfl | rfl | rfl | rfl | rfl | rfl | rfl | rfl | rfl | rfl <;> exact ⟨by decide, by decide⟩
theorem name_op (op : Int) (h : isOp op = true) : (opOf (nameN op.toNat) : Int) = op ∧ ¬ opOf (nameN op.toNat) = 0 := by
  rcases isOp_cases h with rfl | rfl | rfl | rfl | rfl | rfl | rfl | rfl | rfl | rfl | rfl <;> decide
theorem wL_words (o x : Nat) (hx : x < 18446744073709551616) : ∀ w ∈ wL o x, isWord w := by
  intro w hw
  unfold wL at hw
  split at hw
  · rw [List.mem_singleton.1 hw]; exact hex_word x hx
  · split at hw
    · split at hw
      · rw [List.mem_singleton.1 hw]; exact loose_word
      · cases hw
    · rw [List.mem_singleton.1 hw]; exact dec_word x
theorem line_words (d : Deed) (hd : d.ok) (hg : goodD d = true) : wordsGo [] (lineD d) = nameN d.op.toNat :: (opr d.op).flatMap (fun o => wL o (ofD o d)) := by
  have ho := good_op hg
  unfold lineD
  rw [if_pos hg, flat_words]
  unfold nameD
  rw [if_pos ho]
  have := words_join [32] [] (by decide) (by decide) (by decide) (nameN d.op.toNat :: (opr d.op).flatMap (fun o => wL o (ofD o d))) (fun w hw => by
    rcases List.mem_cons.1 hw with e | hw
    · rw [e]; exact name_word _ ho
    · obtain ⟨o, _, hw⟩ := List.mem_flatMap.1 hw
      exact wL_words o _ (ofD_lt o d hd) w hw)
  rwa [List.append_nil, joinL] at this
theorem rd_num (o x : Nat) (h5 : o ≠ 5) (h6 : o ≠ 6) (hx : x < 18446744073709551616) : rdW o (Lib.decDigits x) = some x := by
  unfold rdW
  rw [if_neg h6, if_neg h5, read_dec x hx, if_pos rfl]
theorem rd_hex (x : Nat) (hx : x < 18446744073709551616) : rdW 5 (hexN 16 x) = some x := by
  unfold rdW
  rw [if_neg (by decide), if_pos rfl, hexR_hex x hx, if_pos rfl]
theorem rd_loose : rdW 6 looseL = some 1 := rfl
theorem read_line (d : Deed) (hd : d.ok) (ho : isOp d.op = true) : readR d.op ((opr d.op).flatMap (fun o => wL o (ofD o d))) = (valsD d, 0) := by
  have hx := fun o => ofD_lt o d hd
  have hlo : ofD 6 d = 0 ∨ ofD 6 d = 1 := by unfold ofD; cases d.loose <;> simp
  unfold valsD
  generalize hop : d.op = op at *
  generalize hf : (fun o => ofD o d) = f at *
  have hx' : ∀ o, f o < 18446744073709551616 := fun o => by rw [← hf]; exact hx o
  have hlo' : f 6 = 0 ∨ f 6 = 1 := by rw [← hf]; exact hlo
  have r : ∀ o, o ≠ 5 → o ≠ 6 → rdW o (Lib.decDigits (f o)) = some (f o) := fun o h5 h6 => rd_num o _ h5 h6 (hx' o)
  have r5 := rd_hex (f 5) (hx' 5)
  have e : ∀ o, ofD o d = f o := fun o => by rw [← hf]
  simp only [e]
  rcases isOp_cases ho with rfl | rfl | rfl | rfl | rfl | rfl | rfl | rfl | rfl | rfl | rfl
  · simp [readR, lenOk, opr, oprN, wL, rdAll, r]
  · rcases hlo' with h | h
    · simp [readR, lenOk, opr, oprN, wL, rdAll, r, r5, h]
    · simp [readR, lenOk, opr, oprN, wL, rdAll, r, r5, h, rd_loose]
  · simp [readR, lenOk, opr, oprN, wL, rdAll, r]
  · simp [readR, lenOk, opr, oprN, wL, rdAll, r]
  · simp [readR, lenOk, opr, oprN, rdAll]
  · simp [readR, lenOk, opr, oprN, wL, rdAll, r]
  · simp [readR, lenOk, opr, oprN, wL, rdAll, r, r5]
  · simp [readR, lenOk, opr, oprN, wL, rdAll, r]
  · simp [readR, lenOk, opr, oprN, wL, rdAll, r]
  · simp [readR, lenOk, opr, oprN, wL, rdAll, r]
  · simp [readR, lenOk, opr, oprN, wL, rdAll, r]
theorem bld_vals (d : Deed) (hd : d.ok) (hg : goodD d = true) : bldD d.op (valsD d) = (d, 0) := by
  rw [← good_same d hd] at hg
  unfold goodC at hg
  simp only [Bool.and_eq_true, beq_iff_eq] at hg
  exact Prod.ext ((eqD_iff _ _).1 hg.2.2) hg.2.1
theorem parse_line (d : Deed) (hd : d.ok) (hg : goodD d = true) : parseD (lineD d) = (d, 0) := by
  have ho := good_op hg
  obtain ⟨h1, h2⟩ := name_op d.op ho
  unfold parseD
  rw [line_words d hd hg]
  simp only [if_neg h2]
  rw [h1, read_line d hd ho, if_pos rfl, bld_vals d hd hg]
theorem parse_bad : parseD [63] = (zeroD, 15) := rfl
end Go.Proofs.YtbdimfcdpkldpaaGreatDoor
