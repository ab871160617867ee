/- The contract of the reference's Parse, where it ends ahead of its loop. -/
import Derived.Test.YtbjmdcjoaapmiaaDoorD18
import Derived.Test.YtbjmdcjoaapmiaaDoorD15
namespace Go.Proofs.YtbjmdcjoaapmiaaDoor
open Go.RowKit

section
variable (s0 : ByteArray) (hs : s0.size ≤ 1000) (w : World)
include hs
set_option maxHeartbeats 1000000 in
theorem RParse_none (hD : wordsGo [] s0.data.toList = []) :
    Calls Tryd.prog 18 #[.string s0] w fun e w' => e = .returned (.tuple #[.agg zeroD.cells, .int .i64 15]) ∧ Below w.heap.size w w' := by
  have hw := RWords_any s0 hs
  rw [hD] at hw
  have hbr0 := Blk.new w 24 zeroD.cells
  have hb0 := below_alloc1 w (.cells zeroD.cells 24)
  go_enter Tryd.func18, Tryd.ntmps18
  go_wp2_with (first
    | (refine wpList_alloc_agg rfl 24 rfl zeroD.cells zeroR ?_)
    | (go_at_call 43; (with_reducible refine (hw _).mono ?_); clear hw; rintro e w1 ⟨v, rfl, hown, hb1⟩; have hbr1 := hbr0.below hb1 hbr0.lt; obtain ⟨p, c, rfl, _⟩ := id (RV.of_own hown))
    | (refine wpList_store_row rfl 24 _ _ rfl w.heap.size zeroD.cells rfl rfl 24 _ hbr1 (sizeD _) rfl (oneD _) ?_))
  refine bodyPost_ret (results_row_tmp rfl _ _ w.heap.size 24 zeroD.cells (0, 0) _ rfl (hbr1.row _) Tryd.underlying24 rfl (sizeD _)) rfl ?_
  exact ⟨rfl, (below_pre hb0 hb1).trans (foot_row _ (Nat.le_refl _))⟩

set_option maxHeartbeats 1000000 in
theorem RParse_word (z : List UInt8) (ws : List (List UInt8)) (hD : wordsGo [] s0.data.toList = z :: ws) (h0 : opOf z = 0) :
    Calls Tryd.prog 18 #[.string s0] w fun e w' => e = .returned (.tuple #[.agg zeroD.cells, .int .i64 15]) ∧ Below w.heap.size w w' := by
  have hw := RWords_any s0 hs
  rw [hD] at hw
  have hbr0 := Blk.new w 24 zeroD.cells
  have hb0 := below_alloc1 w (.cells zeroD.cells 24)
  obtain ⟨Z, hZ⟩ : ∃ Z : ByteArray, Z = ⟨z.toArray⟩ := ⟨_, rfl⟩
  have hop := rop_any Z
  rw [show Z.data.toList = z by rw [hZ]] at hop
  have HZ := Lib.hid hZ
  rw [h0] at hop
  clear h0 hs hD hZ
  go_enter Tryd.func18, Tryd.ntmps18
  go_wp2_with (first
    | (refine wpList_alloc_agg rfl 24 rfl zeroD.cells zeroR ?_)
    | (go_at_call 43; (with_reducible refine (hw _).mono ?_); clear hw; rintro e w1 ⟨v, rfl, hown, hb1⟩; have hbr1 := hbr0.below hb1 hbr0.lt; have hrr : RV w1 (fun b => b < w1.heap.size) _ _ 1 _ := (RV.of_own hown).mono (fun k hk _ => hk); obtain ⟨p, c, rfl, hnc, _⟩ := id hrr; obtain ⟨b, off, rfl, hbl, _, hcell1⟩ := hrr.at1 0 (sV z) rfl; rw [Nat.add_zero, sV, ← HZ.out] at hcell1; rw [List.length_cons] at hnc; have g : Hid (Below w1.heap.size w1 w1) := Lib.hid (Below.refl _ _); have hcell := hcell1)
    | (go_at_call 44; (with_reducible refine (hop _).mono ?_); rintro e w2 ⟨rfl, hb2⟩; replace g := Lib.hid (g.out.trans (hb2.mono g.out.size)); clear hb2 hcell; have hcell := (g.out.cell (p := ⟨b, off, none⟩) hbl).trans hcell1)
    | (have hbr2 := hbr1.below g.out hbr1.lt; refine wpList_store_row rfl 24 _ _ rfl w.heap.size zeroD.cells rfl rfl 24 _ hbr2 (sizeD _) rfl (oneD _) ?_))
  have hbr2 := hbr1.below g.out hbr1.lt
  refine bodyPost_ret (results_row_tmp rfl _ _ w.heap.size 24 zeroD.cells (0, 0) _ rfl (hbr2.row _) Tryd.underlying24 rfl (sizeD _)) rfl ?_
  exact ⟨rfl, (below_pre (below_pre hb0 hb1) g.out).trans (foot_row _ (Nat.le_refl _))⟩

set_option maxHeartbeats 2000000 in
theorem RParse_form (z : List UInt8) (ws : List (List UInt8)) (hD : wordsGo [] s0.data.toList = z :: ws) (h0 : ¬ opOf z = 0) (hl : lenOk (opOf z) (opr (opOf z)).length ws.length = false) :
    Calls Tryd.prog 18 #[.string s0] w fun e w' => e = .returned (.tuple #[.agg zeroD.cells, .int .i64 3]) ∧ Below w.heap.size w w' := by
  have hw := RWords_any s0 hs
  rw [hD] at hw
  have hbr0 := Blk.new w 24 zeroD.cells
  have hb0 := below_alloc1 w (.cells zeroD.cells 24)
  obtain ⟨Z, hZ⟩ : ∃ Z : ByteArray, Z = ⟨z.toArray⟩ := ⟨_, rfl⟩
  have hop := rop_any Z
  rw [show Z.data.toList = z by rw [hZ]] at hop
  have HZ := Lib.hid hZ
  have hparts := Parts_any (opOf z : Int) (opOf_isOp z h0)
  have hsz := partsL_size (opOf z : Int)
  have h5 := opr_len (opOf z : Int) (opOf_isOp z h0)
  have hcase : (¬ ws.length = (opr (opOf z)).length ∧ ¬ ws.length + 1 = (opr (opOf z)).length) ∨ (¬ ws.length = (opr (opOf z)).length ∧ ¬ opOf z = 2) := by
    unfold lenOk at hl
    simp only [Bool.or_eq_false_iff, beq_eq_false_iff_ne, Bool.and_eq_false_iff] at hl
    omega
  unfold sV at hparts
  generalize (ByteArray.mk (partsL (opOf z : Int)).toArray) = s at *
  generalize (opr (opOf z : Int)).length = n at *
  generalize opOf z = op at *
  have hn0 : ((op : Int) == 0) = false := by rw [beq_eq_false_iff_ne]; omega
  have hne : ((ws.length : Int) + 1 != (n : Int) + 1) = true := by simp; omega
  have hwl : ws.length ≤ 999 := by have := (words_small s0.data.toList hs).1; rw [hD] at this; simp at this; omega
  clear h0 hs hD hZ hl
  have htt : ((op : Int) == 2) = false ∨ (((op : Int) == 2) = true ∧ (((ws.length : Int) + 1) == (n : Int)) = false) := by
    by_cases h2 : op = 2
    · subst h2
      exact .inr ⟨rfl, by rw [beq_eq_false_iff_ne]; omega⟩
    · exact .inl (by rw [beq_eq_false_iff_ne]; omega)
  clear hcase
  rcases htt with t2 | ⟨t2, t3⟩
  all_goals
    go_enter Tryd.func18, Tryd.ntmps18
    go_wp2_with (first
      | (refine wpList_alloc_agg rfl 24 rfl zeroD.cells zeroR ?_)
      | (go_at_call 43; (with_reducible refine (hw _).mono ?_); clear hw; rintro e w1 ⟨v, rfl, hown, hb1⟩; have hbr1 := hbr0.below hb1 hbr0.lt; have hrr : RV w1 (fun b => b < w1.heap.size) _ _ 1 _ := (RV.of_own hown).mono (fun k hk _ => hk); obtain ⟨p, c, rfl, hnc, _⟩ := id hrr; obtain ⟨b, off, rfl, hbl, _, hcell1⟩ := hrr.at1 0 (sV z) rfl; rw [Nat.add_zero, sV, ← HZ.out] at hcell1; rw [List.length_cons] at hnc; have g : Hid (Below w1.heap.size w1 w1) := Lib.hid (Below.refl _ _); have hcell := hcell1)
      | (go_at_call 44; (with_reducible refine (hop _).mono ?_); rintro e w2 ⟨rfl, hb2⟩; replace g := Lib.hid (g.out.trans (hb2.mono g.out.size)); clear hb2 hcell; have hcell := (g.out.cell (p := ⟨b, off, none⟩) hbl).trans hcell1)
      | (refine wpList_store_row rfl 24 _ _ rfl w2.heap.size (opD (op : Int)).cells rfl rfl 24 _ (heap_alloc_new w2 _) (sizeD _) rfl (oneD _) ?_; rw [World.setRow_alloc_new]; have hcd : (w2.alloc (.cells (opD (op : Int)).cells 24)).cell? ⟨w2.heap.size, 0, none⟩ = some (.int .i64 (op : Int)) := (Blk.new w2 24 (opD (op : Int)).cells).cell 0)
      | (go_at_call 40; (with_reducible refine (hparts _).mono ?_); clear hparts hcd; rintro e w4 ⟨rfl, hb4⟩; have hbd4 := (Blk.new w2 24 (opD (op : Int)).cells).below hb4 (by simp); have hcd : w4.cell? ⟨w2.heap.size, 0, none⟩ = some (.int .i64 (op : Int)) := hbd4.cell 0)
      | (have hbr4 : Blk w4 w.heap.size 24 zeroD.cells := ((hbr1.below g.out hbr1.lt).alloc _).below hb4 (by have := (hbr1.below g.out hbr1.lt).lt; simp; omega); refine wpList_store_row rfl 24 _ _ rfl w.heap.size zeroD.cells rfl rfl 24 _ hbr4 (sizeD _) rfl (oneD _) ?_))
    have hbr4 : Blk w4 w.heap.size 24 zeroD.cells := ((hbr1.below g.out hbr1.lt).alloc _).below hb4 (by have := (hbr1.below g.out hbr1.lt).lt; simp; omega)
    refine bodyPost_ret (results_row_tmp rfl _ _ w.heap.size 24 zeroD.cells (0, 0) _ rfl (hbr4.row _) Tryd.underlying24 rfl (sizeD _)) rfl ?_
    have hbw2 : Below w.heap.size w w2 := below_pre (below_pre hb0 hb1) g.out
    exact ⟨rfl, (below_pre (hbw2.alloc hbw2.size _) hb4).trans (foot_row _ (Nat.le_refl _))⟩
end
end Go.Proofs.YtbjmdcjoaapmiaaDoor
