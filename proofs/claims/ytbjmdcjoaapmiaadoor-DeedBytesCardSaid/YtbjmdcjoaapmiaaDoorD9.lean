/- The contract of the reference's only. -/
import Derived.Test.YtbjmdcjoaapmiaaDoorD6
import Derived.Test.YtbjmdcjoaapmiaaDoorB4
namespace Go.Proofs.YtbjmdcjoaapmiaaDoor
open Go.RowKit

theorem mk_list (l : List UInt8) : (ByteArray.mk l.toArray).data.toList = l := rfl
theorem partsL_size (op : Int) : (ByteArray.mk (partsL op).toArray).size = (opr op).length := by
  rw [size_mk]; unfold partsL; simp
theorem parts_ix (op : Int) (k o : Nat) (h : (opr op)[k]? = some o) (W : World) : (Instr.index 9 (.string ⟨(partsL op).toArray⟩) (.int .i64 (k : Int))).run Tryd.prog W = .ok (.int .u8 ((letterN o).toNat : Int)) W := by
  have hk := (List.getElem?_eq_some_iff.1 h).1
  have hk2 : k < (ByteArray.mk (partsL op).toArray).size := by rw [partsL_size]; exact hk
  rw [run_ix _ k hk2]
  have := byte_at (ByteArray.mk (partsL op).toArray) k hk2
  rw [mk_list] at this
  have h2 : (partsL op)[k]? = some (letterN o) := by unfold partsL; rw [List.getElem?_map, h]; rfl
  rw [h2] at this
  rw [← Option.some.inj this]

set_option maxHeartbeats 4000000 in
theorem only_any (d : Deed) (ho : isOp d.op = true) (w : World) :
    Calls Tryd.prog 31 #[d.val] w fun e w' => e = .returned (onlyD d).val ∧ Below w.heap.size w w' := by
  have hparts := Parts_any d.op ho
  have h7 := Lib.hid (opr_lt d.op ho)
  have h5 := opr_len d.op ho
  have hix := Lib.hid (parts_ix d.op)
  have hsz := partsL_size d.op
  have hE : cpAll ((opr d.op).drop 0) d (opD d.op) = onlyD d := rfl
  unfold sV at hparts
  generalize (ByteArray.mk (partsL d.op).toArray) = s at *
  generalize onlyD d = E at *
  generalize opr d.op = os at *
  have HE := Lib.hid hE
  clear hE ho
  have hb0 := Blk.new w 24 d.cells
  have hc0 : ((w.alloc (.cells d.cells 24)).alloc (.cells zeroD.cells 24)).cell? ⟨w.heap.size, 0, none⟩ = some (.int .i64 d.op) := (hb0.alloc _).cell 0
  have hb3 : Blk (((w.alloc (.cells d.cells 24)).alloc (.cells zeroD.cells 24)).alloc (.cells (opD d.op).cells 24)) w.heap.size 24 d.cells := (hb0.alloc _).alloc _
  have hc1 : (((w.alloc (.cells d.cells 24)).alloc (.cells zeroD.cells 24)).alloc (.cells (opD d.op).cells 24)).cell? ⟨w.heap.size, 0, none⟩ = some (.int .i64 d.op) := hb3.cell 0
  have hr3 : Blk (((w.alloc (.cells d.cells 24)).alloc (.cells zeroD.cells 24)).alloc (.cells (opD d.op).cells 24)) (w.heap.size + 1) 24 zeroD.cells := (two_new w _ _ _).alloc _
  have he3 : Blk (((w.alloc (.cells d.cells 24)).alloc (.cells zeroD.cells 24)).alloc (.cells (opD d.op).cells 24)) (w.heap.size + 2) 24 (opD d.op).cells := by
    have := Blk.new ((w.alloc (.cells d.cells 24)).alloc (.cells zeroD.cells 24)) 24 (opD d.op).cells
    rwa [show ((w.alloc (.cells d.cells 24)).alloc (.cells zeroD.cells 24)).heap.size = w.heap.size + 2 by simp] at this
  have hbb : Below w.heap.size w (((w.alloc (.cells d.cells 24)).alloc (.cells zeroD.cells 24)).alloc (.cells (opD d.op).cells 24)) := (below_alloc2 w _ _).alloc (by simp; omega) _
  simp only [Deed.val]
  go_enter Tryd.func31, Tryd.ntmps31
  go_wp2_with (first
    | (refine wpList_box_agg rfl 24 _ rfl d.cells rfl ?_)
    | (refine wpList_alloc_agg rfl 24 rfl zeroD.cells zeroR ?_)
    | (refine wpList_store_row rfl 24 _ _ rfl ((w.alloc (.cells d.cells 24)).alloc (.cells zeroD.cells 24)).heap.size (opD d.op).cells rfl rfl 24 _ (heap_alloc_new _ _) (sizeD _) rfl (oneD _) ?_; rw [World.setRow_alloc_new])
    | (go_at_call 40; with_reducible refine (hparts _).mono ?_; clear hparts; rintro e w1 ⟨rfl, hb1⟩))
  have hb4 := hb3.below hb1 hb3.lt
  have hr4 := hr3.below hb1 hr3.lt
  have he4 := he3.below hb1 he3.lt
  have hbw := below_pre hbb hb1
  have hlt4 := he4.lt
  clear hb0 hb3 hr3 he3 hbb hb1 hc0 hc1
  go_loopw [5] (fun t wr => ∃ (k : Nat) (ek : Deed), k ≤ os.length ∧ t = .int .i64 k ∧ Hid (cpAll (os.drop k) d ek = E) ∧ Blk wr (w.heap.size + 2) 24 ek.cells ∧ Foot (fun b => b = w.heap.size + 2) w1 wr) (fun t _ => os.length - (intOf t).toNat)
  case atStart => exact ⟨0, opD d.op, by omega, rfl, HE, he4, Foot.refl _ _⟩
  case round =>
    obtain ⟨k, ek, hk, rfl, hc, hbe, hfoot⟩ := hrel
    have hbw2 : Below w.heap.size w wr := hbw.trans (hfoot.below (B := w.heap.size) (by omega) (fun b hb => by omega))
    have hbd := hb4.foot hfoot (by omega)
    have hbr := hr4.foot hfoot (by omega)
    by_cases hlt : k < os.length
    · obtain ⟨o, ho1⟩ : ∃ o, os[k]? = some o := ⟨_, List.getElem?_eq_getElem hlt⟩
      have ho7 := h7.out o (List.mem_of_getElem? ho1)
      have hc2 := hc.out
      rw [drop_cons os k o ho1, cpAll] at hc2
      have HC2 := Lib.hid hc2
      have hi := hix.out k o ho1
      clear hc2 hc ho1
      have HBE := Lib.hid hbe
      have HBD := Lib.hid hbd
      clear hbe hbd
      have c1 : wr.cell? ⟨w.heap.size, 1, none⟩ = some (.int .i64 d.a) := HBD.out.cell 1
      have c2 : wr.cell? ⟨w.heap.size, 2, none⟩ = some (.int .i64 d.b) := HBD.out.cell 2
      have c3 : wr.cell? ⟨w.heap.size, 3, none⟩ = some (.int .i64 d.r) := HBD.out.cell 3
      have c4 : wr.cell? ⟨w.heap.size, 4, none⟩ = some (.int .u64 (d.n : Int)) := HBD.out.cell 4
      have c5 : wr.cell? ⟨w.heap.size, 5, none⟩ = some (.int .u64 (d.mask : Int)) := HBD.out.cell 5
      have c6 : wr.cell? ⟨w.heap.size, 6, none⟩ = some (.bool d.loose) := HBD.out.cell 6
      have e1 : wr.cell? ⟨w.heap.size + 2, 1, none⟩ = some (.int .i64 ek.a) := HBE.out.cell 1
      have e2 : wr.cell? ⟨w.heap.size + 2, 2, none⟩ = some (.int .i64 ek.b) := HBE.out.cell 2
      have e3 : wr.cell? ⟨w.heap.size + 2, 3, none⟩ = some (.int .i64 ek.r) := HBE.out.cell 3
      have e4 : wr.cell? ⟨w.heap.size + 2, 4, none⟩ = some (.int .u64 (ek.n : Int)) := HBE.out.cell 4
      have e5 : wr.cell? ⟨w.heap.size + 2, 5, none⟩ = some (.int .u64 (ek.mask : Int)) := HBE.out.cell 5
      have e6 : wr.cell? ⟨w.heap.size + 2, 6, none⟩ = some (.bool ek.loose) := HBE.out.cell 6
      have f1 := HBE.out.frozen 1
      have f2 := HBE.out.frozen 2
      have f3 := HBE.out.frozen 3
      have f4 := HBE.out.frozen 4
      have f5 := HBE.out.frozen 5
      have f6 := HBE.out.frozen 6
      rcases o_cases ho7 with rfl | rfl | rfl | rfl | rfl | rfl | rfl
      · replace hi : ∀ W, (Instr.index 9 (.string s) (.int .i64 (k : Int))).run Tryd.prog W = .ok (.int .u8 65) W := hi
        go_wp2
        go_roundw
        case rel => exact ⟨k + 1, _, by omega, by go_num, HC2, (blk_put HBE.out 1 _ rfl).1, hfoot.trans (blk_put HBE.out 1 _ rfl).2⟩
        case measure => simp [intOf]; omega
      · replace hi : ∀ W, (Instr.index 9 (.string s) (.int .i64 (k : Int))).run Tryd.prog W = .ok (.int .u8 66) W := hi
        go_wp2
        go_roundw
        case rel => exact ⟨k + 1, _, by omega, by go_num, HC2, (blk_put HBE.out 2 _ rfl).1, hfoot.trans (blk_put HBE.out 2 _ rfl).2⟩
        case measure => simp [intOf]; omega
      · replace hi : ∀ W, (Instr.index 9 (.string s) (.int .i64 (k : Int))).run Tryd.prog W = .ok (.int .u8 82) W := hi
        go_wp2
        go_roundw
        case rel => exact ⟨k + 1, _, by omega, by go_num, HC2, (blk_put HBE.out 3 _ rfl).1, hfoot.trans (blk_put HBE.out 3 _ rfl).2⟩
        case measure => simp [intOf]; omega
      · replace hi : ∀ W, (Instr.index 9 (.string s) (.int .i64 (k : Int))).run Tryd.prog W = .ok (.int .u8 78) W := hi
        go_wp2
        go_roundw
        case rel => exact ⟨k + 1, _, by omega, by go_num, HC2, (blk_put HBE.out 4 _ rfl).1, hfoot.trans (blk_put HBE.out 4 _ rfl).2⟩
        case measure => simp [intOf]; omega
      · replace hi : ∀ W, (Instr.index 9 (.string s) (.int .i64 (k : Int))).run Tryd.prog W = .ok (.int .u8 78) W := hi
        go_wp2
        go_roundw
        case rel => exact ⟨k + 1, _, by omega, by go_num, HC2, (blk_put HBE.out 4 _ rfl).1, hfoot.trans (blk_put HBE.out 4 _ rfl).2⟩
        case measure => simp [intOf]; omega
      · replace hi : ∀ W, (Instr.index 9 (.string s) (.int .i64 (k : Int))).run Tryd.prog W = .ok (.int .u8 77) W := hi
        go_wp2
        go_roundw
        case rel => exact ⟨k + 1, _, by omega, by go_num, HC2, (blk_put HBE.out 5 _ rfl).1, hfoot.trans (blk_put HBE.out 5 _ rfl).2⟩
        case measure => simp [intOf]; omega
      · replace hi : ∀ W, (Instr.index 9 (.string s) (.int .i64 (k : Int))).run Tryd.prog W = .ok (.int .u8 76) W := hi
        go_wp2
        go_roundw
        case rel => exact ⟨k + 1, _, by omega, by go_num, HC2, (blk_put HBE.out 6 _ rfl).1, hfoot.trans (blk_put HBE.out 6 _ rfl).2⟩
        case measure => simp [intOf]; omega
    · obtain rfl : k = os.length := by omega
      have hc2 := hc.out
      rw [List.drop_length, cpAll] at hc2
      subst hc2
      clear hc
      go_wp2_with (first
        | (refine wpList_load_row rfl 24 _ rfl (w.heap.size + 2) rfl 24 _ (0, 0) _ hbe Tryd.underlying24 rfl (sizeD _) ?_)
        | (refine wpList_store_row rfl 24 _ _ rfl (w.heap.size + 1) ek.cells rfl rfl 24 _ hbr (sizeD _) rfl (oneD _) ?_))
      refine bodyPost_ret (results_cell_row rfl _ _ (w.heap.size + 1) 24 ek.cells (0, 0) _ rfl (hbr.row _) Tryd.underlying24 rfl (sizeD _)) rfl ?_
      exact ⟨rfl, hbw2.trans (foot_row _ (by omega))⟩
end Go.Proofs.YtbjmdcjoaapmiaaDoor
