/- The contract of the reference's Bytes. The contracts of an operand's get and of deed's Get. The contract of deed's Get, its loop. The contract of the reference's Get, where it ends ahead of its loop. The contract of the reference's Get, its loop. The contract of the reference's Get. -/
import Derived.Test.YtbdimfcdpkldpaaGreatDoorD24
import Derived.Test.YtbdimfcdpkldpaaGreatDoorD15
import Derived.Test.YtbdimfcdpkldpaaGreatDoorLD1
import Derived.Test.YtbdimfcdpkldpaaGreatDoorLM1
import Derived.Test.YtbdimfcdpkldpaaGreatDoorLWR
import Derived.Test.YtbdimfcdpkldpaaGreatDoorLB
import Derived.Test.YtbdimfcdpkldpaaGreatDoorLD2
namespace Go.Proofs.YtbdimfcdpkldpaaGreatDoor
open Go.RowKit

theorem byte_of (z : Int) (h0 : 0 ≤ z) : z % 256 = ((UInt8.ofNat (wrapN z)).toNat : Int) := by
  rw [← byte_wrap, wrapN_back z h0]

set_option maxRecDepth 100000 in
set_option maxHeartbeats 8000000 in
theorem RBytes_any (d : Deed) (hd : d.ok) (hg : goodD d = true) (w : World) :
    Calls Tryz.prog 96 #[d.val] w fun e w' => ∃ v, e = .returned v ∧ w'.ownsRow w.heap.size 5 1 v (bytesD d).length ((bytesD d).map Wire.bV) ∧ Below w.heap.size w w' := by
  obtain ⟨i0, hi0, hz0, hz1, hz2⟩ := info_parts Wire.infoB
  have hop := good_op hg
  have hparts := Parts_any d.op hop
  have h7 := Lib.hid (opr_lt d.op hop)
  have h5 := opr_len d.op hop
  have hix := Lib.hid (parts_ix d.op)
  have hsz := partsL_size d.op
  have h14 := bytesD_40 d hd hop
  have hrange : 0 ≤ d.a ∧ 0 ≤ d.b ∧ 0 ≤ d.r := by
    unfold goodD rangeD at hg
    simp only [Bool.and_eq_true, decide_eq_true_eq] at hg
    exact ⟨hg.2.1.1.1.1.1, hg.2.1.1.1.2, hg.2.1.2⟩
  have ha := Lib.hid (byte_of d.a hrange.1)
  have hb := Lib.hid (byte_of d.b hrange.2.1)
  have hr := Lib.hid (byte_of d.r hrange.2.2)
  have ho0 : ((d.op : Int) % 256) = ((UInt8.ofNat d.op.toNat).toNat : Int) := by
    rw [← byte_wrap]
    rcases isOp_cases hop with h | h | h | h | h | h | h | h | h | h | h <;> rw [h] <;> rfl
  have HO0 := Lib.hid ho0
  have hL : Hid ([UInt8.ofNat d.op.toNat] ++ (opr d.op).flatMap (fun o => putB o (ofD o d)) = bytesD d) := Lib.hid rfl
  generalize bytesD d = L at *
  have hblk0 := Blk.new w 109 d.cells
  have hb0 := below_alloc1 w (.cells d.cells 109)
  clear hg hop hrange ho0
  simp only [Deed.val]
  unfold sV at hparts
  generalize (ByteArray.mk (partsL d.op).toArray) = s at *
  generalize opr d.op = os at *
  have hc0 : (w.alloc (.cells d.cells 109)).cell? ⟨w.heap.size, 0, none⟩ = some (.int .i64 d.op) := hblk0.cell 0
  have hblk1 := hblk0.alloc (.cells #[.int .u8 (d.op % 256)] 5)
  have hc1 : ((w.alloc (.cells d.cells 109)).alloc (.cells #[.int .u8 (d.op % 256)] 5)).cell? ⟨w.heap.size, 0, none⟩ = some (.int .i64 d.op) := hblk1.cell 0
  have hbel1 := below_alloc2 w (.cells d.cells 109) (.cells #[.int .u8 (d.op % 256)] 5)
  have hl1 := World.ownsRow_lit (e := 5) (size := 1) (w.alloc (.cells d.cells 109)) #[.int .u8 (d.op % 256)] 1 (Nat.le_refl _) (by decide) rfl
  go_enter Tryz.func96, Tryz.ntmps96
  go_wp2_with (first
    | (refine wpList_box_agg rfl 109 _ rfl d.cells rfl ?_)
    | (go_at_call 114; (with_reducible refine (hparts _).mono ?_); clear hparts; rintro e w3 ⟨rfl, hb3⟩))
  have hblk3 := hblk1.below hb3 hblk1.lt
  have hbw3 : Below w.heap.size w w3 := below_pre hbel1 hb3
  have hown3 := own_mono (ownsRow_below hl1 hb3 (Nat.le_refl _)) (show w.heap.size ≤ _ by simp)
  rw [show (w.alloc (.cells d.cells 109)).heap.size = w.heap.size + 1 by simp] at hown3
  clear hblk0 hblk1 hc0 hc1 hb0 hb3 hbel1 hl1
  go_loopw [3, 5] (fun v t wr => ∃ (k : Nat) (pre : List UInt8), k ≤ os.length ∧ t = .int .i64 k ∧ Hid (pre ++ (os.drop k).flatMap (fun o => putB o (ofD o d)) = L) ∧ wr.ownsRow w.heap.size 5 1 v pre.length (pre.map Wire.bV) ∧ Blk wr w.heap.size 109 d.cells ∧ Below w.heap.size w wr) (fun _ t _ => os.length - (intOf t).toNat)
  case atStart => exact ⟨0, [UInt8.ofNat d.op.toNat], by omega, rfl, hL, by rw [List.map_singleton, Wire.bV, ← HO0.out]; exact hown3, hblk3, hbw3⟩
  case round =>
    clear hL hown3
    obtain ⟨k, pre, hk, rfl, hl, hown, hblk, hbw⟩ := hrel
    have hl2 := hl.out
    have hpl := drop_len hl2
    clear hl
    by_cases hlt : k < os.length
    · obtain ⟨o, ho1⟩ : ∃ o, os[k]? = some o := ⟨_, List.getElem?_eq_getElem hlt⟩
      have ho7 := h7.out o (List.mem_of_getElem? ho1)
      rw [drop_cons os k o ho1, List.flatMap_cons, ← List.append_assoc] at hl2
      have hi := hix.out k o ho1
      have hbs := hbw.size
      have hp14 : pre.length ≤ 14 := by omega
      clear ho1 hpl
      obtain ⟨pv, cv, rfl, _⟩ := id (RV.of_own hown)
      rcases o_cases ho7 with rfl | rfl | rfl | rfl | rfl | rfl | rfl
      · replace hi : ∀ W, (Instr.index 9 (.string s) (.int .i64 (k : Int))).run Tryz.prog W = .ok (.int .u8 65) W := hi
        have hcell : wr.cell? ⟨w.heap.size, 1, none⟩ = some (.int .i64 d.a) := hblk.cell 1
        have HL2 : Hid ((pre ++ [UInt8.ofNat (wrapN d.a)]) ++ (os.drop (k + 1)).flatMap (fun o => putB o (ofD o d)) = L) := Lib.hid hl2
        clear hl2
        go_wp2_with (at_builtin; refine wpList_append_lits rfl _ _ 38 rfl w.heap.size 5 i0 (.int .u8 0) 1 Tryz.underlying38 hi0 hz0 hz1 hz2 rfl (by decide) hown rfl _ rfl rfl rfl (by omega) (by omega) ?_; intro v' w6 hown6 hb6 _ hf6)
        go_roundw
        case rel => exact ⟨k + 1, pre ++ [UInt8.ofNat (wrapN d.a)], by omega, by go_num, HL2, by rw [List.length_append, List.map_append, List.map_singleton, Wire.bV, ← ha.out]; exact hown6, hblk.foot hf6 (own_ne_blk hown hblk (by decide)), hbw.trans hb6⟩
        case measure => simp [intOf]; omega
      · replace hi : ∀ W, (Instr.index 9 (.string s) (.int .i64 (k : Int))).run Tryz.prog W = .ok (.int .u8 66) W := hi
        have hcell : wr.cell? ⟨w.heap.size, 2, none⟩ = some (.int .i64 d.b) := hblk.cell 2
        have HL2 : Hid ((pre ++ [UInt8.ofNat (wrapN d.b)]) ++ (os.drop (k + 1)).flatMap (fun o => putB o (ofD o d)) = L) := Lib.hid hl2
        clear hl2
        go_wp2_with (at_builtin; refine wpList_append_lits rfl _ _ 38 rfl w.heap.size 5 i0 (.int .u8 0) 1 Tryz.underlying38 hi0 hz0 hz1 hz2 rfl (by decide) hown rfl _ rfl rfl rfl (by omega) (by omega) ?_; intro v' w6 hown6 hb6 _ hf6)
        go_roundw
        case rel => exact ⟨k + 1, pre ++ [UInt8.ofNat (wrapN d.b)], by omega, by go_num, HL2, by rw [List.length_append, List.map_append, List.map_singleton, Wire.bV, ← hb.out]; exact hown6, hblk.foot hf6 (own_ne_blk hown hblk (by decide)), hbw.trans hb6⟩
        case measure => simp [intOf]; omega
      · replace hi : ∀ W, (Instr.index 9 (.string s) (.int .i64 (k : Int))).run Tryz.prog W = .ok (.int .u8 82) W := hi
        have hcell : wr.cell? ⟨w.heap.size, 3, none⟩ = some (.int .i64 d.r) := hblk.cell 3
        have HL2 : Hid ((pre ++ [UInt8.ofNat (wrapN d.r)]) ++ (os.drop (k + 1)).flatMap (fun o => putB o (ofD o d)) = L) := Lib.hid hl2
        clear hl2
        go_wp2_with (at_builtin; refine wpList_append_lits rfl _ _ 38 rfl w.heap.size 5 i0 (.int .u8 0) 1 Tryz.underlying38 hi0 hz0 hz1 hz2 rfl (by decide) hown rfl _ rfl rfl rfl (by omega) (by omega) ?_; intro v' w6 hown6 hb6 _ hf6)
        go_roundw
        case rel => exact ⟨k + 1, pre ++ [UInt8.ofNat (wrapN d.r)], by omega, by go_num, HL2, by rw [List.length_append, List.map_append, List.map_singleton, Wire.bV, ← hr.out]; exact hown6, hblk.foot hf6 (own_ne_blk hown hblk (by decide)), hbw.trans hb6⟩
        case measure => simp [intOf]; omega
      · replace hi : ∀ W, (Instr.index 9 (.string s) (.int .i64 (k : Int))).run Tryz.prog W = .ok (.int .u8 78) W := hi
        have hcell : wr.cell? ⟨w.heap.size, 4, none⟩ = some (.int .u64 (d.n : Int)) := hblk.cell 4
        have hcl := Wire.RNum_any d.n hd.n wr
        have hln : (Wire.numB d.n).length ≤ 9 := Wire.numB_len _ hd.n
        rw [show putB 3 (ofD 3 d) = Wire.numB d.n from rfl] at hl2
        generalize Wire.numB d.n = q at *
        have HL2 : Hid ((pre ++ q) ++ (os.drop (k + 1)).flatMap (fun o => putB o (ofD o d)) = L) := Lib.hid hl2
        clear hl2
        go_wp2_with (first
          | (go_at_call 50; (with_reducible refine hcl.mono ?_); clear hcl; rintro e w5 ⟨v5, rfl, hown5, hb5⟩; have hr5 := RV.of_own hown5; obtain ⟨p5, c5, rfl, _⟩ := id hr5; have hownv := ownsRow_below hown hb5 (Nat.le_refl _))
          | (at_builtin; refine wpList_append_rv _ rfl _ _ 38 rfl w.heap.size 5 i0 (.int .u8 0) 1 1 Tryz.underlying38 hi0 hz0 hz1 hz2 rfl (by decide) _ _ _ rfl hownv _ _ _ _ rfl hr5 (all_one Wire.bV Wire.bV_one _) (by unfold maxLen; omega) (by omega) (by have := hb5.size; omega) ?_; intro v' w6 hown6 hgrow0 _; have hgrow : World.grownBy w5 w6 (Value.slice pv pre.length cv).ownBlock := hgrow0; clear hgrow0))
        have hblk5 := hblk.below hb5 hblk.lt
        have hbw5 : Below w.heap.size w w5 := hbw.trans (hb5.mono hbw.size)
        go_roundw
        case rel => exact ⟨k + 1, pre ++ q, by omega, by go_num, HL2, by rw [List.length_append, List.map_append]; exact hown6, hblk5.foot (Foot.of_grown hgrow) (own_ne_blk hownv hblk5 (by decide)), hbw5.grown hgrow hbw5.size (fun j hj => (hownv.lt j hj).1)⟩
        case measure => simp [intOf]; omega
      · replace hi : ∀ W, (Instr.index 9 (.string s) (.int .i64 (k : Int))).run Tryz.prog W = .ok (.int .u8 78) W := hi
        have hcell : wr.cell? ⟨w.heap.size, 4, none⟩ = some (.int .u64 (d.n : Int)) := hblk.cell 4
        have hcl := Wire.RNum_any d.n hd.n wr
        have hln : (Wire.numB d.n).length ≤ 9 := Wire.numB_len _ hd.n
        rw [show putB 4 (ofD 4 d) = Wire.numB d.n from rfl] at hl2
        generalize Wire.numB d.n = q at *
        have HL2 : Hid ((pre ++ q) ++ (os.drop (k + 1)).flatMap (fun o => putB o (ofD o d)) = L) := Lib.hid hl2
        clear hl2
        go_wp2_with (first
          | (go_at_call 50; (with_reducible refine hcl.mono ?_); clear hcl; rintro e w5 ⟨v5, rfl, hown5, hb5⟩; have hr5 := RV.of_own hown5; obtain ⟨p5, c5, rfl, _⟩ := id hr5; have hownv := ownsRow_below hown hb5 (Nat.le_refl _))
          | (at_builtin; refine wpList_append_rv _ rfl _ _ 38 rfl w.heap.size 5 i0 (.int .u8 0) 1 1 Tryz.underlying38 hi0 hz0 hz1 hz2 rfl (by decide) _ _ _ rfl hownv _ _ _ _ rfl hr5 (all_one Wire.bV Wire.bV_one _) (by unfold maxLen; omega) (by omega) (by have := hb5.size; omega) ?_; intro v' w6 hown6 hgrow0 _; have hgrow : World.grownBy w5 w6 (Value.slice pv pre.length cv).ownBlock := hgrow0; clear hgrow0))
        have hblk5 := hblk.below hb5 hblk.lt
        have hbw5 : Below w.heap.size w w5 := hbw.trans (hb5.mono hbw.size)
        go_roundw
        case rel => exact ⟨k + 1, pre ++ q, by omega, by go_num, HL2, by rw [List.length_append, List.map_append]; exact hown6, hblk5.foot (Foot.of_grown hgrow) (own_ne_blk hownv hblk5 (by decide)), hbw5.grown hgrow hbw5.size (fun j hj => (hownv.lt j hj).1)⟩
        case measure => simp [intOf]; omega
      · replace hi : ∀ W, (Instr.index 9 (.string s) (.int .i64 (k : Int))).run Tryz.prog W = .ok (.int .u8 77) W := hi
        have hcell : wr.cell? ⟨w.heap.size, 5, none⟩ = some (.int .u64 (d.mask : Int)) := hblk.cell 5
        have hcl := Wire.RNum_any d.mask hd.mask wr
        have hln : (Wire.numB d.mask).length ≤ 9 := Wire.numB_len _ hd.mask
        rw [show putB 5 (ofD 5 d) = Wire.numB d.mask from rfl] at hl2
        generalize Wire.numB d.mask = q at *
        have HL2 : Hid ((pre ++ q) ++ (os.drop (k + 1)).flatMap (fun o => putB o (ofD o d)) = L) := Lib.hid hl2
        clear hl2
        go_wp2_with (first
          | (go_at_call 50; (with_reducible refine hcl.mono ?_); clear hcl; rintro e w5 ⟨v5, rfl, hown5, hb5⟩; have hr5 := RV.of_own hown5; obtain ⟨p5, c5, rfl, _⟩ := id hr5; have hownv := ownsRow_below hown hb5 (Nat.le_refl _))
          | (at_builtin; refine wpList_append_rv _ rfl _ _ 38 rfl w.heap.size 5 i0 (.int .u8 0) 1 1 Tryz.underlying38 hi0 hz0 hz1 hz2 rfl (by decide) _ _ _ rfl hownv _ _ _ _ rfl hr5 (all_one Wire.bV Wire.bV_one _) (by unfold maxLen; omega) (by omega) (by have := hb5.size; omega) ?_; intro v' w6 hown6 hgrow0 _; have hgrow : World.grownBy w5 w6 (Value.slice pv pre.length cv).ownBlock := hgrow0; clear hgrow0))
        have hblk5 := hblk.below hb5 hblk.lt
        have hbw5 : Below w.heap.size w w5 := hbw.trans (hb5.mono hbw.size)
        go_roundw
        case rel => exact ⟨k + 1, pre ++ q, by omega, by go_num, HL2, by rw [List.length_append, List.map_append]; exact hown6, hblk5.foot (Foot.of_grown hgrow) (own_ne_blk hownv hblk5 (by decide)), hbw5.grown hgrow hbw5.size (fun j hj => (hownv.lt j hj).1)⟩
        case measure => simp [intOf]; omega
      · replace hi : ∀ W, (Instr.index 9 (.string s) (.int .i64 (k : Int))).run Tryz.prog W = .ok (.int .u8 76) W := hi
        have hcell : wr.cell? ⟨w.heap.size, 6, none⟩ = some (.bool d.loose) := hblk.cell 6
        have hcl := Wire.RTruth_any d.loose wr
        have hln : (Wire.truB d.loose).length ≤ 9 := by unfold Wire.truB; simp
        rw [show putB 6 (ofD 6 d) = Wire.truB d.loose by unfold putB ofD; cases d.loose <;> rfl] at hl2
        generalize Wire.truB d.loose = q at *
        have HL2 : Hid ((pre ++ q) ++ (os.drop (k + 1)).flatMap (fun o => putB o (ofD o d)) = L) := Lib.hid hl2
        clear hl2
        go_wp2_with (first
          | (go_at_call 134; (with_reducible refine hcl.mono ?_); clear hcl; rintro e w5 ⟨v5, rfl, hown5, hb5⟩; have hr5 := RV.of_own hown5; obtain ⟨p5, c5, rfl, _⟩ := id hr5; have hownv := ownsRow_below hown hb5 (Nat.le_refl _))
          | (at_builtin; refine wpList_append_rv _ rfl _ _ 38 rfl w.heap.size 5 i0 (.int .u8 0) 1 1 Tryz.underlying38 hi0 hz0 hz1 hz2 rfl (by decide) _ _ _ rfl hownv _ _ _ _ rfl hr5 (all_one Wire.bV Wire.bV_one _) (by unfold maxLen; omega) (by omega) (by have := hb5.size; omega) ?_; intro v' w6 hown6 hgrow0 _; have hgrow : World.grownBy w5 w6 (Value.slice pv pre.length cv).ownBlock := hgrow0; clear hgrow0))
        have hblk5 := hblk.below hb5 hblk.lt
        have hbw5 : Below w.heap.size w w5 := hbw.trans (hb5.mono hbw.size)
        go_roundw
        case rel => exact ⟨k + 1, pre ++ q, by omega, by go_num, HL2, by rw [List.length_append, List.map_append]; exact hown6, hblk5.foot (Foot.of_grown hgrow) (own_ne_blk hownv hblk5 (by decide)), hbw5.grown hgrow hbw5.size (fun j hj => (hownv.lt j hj).1)⟩
        case measure => simp [intOf]; omega
    · obtain rfl : k = os.length := by omega
      rw [List.drop_length, List.flatMap_nil, List.append_nil] at hl2
      subst hl2
      go_wp2
      go_ret
      exact ⟨_, rfl, hown, hbw⟩
end Go.Proofs.YtbdimfcdpkldpaaGreatDoor

namespace Go.Proofs.YtbdimfcdpkldpaaGreatDoor
open Go.RowKit
open Wire (RS rdByte rdNum truth RdAt RdOut)

set_option maxHeartbeats 1000000 in
theorem get_any (o r : Nat) (ho : o < 7) (st : RS) (w : World) (h : RdAt w r st) :
    Calls Tryz.prog 176 #[.int .i64 o, .pointer (some ⟨r, 0, none⟩)] w fun e w' => e = .returned (.int .u64 ((getO o st).2 : Nat)) ∧ RdOut w w' r (getO o st).1 := by
  by_cases h2 : o ≤ 2
  · have hb := Wire.RByte_any r st w h
    have hs := Wire.rdByte_snd st
    rw [show getO o st = rdByte st by unfold getO; rw [if_pos h2]]
    generalize rdByte st = q at *
    clear h
    obtain rfl | rfl | rfl : o = 0 ∨ o = 1 ∨ o = 2 := by omega
    all_goals
      go_enter Tryz.func176, Tryz.ntmps176
      go_wp2_with (go_at_call 156; (with_reducible refine hb.mono ?_); clear hb; rintro e w' ⟨rfl, hs⟩)
      go_ret
      exact ⟨rfl, hs⟩
  · by_cases h6 : o = 6
    · subst h6
      have hb := Wire.RTruth_any' r st w h
      rw [show getO 6 st = ((truth (rdByte st)).1, if (truth (rdByte st)).2 = true then 1 else 0) from rfl]
      generalize truth (rdByte st) = q at *
      obtain ⟨q1, q2⟩ := q
      clear h
      cases q2
      all_goals
        go_enter Tryz.func176, Tryz.ntmps176
        go_wp2_with (go_at_call 182; (with_reducible refine hb.mono ?_); clear hb; rintro e w' ⟨rfl, hs⟩)
        go_ret
        exact ⟨rfl, hs⟩
    · have hb := Wire.RdNum_any r st w h
      rw [show getO o st = rdNum st by unfold getO; rw [if_neg h2, if_neg h6]]
      generalize rdNum st = q at *
      clear h
      obtain rfl | rfl | rfl : o = 3 ∨ o = 4 ∨ o = 5 := by omega
      all_goals
        go_enter Tryz.func176, Tryz.ntmps176
        go_wp2_with (go_at_call 130; (with_reducible refine hb.mono ?_); clear hb; rintro e w' ⟨rfl, hs⟩)
        go_ret
        exact ⟨rfl, hs⟩

set_option maxHeartbeats 400000 in
theorem Get_nil (w : World) :
    Calls Tryz.prog 158 #[.pointer none] w fun e w' => e = .returned (.tuple #[.agg zeroD.cells, .int .i64 14]) ∧ Below w.heap.size w w' := by
  have hbr0 := Blk.new w 109 zeroD.cells
  have hb0 := below_alloc1 w (.cells zeroD.cells 109)
  go_enter Tryz.func158, Tryz.ntmps158
  go_wp2_with (first
    | (refine wpList_alloc_agg rfl 109 rfl zeroD.cells zeroR ?_)
    | (go_at_call 156; (with_reducible refine (Wire.RByte_nil _).mono ?_); rintro e w' ⟨rfl, rfl⟩)
    | (go_at_call 92; (with_reducible refine (Wire.Err_nil _).mono ?_); rintro e w' ⟨rfl, rfl⟩)
    | (refine wpList_store_row rfl 109 _ _ rfl w.heap.size zeroD.cells rfl rfl 109 _ hbr0 (sizeD _) rfl (oneD _) ?_))
  refine bodyPost_ret (results_row_tmp rfl _ _ w.heap.size 109 zeroD.cells (0, 0) _ rfl (hbr0.row _) Tryz.underlying109 rfl (sizeD _)) rfl ?_
  exact ⟨rfl, hb0.trans (foot_row _ (Nat.le_refl _))⟩

theorem Foot.row {S : Nat → Prop} {w w1 : World} (h : Foot S w w1) {g : Nat} (hg : w.heap.size ≤ g) (cs : Array Value) : Foot S w (w1.setRow g cs) := h.then_ (foot_setRow w1 g cs) (fun x (hx : x = g) => .inr (by omega))
theorem rd_row {w : World} {r g : Nat} {st : RS} (h : RdAt w r st) (hg : r < g) (cs : Array Value) : RdAt (w.setRow g cs) r st := h.under (foot_row (B := g) cs (Nat.le_refl _)) hg

section
variable (r : Nat) (st : RS) (w : World) (h : RdAt w r st)
include h
set_option maxHeartbeats 1000000 in
theorem Get_err (hc : ¬ (rdByte st).1.code = 0) :
    Calls Tryz.prog 158 #[.pointer (some ⟨r, 0, none⟩)] w fun e w' => e = .returned (.tuple #[.agg zeroD.cells, .int .i64 ((rdByte st).1.code : Int)]) ∧ RdOut w w' r (rdByte st).1 := by
  have hbr0 := Blk.new w 109 zeroD.cells
  have hrl := h.lt
  have h0 := h.below (below_alloc1 w (.cells zeroD.cells 109)) (Nat.le_refl _)
  have F0 := (Foot.refl (fun k => k = r) w).alloc (.cells zeroD.cells 109)
  have hb := Wire.RByte_any r st _ h0
  have hs := Wire.rdByte_snd st
  generalize rdByte st = q at *
  have he := fun W hW => Wire.Err_any r q.1 W hW
  have ty : ((q.1.code : Int) != 0) = true := by simp; omega
  clear h h0 hc
  go_enter Tryz.func158, Tryz.ntmps158
  go_wp2_with (first
    | (refine wpList_alloc_agg rfl 109 rfl zeroD.cells zeroR ?_)
    | (go_at_call 156; (with_reducible refine hb.mono ?_); clear hb; rintro e w1 ⟨rfl, h1⟩; have hbr1 := hbr0.foot h1.2 (by omega))
    | (go_at_call 92; refine (he _ h1.1).mono ?_; clear he; rintro e w2 ⟨rfl, rfl⟩)
    | (refine wpList_store_row rfl 109 _ _ rfl w.heap.size zeroD.cells rfl rfl 109 _ hbr1 (sizeD _) rfl (oneD _) ?_))
  refine bodyPost_ret (results_row_tmp rfl _ _ w.heap.size 109 zeroD.cells (0, 0) _ rfl (hbr1.row _) Tryz.underlying109 rfl (sizeD _)) rfl ?_
  exact ⟨rfl, rd_row h1.1 hrl _, (F0.trans h1.2).row (Nat.le_refl _) _⟩
set_option maxHeartbeats 1000000 in
theorem Get_op (hc : (rdByte st).1.code = 0) (ho : ¬ isOp (rdByte st).2 = true) :
    Calls Tryz.prog 158 #[.pointer (some ⟨r, 0, none⟩)] w fun e w' => e = .returned (.tuple #[.agg zeroD.cells, .int .i64 3]) ∧ RdOut w w' r (rdByte st).1 := by
  have hbr0 := Blk.new w 109 zeroD.cells
  have hrl := h.lt
  have h0 := h.below (below_alloc1 w (.cells zeroD.cells 109)) (Nat.le_refl _)
  have F0 := (Foot.refl (fun k => k = r) w).alloc (.cells zeroD.cells 109)
  have hb := Wire.RByte_any r st _ h0
  have hs := Wire.rdByte_snd st
  have hop := isOp_any (rdByte st).2
  rw [show isOp (rdByte st).2 = false by simpa using ho] at hop
  generalize rdByte st = q at *
  have he : ∀ W, RdAt W r q.1 → Calls Tryz.prog 92 #[.pointer (some ⟨r, 0, none⟩)] W fun e w' => e = .returned (.int .i64 0) ∧ W = w' := fun W hW => by have := Wire.Err_any r q.1 W hW; rw [hc] at this; exact this
  clear h h0 hc ho
  go_enter Tryz.func158, Tryz.ntmps158
  go_wp2_with (first
    | (refine wpList_alloc_agg rfl 109 rfl zeroD.cells zeroR ?_)
    | (go_at_call 156; (with_reducible refine hb.mono ?_); clear hb; rintro e w1 ⟨rfl, h1⟩; have hbr1 := hbr0.foot h1.2 (by omega))
    | (go_at_call 92; refine (he _ h1.1).mono ?_; clear he; rintro e w2 ⟨rfl, rfl⟩)
    | (go_at_call 141; refine (hop _).mono ?_; clear hop; rintro e w2 ⟨rfl, rfl⟩)
    | (refine wpList_store_row rfl 109 _ _ rfl w.heap.size zeroD.cells rfl rfl 109 _ hbr1 (sizeD _) rfl (oneD _) ?_))
  refine bodyPost_ret (results_row_tmp rfl _ _ w.heap.size 109 zeroD.cells (0, 0) _ rfl (hbr1.row _) Tryz.underlying109 rfl (sizeD _)) rfl ?_
  exact ⟨rfl, rd_row h1.1 hrl _, (F0.trans h1.2).row (Nat.le_refl _) _⟩
end
end Go.Proofs.YtbdimfcdpkldpaaGreatDoor

namespace Go.Proofs.YtbdimfcdpkldpaaGreatDoor
open Go.RowKit
open Wire (RS rdByte rdNum truth RdAt RdOut)

theorem getO_lt (o : Nat) (st : RS) : (getO o st).2 < 18446744073709551616 := by
  unfold getO
  split
  · have := Wire.rdByte_snd st; omega
  · split
    · show (if (truth (rdByte st)).2 = true then 1 else 0) < 18446744073709551616
      split <;> omega
    · exact Wire.rdNum_lt st

set_option maxRecDepth 100000 in
set_option maxHeartbeats 4000000 in
theorem Get_rest (r : Nat) (st : RS) (w : World) (h : RdAt w r st) (hc : (rdByte st).1.code = 0) (ho : isOp (rdByte st).2 = true) (D : Deed) (y : Nat) (S2 : RS)
    (hR : getRest (rdByte st).2 (rdByte st).1 = (S2, D, y)) :
    Calls Tryz.prog 158 #[.pointer (some ⟨r, 0, none⟩)] w fun e w' => e = .returned (.tuple #[.agg D.cells, .int .i64 (y : Int)]) ∧ RdOut w w' r S2 := by
  obtain ⟨i0, hi, hz0, hz1, hz2⟩ := info_parts infoU
  have hbr0 := Blk.new w 109 zeroD.cells
  have hrl := h.lt
  have h0 := h.below (below_alloc1 w (.cells zeroD.cells 109)) (Nat.le_refl _)
  have F0 := (Foot.refl (fun k => k = r) w).alloc (.cells zeroD.cells 109)
  have hb := Wire.RByte_any r st _ h0
  have hs := Wire.rdByte_snd st
  have hop := isOp_any (rdByte st).2
  rw [ho] at hop
  have hops := operands_any ((rdByte st).2 : Int) ho
  have h7 := Lib.hid (opr_lt ((rdByte st).2 : Int) ho)
  have h5 := opr_len ((rdByte st).2 : Int) ho
  have hbu := fun xs hx v G W hv => build_any ((rdByte st).2 : Int) ho xs hx v G W hv
  generalize rdByte st = q at *
  have he : ∀ W, RdAt W r q.1 → Calls Tryz.prog 92 #[.pointer (some ⟨r, 0, none⟩)] W fun e w' => e = .returned (.int .i64 0) ∧ W = w' := fun W hW => by have := Wire.Err_any r q.1 W hW; rw [hc] at this; exact this
  obtain ⟨q1, k0⟩ := q
  simp only at hb hs hop hops h7 h5 hbu he hR
  unfold getRest at hR
  have hll := getAll_len (opr (k0 : Int)) q1
  have hA : getAll ((opr (k0 : Int)).drop 0) q1 = getAll (opr (k0 : Int)) q1 := rfl
  generalize getAll (opr (k0 : Int)) q1 = A at *
  obtain ⟨A1, A2⟩ := A
  simp only [Deed.val] at hR hll hbu
  generalize opr (k0 : Int) = os at *
  have HA1 : Hid ((getAll (os.drop 0) q1).1 = A1) := Lib.hid (by rw [hA])
  have HA2 : Hid ([] ++ (getAll (os.drop 0) q1).2 = A2) := Lib.hid (by rw [hA]; rfl)
  have HR := Lib.hid hR
  have HBU := Lib.hid hbu
  clear h h0 hc ho hR hbu hA
  go_enter Tryz.func158, Tryz.ntmps158
  go_wp2_with (first
    | (refine wpList_alloc_agg rfl 109 rfl zeroD.cells zeroR ?_)
    | (go_at_call 156; (with_reducible refine hb.mono ?_); clear hb; rintro e w1 ⟨rfl, h1⟩; have hbr1 := hbr0.foot h1.2 (by omega))
    | (go_at_call 92; refine (he _ h1.1).mono ?_; clear he; rintro e w2 ⟨rfl, rfl⟩)
    | (go_at_call 141; refine (hop _).mono ?_; clear hop; rintro e w2 ⟨rfl, rfl⟩)
    | (go_at_call 110; (with_reducible refine (hops _).mono ?_); clear hops; rintro e w3 ⟨lv, rfl, hown3, hb3⟩; obtain ⟨p, c, rfl, _⟩ := id (RV.of_own hown3)))
  have hbr3 := hbr1.below hb3 hbr1.lt
  have hrd3 := h1.1.below hb3 (Nat.le_refl _)
  have F3 : Foot (fun k => k = r) w w3 := (F0.trans h1.2).trans (Foot.of_below _ hb3)
  have hs1 : w.heap.size + 1 ≤ w1.heap.size := by have := h1.2.size; simpa using this
  have hs3 := hb3.size
  clear hbr0 hbr1 F0 h1 hb3
  go_loopw [6, 26] (fun v t wr => ∃ (k : Nat) (pre : List Nat) (sk : RS), k ≤ os.length ∧ t = .int .i64 k ∧ pre.length = k ∧ Hid ((getAll (os.drop k) sk).1 = A1) ∧ Hid (pre ++ (getAll (os.drop k) sk).2 = A2) ∧ Hid (RdAt wr r sk) ∧ wr.ownsRow w3.heap.size 22 1 v k (pre.map uV) ∧ Foot (fun k => k = r) w3 wr) (fun _ t _ => os.length - (intOf t).toNat)
  case atStart => exact ⟨0, [], q1, by omega, rfl, rfl, HA1, HA2, Lib.hid hrd3, World.ownsRow_nil _ _ _ _, Foot.refl _ _⟩
  case round =>
    obtain ⟨k, pre, sk, hk, rfl, hpre, ha1, ha2, hrd, hown, hfoot⟩ := hrel
    have hsz := hfoot.size
    by_cases hlt : k < os.length
    · obtain ⟨o, ho1⟩ : ∃ o, os[k]? = some o := ⟨_, List.getElem?_eq_getElem hlt⟩
      have ho7 := h7.out o (List.mem_of_getElem? ho1)
      have ha1' := ha1.out
      have ha2' := ha2.out
      rw [drop_cons os k o ho1, getAll] at ha1' ha2'
      have hget := get_any o r ho7 sk wr hrd.out
      have hown3k := hfoot.own hown3 (fun j hj e => by have := (hown3.lt j hj).1; omega)
      obtain ⟨b, off, rfl, _, _, hcell0⟩ := (RV.of_own hown3k).at1 k (oV o) (by rw [List.getElem?_map, ho1]; rfl)
      have hcell : wr.cell? ⟨b, off + k, none⟩ = some (.int .i64 (o : Int)) := hcell0
      generalize getO o sk = z at *
      have HZ1 := Lib.hid ha1'
      have HZ2 : Hid ((pre ++ [z.2]) ++ (getAll (os.drop (k + 1)) z.1).2 = A2) := Lib.hid (by rw [List.append_assoc]; exact ha2')
      clear ha1 ha2 ha1' ha2' ho1 hcell0 hown3k
      go_wp2_with (first
        | (go_at_call 176; (with_reducible refine hget.mono ?_); clear hget; rintro e w5 ⟨rfl, h5'⟩; have hown5 := h5'.2.own hown (fun j hj e => by have := (hown.lt j hj).1; omega); have hs5 := h5'.2.size)
        | (at_builtin; refine wpList_append_lits rfl _ _ 54 rfl w3.heap.size 22 i0 (.int .u64 0) 8 Tryz.underlying54 hi hz0 hz1 hz2 rfl (by decide) hown5 rfl _ rfl rfl rfl (by omega) (by omega) ?_; intro v' w6 hown6 hb6 _ _))
      go_roundw
      case rel => exact ⟨k + 1, pre ++ [z.2], z.1, by omega, by go_num, by simp [hpre], HZ1, HZ2, Lib.hid (h5'.1.under hb6 (by omega)), by rw [List.map_append]; exact hown6, (hfoot.trans h5'.2).then_ (T := fun x => w3.heap.size ≤ x) ⟨hb6.os, hb6.tape, hb6.output, hb6.size, fun x _ hn => hb6.block x (Nat.lt_of_not_le hn)⟩ (fun x hx => .inr hx)⟩
      case measure => simp [intOf]; omega
    · obtain rfl : k = os.length := by omega
      have ha1' := ha1.out
      have ha2' := ha2.out
      rw [List.drop_length, getAll] at ha1' ha2'
      simp only [List.append_nil] at ha1' ha2'
      subst ha1' ha2'
      have hbr4 := hbr3.foot hfoot (by omega)
      have hrd4 := hrd.out
      have he2 := Wire.Err_any r sk wr hrd4
      have hF := F3.trans hfoot
      have hRR := HR.out
      clear ha1 ha2 hrd HR
      by_cases hz : sk.code = 0
      · rw [if_pos hz] at hRR
        rw [hz] at he2
        injection hRR with e1 e2
        subst e1
        have hbu2 := HBU.out pre (by omega) _ _ wr (by have := RV.of_own hown; rw [← hpre] at this; exact this)
        rw [e2] at hbu2
        clear hz e2
        go_wp2_with (first
          | (go_at_call 92; (with_reducible refine he2.mono ?_); clear he2; rintro e w5 ⟨rfl, rfl⟩)
          | (go_at_call 142; (with_reducible refine hbu2.mono ?_); clear hbu2; rintro e w6 ⟨rfl, hb6⟩; have hbr6 := hbr4.below hb6 hbr4.lt; have hrd6 := hrd4.below hb6 (Nat.le_refl _))
          | (refine wpList_store_row rfl 109 _ _ rfl w.heap.size D.cells rfl rfl 109 _ hbr6 (sizeD _) rfl (oneD _) ?_))
        refine bodyPost_ret (results_row_tmp rfl _ _ w.heap.size 109 D.cells (0, 0) _ rfl (hbr6.row _) Tryz.underlying109 rfl (sizeD _)) rfl ?_
        exact ⟨rfl, rd_row hrd6 hrl _, (hF.trans (Foot.of_below _ hb6)).row (Nat.le_refl _) _⟩
      · rw [if_neg hz] at hRR
        injection hRR with e1 e2
        injection e2 with e2 e3
        subst e1 e2 e3
        have ty : ((sk.code : Int) != 0) = true := by simp; omega
        clear hz
        go_wp2_with (first
          | (go_at_call 92; (with_reducible refine he2.mono ?_); clear he2; rintro e w5 ⟨rfl, rfl⟩)
          | (refine wpList_store_row rfl 109 _ _ rfl w.heap.size zeroD.cells rfl rfl 109 _ hbr4 (sizeD _) rfl (oneD _) ?_))
        refine bodyPost_ret (results_row_tmp rfl _ _ w.heap.size 109 zeroD.cells (0, 0) _ rfl (hbr4.row _) Tryz.underlying109 rfl (sizeD _)) rfl ?_
        exact ⟨rfl, rd_row hrd4 hrl _, hF.row (Nat.le_refl _) _⟩

theorem Get_any (r : Nat) (st : RS) (w : World) (h : RdAt w r st) :
    Calls Tryz.prog 158 #[.pointer (some ⟨r, 0, none⟩)] w fun e w' => e = .returned (.tuple #[(getD st).2.1.val, .int .i64 ((getD st).2.2 : Int)]) ∧ RdOut w w' r (getD st).1 := by
  unfold getD
  by_cases hc : (rdByte st).1.code = 0
  · rw [if_pos hc]
    by_cases ho : isOp (rdByte st).2 = true
    · rw [if_pos ho]
      exact Get_rest r st w h hc ho _ _ _ rfl
    · rw [if_neg ho]
      exact Get_op r st w h hc ho
  · rw [if_neg hc]
    exact Get_err r st w h hc
end Go.Proofs.YtbdimfcdpkldpaaGreatDoor

namespace Go.Proofs.YtbdimfcdpkldpaaGreatDoor
open Go.RowKit
open Wire (RS rdByte rdNum truth RsV GetOut)

theorem zeroRd : ∀ w, (zeroValue 94).run Tryz.prog w = .ok (.agg #[.slice none 0 0, .int .i64 0]) w := Tryz.zeroValue94
theorem sizeRd (a b : Value) : (Tryz.prog.info? 94).map (·.size) = some (#[a, b] : Array Value).size := by kernel_rfl
theorem oneRd {p : Option Addr} {n c : Nat} (y : Int) (_ : True) : (#[.slice p n c, .int .i64 y] : Array Value).all (·.oneCell') = true := by simp [Value.oneCell']
theorem results_row_row {P : Program} {fn : Func} {p q : Tmp} {ty ty' : TypeId} (h : fn.results = #[.cell p ty, .cell q ty']) (tmps : Array Value) (w : World) (g : Nat) (t : TypeId) (cs : Array Value) (fr : Nat × Nat) (d : TypeDesc)
    (hp : tmps.getD p undef = .pointer (some ⟨g, 0, none⟩)) (hg : w.heap[g]? = some (.cells cs t fr))
    (hu : P.underlying ty = some d) (hd : (match d with | .struct _ | .array _ _ => true | _ => false) = true) (hi : (P.info? ty).map (·.size) = some cs.size)
    (g' : Nat) (t' : TypeId) (cs' : Array Value) (fr' : Nat × Nat) (d' : TypeDesc)
    (hp' : tmps.getD q undef = .pointer (some ⟨g', 0, none⟩)) (hg' : w.heap[g']? = some (.cells cs' t' fr'))
    (hu' : P.underlying ty' = some d') (hd' : (match d' with | .struct _ | .array _ _ => true | _ => false) = true) (hi' : (P.info? ty').map (·.size) = some cs'.size) :
    (results fn tmps).run P w = .ok (.tuple #[.agg cs, .agg cs']) w := by
  have key : (results fn tmps).run P w = ((asAddr (tmps.getD p undef)).run P w).andThen fun a w₁ => ((loadVar ty a).run P w₁).andThen fun v w₂ => ((asAddr (tmps.getD q undef)).run P w₂).andThen fun a' w₃ => ((loadVar ty' a').run P w₃).andThen fun v' w₄ => .ok (.tuple #[v, v']) w₄ := by
    simp only [results, h]
    simp [Sem.run_bind, Result.andThen]
  rw [key]
  simp only [hp, hp', asAddr, Sem.run_pure, Result.andThen_ok, run_loadVar_row w g t ty cs fr d hg hu hd hi, run_loadVar_row w g' t' ty' cs' fr' d' hg' hu' hd' hi']

/-- What the reference's reader stands at behind a Get that answers y. -/
def outS (y : Nat) (st : RS) : RS := if y = 0 then st else .err y
theorem rs_bad {w w' : World} {G : Nat → Prop} {v : Value} {st : RS} (h : RsV w G v st) (hz : ¬ st.code = 0) : RsV w' G v (outS st.code st) := by
  cases st with
  | ok l => exact absurd rfl hz
  | err e => unfold outS; rw [if_neg hz]; exact h
section
variable (p : Option Addr) (n c : Nat) (y0 : Int) (st : RS) (G : Nat → Prop) (w : World) (hG : ∀ k, G k → k < w.heap.size) (h : RsV w G (.agg #[.slice p n c, .int .i64 y0]) st)
include h
set_option maxRecDepth 100000 in
set_option maxHeartbeats 2000000 in
theorem RGet_err (hc : ¬ (rdByte st).1.code = 0) :
    Calls Tryz.prog 99 #[.agg #[.slice p n c, .int .i64 y0]] w fun e w' => (∃ p n c, e = .returned (.tuple #[.agg #[.slice p n c, .int .i64 ((rdByte st).1.code : Int)], .agg zeroD.cells]) ∧ RsV w' G (.agg #[.slice p n c, .int .i64 ((rdByte st).1.code : Int)]) (outS (rdByte st).1.code (rdByte st).1)) ∧ Below w.heap.size w w' := by
  have g1 : Blk (((w.alloc (.cells #[.slice p n c, .int .i64 y0] 94)).alloc (.cells #[.slice none 0 0, .int .i64 0] 94)).alloc (.cells zeroD.cells 109)) w.heap.size 94 #[.slice p n c, .int .i64 y0] := ((Blk.new w _ _).alloc _).alloc _
  have g2 : Blk (((w.alloc (.cells #[.slice p n c, .int .i64 y0] 94)).alloc (.cells #[.slice none 0 0, .int .i64 0] 94)).alloc (.cells zeroD.cells 109)) (w.heap.size + 1) 94 #[.slice none 0 0, .int .i64 0] := (two_new w _ _ _).alloc _
  have g3 : Blk (((w.alloc (.cells #[.slice p n c, .int .i64 y0] 94)).alloc (.cells #[.slice none 0 0, .int .i64 0] 94)).alloc (.cells zeroD.cells 109)) (w.heap.size + 2) 109 zeroD.cells := by
    have := Blk.new ((w.alloc (.cells #[.slice p n c, .int .i64 y0] 94)).alloc (.cells #[.slice none 0 0, .int .i64 0] 94)) 109 zeroD.cells
    rwa [show ((w.alloc (.cells #[.slice p n c, .int .i64 y0] 94)).alloc (.cells #[.slice none 0 0, .int .i64 0] 94)).heap.size = w.heap.size + 2 by simp] at this
  have hbb : Below w.heap.size w (((w.alloc (.cells #[.slice p n c, .int .i64 y0] 94)).alloc (.cells #[.slice none 0 0, .int .i64 0] 94)).alloc (.cells zeroD.cells 109)) := (below_alloc2 w _ _).alloc (by simp; omega) _
  have hv3 := h.later hbb
  have hget := Wire.GetByte_any _ st G _ hv3
  generalize rdByte st = q at *
  have ty : ((q.1.code : Int) != 0) = true := by simp; omega
  have HC := Lib.hid hc
  clear hc h
  go_enter Tryz.func99, Tryz.ntmps99
  go_wp2_with (first
    | (refine wpList_load_row rfl 94 _ rfl w.heap.size rfl 94 _ (0, 0) _ z1 Tryz.underlying94 rfl (sizeRd _ _) ?_)
    | (refine wpList_box_agg rfl 94 _ rfl #[.slice p n c, .int .i64 y0] rfl ?_)
    | (refine wpList_alloc_agg rfl 94 rfl #[.slice none 0 0, .int .i64 0] zeroRd ?_)
    | (refine wpList_alloc_agg rfl 109 rfl zeroD.cells zeroR ?_)
    | (refine wpList_load_row rfl 94 _ rfl w.heap.size rfl 94 _ (0, 0) _ g1 Tryz.underlying94 rfl (sizeRd _ _) ?_)
    | (go_at_call 97; (with_reducible refine hget.mono ?_); clear hget; rintro e w1 ⟨⟨v1, rfl, hv1⟩, hb1⟩; obtain ⟨p1, n1, c1, rfl⟩ := hv1.shape; have x1 := g1.below hb1 g1.lt; have x2 := g2.below hb1 g2.lt; have x3 := g3.below hb1 g3.lt; have hbw1 := below_pre hbb hb1)
    | (refine wpList_store_row rfl 94 _ _ rfl w.heap.size #[.slice p1 n1 c1, .int .i64 (q.1.code : Int)] rfl rfl 94 _ x1 (sizeRd _ _) rfl (oneRd _ trivial) ?_; have z1 := x1.row #[.slice p1 n1 c1, .int .i64 (q.1.code : Int)]; have z2 := x2.foot (foot_setRow w1 w.heap.size #[.slice p1 n1 c1, .int .i64 (q.1.code : Int)]) (by omega); have z3 := x3.foot (foot_setRow w1 w.heap.size #[.slice p1 n1 c1, .int .i64 (q.1.code : Int)]) (by omega); have zc : (w1.setRow w.heap.size #[.slice p1 n1 c1, .int .i64 (q.1.code : Int)]).cell? ⟨w.heap.size, 1, none⟩ = some (.int .i64 (q.1.code : Int)) := z1.cell 1; have hbw2 := hbw1.trans (foot_row (w := w1) (B := w.heap.size) #[.slice p1 n1 c1, .int .i64 (q.1.code : Int)] (Nat.le_refl _)))
    | (refine wpList_store_row rfl 94 _ _ rfl (w.heap.size + 1) #[.slice p1 n1 c1, .int .i64 (q.1.code : Int)] rfl rfl 94 _ z2 (sizeRd _ _) rfl (oneRd _ trivial) ?_; have u2 := z2.row #[.slice p1 n1 c1, .int .i64 (q.1.code : Int)]; have u3 := z3.foot (foot_setRow _ (w.heap.size + 1) #[.slice p1 n1 c1, .int .i64 (q.1.code : Int)]) (by omega))
    | (refine wpList_store_row rfl 109 _ _ rfl (w.heap.size + 2) zeroD.cells rfl rfl 109 _ u3 (sizeD _) rfl (oneD _) ?_; have q2 := u2.foot (foot_setRow _ (w.heap.size + 2) zeroD.cells) (by omega); have q3 := u3.row zeroD.cells))
  refine bodyPost_ret (results_row_row rfl _ _ (w.heap.size + 1) 94 #[.slice p1 n1 c1, .int .i64 (q.1.code : Int)] (0, 0) _ rfl q2 Tryz.underlying94 rfl (sizeRd _ _) (w.heap.size + 2) 109 zeroD.cells (0, 0) _ rfl q3 Tryz.underlying109 rfl (sizeD _)) rfl ?_
  exact ⟨⟨_, _, _, rfl, rs_bad hv1 HC.out⟩, (hbw2.trans (foot_row _ (by omega))).trans (foot_row _ (by omega))⟩

set_option maxRecDepth 100000 in
set_option maxHeartbeats 2000000 in
theorem RGet_op (hc : (rdByte st).1.code = 0) (ho : ¬ isOp (rdByte st).2 = true) :
    Calls Tryz.prog 99 #[.agg #[.slice p n c, .int .i64 y0]] w fun e w' => (∃ p n c, e = .returned (.tuple #[.agg #[.slice p n c, .int .i64 3], .agg zeroD.cells]) ∧ RsV w' G (.agg #[.slice p n c, .int .i64 3]) (outS 3 (rdByte st).1)) ∧ Below w.heap.size w w' := by
  have g1 : Blk (((w.alloc (.cells #[.slice p n c, .int .i64 y0] 94)).alloc (.cells #[.slice none 0 0, .int .i64 0] 94)).alloc (.cells zeroD.cells 109)) w.heap.size 94 #[.slice p n c, .int .i64 y0] := ((Blk.new w _ _).alloc _).alloc _
  have g2 : Blk (((w.alloc (.cells #[.slice p n c, .int .i64 y0] 94)).alloc (.cells #[.slice none 0 0, .int .i64 0] 94)).alloc (.cells zeroD.cells 109)) (w.heap.size + 1) 94 #[.slice none 0 0, .int .i64 0] := (two_new w _ _ _).alloc _
  have g3 : Blk (((w.alloc (.cells #[.slice p n c, .int .i64 y0] 94)).alloc (.cells #[.slice none 0 0, .int .i64 0] 94)).alloc (.cells zeroD.cells 109)) (w.heap.size + 2) 109 zeroD.cells := by
    have := Blk.new ((w.alloc (.cells #[.slice p n c, .int .i64 y0] 94)).alloc (.cells #[.slice none 0 0, .int .i64 0] 94)) 109 zeroD.cells
    rwa [show ((w.alloc (.cells #[.slice p n c, .int .i64 y0] 94)).alloc (.cells #[.slice none 0 0, .int .i64 0] 94)).heap.size = w.heap.size + 2 by simp] at this
  have hbb : Below w.heap.size w (((w.alloc (.cells #[.slice p n c, .int .i64 y0] 94)).alloc (.cells #[.slice none 0 0, .int .i64 0] 94)).alloc (.cells zeroD.cells 109)) := (below_alloc2 w _ _).alloc (by simp; omega) _
  have hv3 := h.later hbb
  have hget := Wire.GetByte_any _ st G _ hv3
  have hno := isOp_not ho
  have hs := Wire.rdByte_snd st
  generalize rdByte st = q at *
  obtain ⟨q1, k⟩ := q
  simp only at hc hno hget hs
  have ty : ((q1.code : Int) != 0) = false := by simp [hc]
  clear ho h hc
  rcases (show k = 0 ∨ (¬ k < 1 ∧ ¬ k = 0 ∧ 11 < k) by omega) with rfl | ⟨hk1, hk0, hk2⟩
  all_goals
    go_enter Tryz.func99, Tryz.ntmps99
    go_wp2_with (first
      | (refine wpList_load_row rfl 94 _ rfl w.heap.size rfl 94 _ (0, 0) _ z1 Tryz.underlying94 rfl (sizeRd _ _) ?_)
      | (refine wpList_box_agg rfl 94 _ rfl #[.slice p n c, .int .i64 y0] rfl ?_)
      | (refine wpList_alloc_agg rfl 94 rfl #[.slice none 0 0, .int .i64 0] zeroRd ?_)
      | (refine wpList_alloc_agg rfl 109 rfl zeroD.cells zeroR ?_)
      | (refine wpList_load_row rfl 94 _ rfl w.heap.size rfl 94 _ (0, 0) _ g1 Tryz.underlying94 rfl (sizeRd _ _) ?_)
      | (go_at_call 97; (with_reducible refine hget.mono ?_); clear hget; rintro e w1 ⟨⟨v1, rfl, hv1⟩, hb1⟩; obtain ⟨p1, n1, c1, rfl⟩ := hv1.shape; have x1 := g1.below hb1 g1.lt; have x2 := g2.below hb1 g2.lt; have x3 := g3.below hb1 g3.lt; have hbw1 := below_pre hbb hb1)
      | (refine wpList_store_row rfl 94 _ _ rfl w.heap.size #[.slice p1 n1 c1, .int .i64 (q1.code : Int)] rfl rfl 94 _ x1 (sizeRd _ _) rfl (oneRd _ trivial) ?_; have z1 := x1.row #[.slice p1 n1 c1, .int .i64 (q1.code : Int)]; have z2 := x2.foot (foot_setRow w1 w.heap.size #[.slice p1 n1 c1, .int .i64 (q1.code : Int)]) (by omega); have z3 := x3.foot (foot_setRow w1 w.heap.size #[.slice p1 n1 c1, .int .i64 (q1.code : Int)]) (by omega); have zc : (w1.setRow w.heap.size #[.slice p1 n1 c1, .int .i64 (q1.code : Int)]).cell? ⟨w.heap.size, 1, none⟩ = some (.int .i64 (q1.code : Int)) := z1.cell 1; have hbw2 := hbw1.trans (foot_row (w := w1) (B := w.heap.size) #[.slice p1 n1 c1, .int .i64 (q1.code : Int)] (Nat.le_refl _)))
      | (refine wpList_store_row rfl 94 _ _ rfl (w.heap.size + 1) #[.slice none 0 0, .int .i64 3] rfl rfl 94 _ z2 (sizeRd _ _) rfl (oneRd _ trivial) ?_; have u2 := z2.row #[.slice none 0 0, .int .i64 3]; have u3 := z3.foot (foot_setRow _ (w.heap.size + 1) #[.slice none 0 0, .int .i64 3]) (by omega))
      | (refine wpList_store_row rfl 109 _ _ rfl (w.heap.size + 2) zeroD.cells rfl rfl 109 _ u3 (sizeD _) rfl (oneD _) ?_; have q2 := u2.foot (foot_setRow _ (w.heap.size + 2) zeroD.cells) (by omega); have q3 := u3.row zeroD.cells))
    refine bodyPost_ret (results_row_row rfl _ _ (w.heap.size + 1) 94 #[.slice none 0 0, .int .i64 3] (0, 0) _ rfl q2 Tryz.underlying94 rfl (sizeRd _ _) (w.heap.size + 2) 109 zeroD.cells (0, 0) _ rfl q3 Tryz.underlying109 rfl (sizeD _)) rfl ?_
    exact ⟨⟨_, _, _, rfl, Wire.RsV.nil (by decide)⟩, (hbw2.trans (foot_row _ (by omega))).trans (foot_row _ (by omega))⟩
end
end Go.Proofs.YtbdimfcdpkldpaaGreatDoor

namespace Go.Proofs.YtbdimfcdpkldpaaGreatDoor
open Go.RowKit
open Wire (RS rdByte rdNum truth RsV GetOut)

theorem Foot.row' {S : Nat → Prop} {w w1 : World} (h : Foot S w w1) {g : Nat} (hg : S g) (cs : Array Value) : Foot S w (w1.setRow g cs) := h.then_ (foot_setRow w1 g cs) (fun x (hx : x = g) => .inl (by rw [hx]; exact hg))
theorem rs_foot {w w' : World} {G S : Nat → Prop} {v : Value} {st : RS} (h : RsV w G v st) (hf : Foot S w w') (hd : ∀ k, G k → ¬ S k) : RsV w' G v st := by
  cases st with
  | ok l => obtain ⟨⟨sl, hv, hr⟩, hl⟩ := h; exact ⟨⟨sl, hv, hr.foot hf hd⟩, hl⟩
  | err e => exact h
set_option maxRecDepth 100000 in
set_option maxHeartbeats 8000000 in
theorem RGet_rest (p : Option Addr) (n c : Nat) (y0 : Int) (st : RS) (G : Nat → Prop) (w : World) (hG : ∀ k, G k → k < w.heap.size) (h : RsV w G (.agg #[.slice p n c, .int .i64 y0]) st)
    (hc : (rdByte st).1.code = 0) (ho : isOp (rdByte st).2 = true) (sF : RS) (dF D : Deed) (y : Nat) (hgo : getGo (opr (rdByte st).2) (rdByte st).1 (opD (rdByte st).2) = (sF, dF))
    (hR0 : sF.code = 0 → goodD dF = true → (D, y) = (dF, 0)) (hR1 : sF.code = 0 → goodD dF = false → (D, y) = (zeroD, 5)) (hR2 : ¬ sF.code = 0 → (D, y) = (zeroD, sF.code)) :
    Calls Tryz.prog 99 #[.agg #[.slice p n c, .int .i64 y0]] w fun e w' => (∃ p n c, e = .returned (.tuple #[.agg #[.slice p n c, .int .i64 (y : Int)], .agg D.cells]) ∧ RsV w' G (.agg #[.slice p n c, .int .i64 (y : Int)]) (outS y sF)) ∧ Below w.heap.size w w' := by
  have g1 : Blk (((w.alloc (.cells #[.slice p n c, .int .i64 y0] 94)).alloc (.cells #[.slice none 0 0, .int .i64 0] 94)).alloc (.cells zeroD.cells 109)) w.heap.size 94 #[.slice p n c, .int .i64 y0] := ((Blk.new w _ _).alloc _).alloc _
  have g2 : Blk (((w.alloc (.cells #[.slice p n c, .int .i64 y0] 94)).alloc (.cells #[.slice none 0 0, .int .i64 0] 94)).alloc (.cells zeroD.cells 109)) (w.heap.size + 1) 94 #[.slice none 0 0, .int .i64 0] := (two_new w _ _ _).alloc _
  have g3 : Blk (((w.alloc (.cells #[.slice p n c, .int .i64 y0] 94)).alloc (.cells #[.slice none 0 0, .int .i64 0] 94)).alloc (.cells zeroD.cells 109)) (w.heap.size + 2) 109 zeroD.cells := by
    have := Blk.new ((w.alloc (.cells #[.slice p n c, .int .i64 y0] 94)).alloc (.cells #[.slice none 0 0, .int .i64 0] 94)) 109 zeroD.cells
    rwa [show ((w.alloc (.cells #[.slice p n c, .int .i64 y0] 94)).alloc (.cells #[.slice none 0 0, .int .i64 0] 94)).heap.size = w.heap.size + 2 by simp] at this
  have hbb : Below w.heap.size w (((w.alloc (.cells #[.slice p n c, .int .i64 y0] 94)).alloc (.cells #[.slice none 0 0, .int .i64 0] 94)).alloc (.cells zeroD.cells 109)) := (below_alloc2 w _ _).alloc (by simp; omega) _
  have hv3 := h.later hbb
  have hget := Wire.GetByte_any _ st G _ hv3
  have hparts := Parts_any ((rdByte st).2 : Int) ho
  have hsz := partsL_size ((rdByte st).2 : Int)
  have h5 := opr_len ((rdByte st).2 : Int) ho
  have h7 := Lib.hid (opr_lt ((rdByte st).2 : Int) ho)
  have hix := Lib.hid (parts_ix ((rdByte st).2 : Int))
  unfold sV at hparts
  have hs := Wire.rdByte_snd st
  have hk1 : ¬ (rdByte st).2 < 1 ∧ ¬ 11 < (rdByte st).2 := by
    have := isOp_cases ho
    omega
  generalize rdByte st = q at *
  obtain ⟨q1, k0⟩ := q
  simp only at hc hget hs hk1 hparts hsz h5 h7 hix hgo
  obtain ⟨hk1, hk2⟩ := hk1
  have hk0 : ¬ k0 = 0 := by omega
  have ty : ((q1.code : Int) != 0) = false := by simp [hc]
  generalize (ByteArray.mk (partsL (k0 : Int)).toArray) = s at *
  generalize opr (k0 : Int) = os at *
  have HGO : Hid (getGo (os.drop 0) q1 (opD (k0 : Int)) = (sF, dF)) := Lib.hid hgo
  have HR0 := Lib.hid hR0
  have HR1 := Lib.hid hR1
  have HR2 := Lib.hid hR2
  clear ho h hc hgo hR0 hR1 hR2
  go_enter Tryz.func99, Tryz.ntmps99
  go_wp2_with (first
    | (refine wpList_box_agg rfl 94 _ rfl #[.slice p n c, .int .i64 y0] rfl ?_)
    | (refine wpList_alloc_agg rfl 94 rfl #[.slice none 0 0, .int .i64 0] zeroRd ?_)
    | (refine wpList_alloc_agg rfl 109 rfl zeroD.cells zeroR ?_)
    | (refine wpList_load_row rfl 94 _ rfl w.heap.size rfl 94 _ (0, 0) _ g1 Tryz.underlying94 rfl (sizeRd _ _) ?_)
    | (go_at_call 97; (with_reducible refine hget.mono ?_); clear hget; rintro e w1 ⟨⟨v1, rfl, hv1⟩, hb1⟩; obtain ⟨p1, n1, c1, rfl⟩ := hv1.shape; have x1 := g1.below hb1 g1.lt; have x2 := g2.below hb1 g2.lt; have x3 := g3.below hb1 g3.lt; have hbw1 := below_pre hbb hb1)
    | (refine wpList_store_row rfl 94 _ _ rfl w.heap.size #[.slice p1 n1 c1, .int .i64 (q1.code : Int)] rfl rfl 94 _ x1 (sizeRd _ _) rfl (oneRd _ trivial) ?_; have z1 := x1.row #[.slice p1 n1 c1, .int .i64 (q1.code : Int)]; have z2 := x2.foot (foot_setRow w1 w.heap.size #[.slice p1 n1 c1, .int .i64 (q1.code : Int)]) (by omega); have z3 := x3.foot (foot_setRow w1 w.heap.size #[.slice p1 n1 c1, .int .i64 (q1.code : Int)]) (by omega); have zc : (w1.setRow w.heap.size #[.slice p1 n1 c1, .int .i64 (q1.code : Int)]).cell? ⟨w.heap.size, 1, none⟩ = some (.int .i64 (q1.code : Int)) := z1.cell 1; have hbw2 := hbw1.trans (foot_row (w := w1) (B := w.heap.size) #[.slice p1 n1 c1, .int .i64 (q1.code : Int)] (Nat.le_refl _)))
    | (refine wpList_store_row rfl 109 _ _ rfl (w1.setRow w.heap.size #[.slice p1 n1 c1, .int .i64 (q1.code : Int)]).heap.size (opD (k0 : Int)).cells rfl rfl 109 _ (heap_alloc_new _ _) (sizeD _) rfl (oneD _) ?_; rw [World.setRow_alloc_new]; have hcd : ((w1.setRow w.heap.size #[.slice p1 n1 c1, .int .i64 (q1.code : Int)]).alloc (.cells (opD (k0 : Int)).cells 109)).cell? ⟨w1.heap.size, 0, none⟩ = some (.int .i64 (k0 : Int)) := (by have hh := (Blk.new (w1.setRow w.heap.size #[.slice p1 n1 c1, .int .i64 (q1.code : Int)]) 109 (opD (k0 : Int)).cells).cell 0; rw [show (w1.setRow w.heap.size #[.slice p1 n1 c1, .int .i64 (q1.code : Int)]).heap.size = w1.heap.size by simp [World.setRow]] at hh; exact hh))
    | (go_at_call 114; (with_reducible refine (hparts _).mono ?_); clear hparts hcd; rintro e w4 ⟨rfl, hb4⟩))
  have zs : (w1.setRow w.heap.size #[.slice p1 n1 c1, .int .i64 (q1.code : Int)]).heap.size = w1.heap.size := by simp [World.setRow]
  have hbd4 := (Blk.new (w1.setRow w.heap.size #[.slice p1 n1 c1, .int .i64 (q1.code : Int)]) 109 (opD (k0 : Int)).cells).below hb4 (by simp)
  rw [zs] at hbd4
  have b1 := (z1.alloc (.cells (opD (k0 : Int)).cells 109)).below hb4 (z1.alloc _).lt
  have b2 := (z2.alloc (.cells (opD (k0 : Int)).cells 109)).below hb4 (z2.alloc _).lt
  have b3 := (z3.alloc (.cells (opD (k0 : Int)).cells 109)).below hb4 (z3.alloc _).lt
  have hbw4 : Below w.heap.size w w4 := below_pre (hbw2.alloc hbw2.size _) hb4
  have hv4 := ((rs_foot (hv1.later hb1) (foot_setRow w1 w.heap.size #[.slice p1 n1 c1, .int .i64 (q1.code : Int)]) (fun k hk (e : k = w.heap.size) => by have := hG k hk; omega)).later (below_alloc1 _ (.cells (opD (k0 : Int)).cells 109))).later hb4
  have hgd : w.heap.size + 3 ≤ w1.heap.size := by have := hb1.size; simp at this; omega
  generalize w1.heap.size = gd at *
  clear g1 g2 g3 hbb hb1 x1 x2 x3 z1 z2 z3 zc hbw1 hbw2 hb4 zs hv1 hv3
  go_loopw [7] (fun t wr => ∃ (k : Nat) (dk : Deed) (sk : RS) (pk : Option Addr) (nk ck : Nat), k ≤ os.length ∧ t = .int .i64 k ∧ Hid (getGo (os.drop k) sk dk = (sF, dF)) ∧ Hid (RsV wr G (.agg #[.slice pk nk ck, .int .i64 (sk.code : Int)]) sk) ∧ Blk wr w.heap.size 94 #[.slice pk nk ck, .int .i64 (sk.code : Int)] ∧ Blk wr gd 109 dk.cells ∧ Foot (fun b => b = w.heap.size ∨ b = gd) w4 wr) (fun t _ => os.length - (intOf t).toNat)
  case atStart => exact ⟨0, opD (k0 : Int), q1, p1, n1, c1, by omega, rfl, HGO, Lib.hid hv4, b1, hbd4, Foot.refl _ _⟩
  case round =>
    clear b1 hbd4 hv4
    obtain ⟨k, dk, sk, pk, nk, ck, hk, rfl, hgo, hv, hB1, hBD, hfoot⟩ := hrel
    have hbw5 : Below w.heap.size w wr := hbw4.trans (hfoot.below (B := w.heap.size) (by have := hbw4.size; omega) (fun b hb => by rcases hb with hb | hb <;> omega))
    replace b2 := b2.foot hfoot (by omega)
    replace b3 := b3.foot hfoot (by omega)
    have hG1 : ∀ k, G k → k < wr.heap.size := fun k hk => by have := hG k hk; have := hbw5.size; omega
    by_cases hlt : k < os.length
    · obtain ⟨o, ho1⟩ : ∃ o, os[k]? = some o := ⟨_, List.getElem?_eq_getElem hlt⟩
      have ho7 := h7.out o (List.mem_of_getElem? ho1)
      have hgo2 := hgo.out
      rw [drop_cons os k o ho1, getGo] at hgo2
      have hi := hix.out k o ho1
      clear hgo ho1
      rcases o_cases ho7 with rfl | rfl | rfl | rfl | rfl | rfl | rfl
      · replace hi : ∀ W, (Instr.index 9 (.string s) (.int .i64 (k : Int))).run Tryz.prog W = .ok (.int .u8 65) W := hi
        have hget := Wire.GetByte_any _ sk G wr hv.out
        have hsx := Wire.rdByte_snd sk
        rw [show getO 0 sk = rdByte sk from rfl] at hgo2
        generalize rdByte sk = z at *
        have HGO := Lib.hid hgo2
        clear hgo2
        go_wp2_with (first
          | (refine wpList_load_row rfl 94 _ rfl w.heap.size rfl 94 _ (0, 0) _ hB1 Tryz.underlying94 rfl (sizeRd _ _) ?_)
          | (go_at_call 97; (with_reducible refine hget.mono ?_); clear hget; rintro e w5 ⟨⟨v5, rfl, hv5⟩, hb5⟩; obtain ⟨p5, n5, c5, rfl⟩ := hv5.shape; have x1 := hB1.below hb5 hB1.lt; have xd := hBD.below hb5 hBD.lt)
          | (refine wpList_store_row rfl 94 _ _ rfl w.heap.size #[.slice p5 n5 c5, .int .i64 (z.1.code : Int)] rfl rfl 94 _ x1 (sizeRd _ _) rfl (oneRd _ trivial) ?_; have y1 := x1.row #[.slice p5 n5 c5, .int .i64 (z.1.code : Int)]; have yd := xd.foot (foot_setRow w5 w.heap.size #[.slice p5 n5 c5, .int .i64 (z.1.code : Int)]) (by omega); have hcd : (w5.setRow w.heap.size #[.slice p5 n5 c5, .int .i64 (z.1.code : Int)]).cell? ⟨gd, 1, none⟩ = some (.int .i64 dk.a) := yd.cell 1; have hfd := yd.frozen 1))
        go_roundw
        case rel => exact ⟨k + 1, _, z.1, p5, n5, c5, by omega, by go_num, HGO, Lib.hid (rs_foot (hv5.later hb5) (((Foot.refl (fun b => b = w.heap.size ∨ b = gd) w5).row' (.inl rfl) _).setCell (p := ⟨gd, 1, none⟩) (.inl (.inr rfl)) _) (fun kk hk e => by have := hG kk hk; omega)), y1.far (by show w.heap.size ≠ gd; omega) _, (blk_put yd 1 _ rfl).1, ((hfoot.trans (Foot.of_below _ hb5)).row' (.inl rfl) _).setCell (p := ⟨gd, 1, none⟩) (.inl (.inr rfl)) _⟩
        case measure => simp [intOf]; omega
      · replace hi : ∀ W, (Instr.index 9 (.string s) (.int .i64 (k : Int))).run Tryz.prog W = .ok (.int .u8 66) W := hi
        have hget := Wire.GetByte_any _ sk G wr hv.out
        have hsx := Wire.rdByte_snd sk
        rw [show getO 1 sk = rdByte sk from rfl] at hgo2
        generalize rdByte sk = z at *
        have HGO := Lib.hid hgo2
        clear hgo2
        go_wp2_with (first
          | (refine wpList_load_row rfl 94 _ rfl w.heap.size rfl 94 _ (0, 0) _ hB1 Tryz.underlying94 rfl (sizeRd _ _) ?_)
          | (go_at_call 97; (with_reducible refine hget.mono ?_); clear hget; rintro e w5 ⟨⟨v5, rfl, hv5⟩, hb5⟩; obtain ⟨p5, n5, c5, rfl⟩ := hv5.shape; have x1 := hB1.below hb5 hB1.lt; have xd := hBD.below hb5 hBD.lt)
          | (refine wpList_store_row rfl 94 _ _ rfl w.heap.size #[.slice p5 n5 c5, .int .i64 (z.1.code : Int)] rfl rfl 94 _ x1 (sizeRd _ _) rfl (oneRd _ trivial) ?_; have y1 := x1.row #[.slice p5 n5 c5, .int .i64 (z.1.code : Int)]; have yd := xd.foot (foot_setRow w5 w.heap.size #[.slice p5 n5 c5, .int .i64 (z.1.code : Int)]) (by omega); have hcd : (w5.setRow w.heap.size #[.slice p5 n5 c5, .int .i64 (z.1.code : Int)]).cell? ⟨gd, 2, none⟩ = some (.int .i64 dk.b) := yd.cell 2; have hfd := yd.frozen 2))
        go_roundw
        case rel => exact ⟨k + 1, _, z.1, p5, n5, c5, by omega, by go_num, HGO, Lib.hid (rs_foot (hv5.later hb5) (((Foot.refl (fun b => b = w.heap.size ∨ b = gd) w5).row' (.inl rfl) _).setCell (p := ⟨gd, 2, none⟩) (.inl (.inr rfl)) _) (fun kk hk e => by have := hG kk hk; omega)), y1.far (by show w.heap.size ≠ gd; omega) _, (blk_put yd 2 _ rfl).1, ((hfoot.trans (Foot.of_below _ hb5)).row' (.inl rfl) _).setCell (p := ⟨gd, 2, none⟩) (.inl (.inr rfl)) _⟩
        case measure => simp [intOf]; omega
      · replace hi : ∀ W, (Instr.index 9 (.string s) (.int .i64 (k : Int))).run Tryz.prog W = .ok (.int .u8 82) W := hi
        have hget := Wire.GetByte_any _ sk G wr hv.out
        have hsx := Wire.rdByte_snd sk
        rw [show getO 2 sk = rdByte sk from rfl] at hgo2
        generalize rdByte sk = z at *
        have HGO := Lib.hid hgo2
        clear hgo2
        go_wp2_with (first
          | (refine wpList_load_row rfl 94 _ rfl w.heap.size rfl 94 _ (0, 0) _ hB1 Tryz.underlying94 rfl (sizeRd _ _) ?_)
          | (go_at_call 97; (with_reducible refine hget.mono ?_); clear hget; rintro e w5 ⟨⟨v5, rfl, hv5⟩, hb5⟩; obtain ⟨p5, n5, c5, rfl⟩ := hv5.shape; have x1 := hB1.below hb5 hB1.lt; have xd := hBD.below hb5 hBD.lt)
          | (refine wpList_store_row rfl 94 _ _ rfl w.heap.size #[.slice p5 n5 c5, .int .i64 (z.1.code : Int)] rfl rfl 94 _ x1 (sizeRd _ _) rfl (oneRd _ trivial) ?_; have y1 := x1.row #[.slice p5 n5 c5, .int .i64 (z.1.code : Int)]; have yd := xd.foot (foot_setRow w5 w.heap.size #[.slice p5 n5 c5, .int .i64 (z.1.code : Int)]) (by omega); have hcd : (w5.setRow w.heap.size #[.slice p5 n5 c5, .int .i64 (z.1.code : Int)]).cell? ⟨gd, 3, none⟩ = some (.int .i64 dk.r) := yd.cell 3; have hfd := yd.frozen 3))
        go_roundw
        case rel => exact ⟨k + 1, _, z.1, p5, n5, c5, by omega, by go_num, HGO, Lib.hid (rs_foot (hv5.later hb5) (((Foot.refl (fun b => b = w.heap.size ∨ b = gd) w5).row' (.inl rfl) _).setCell (p := ⟨gd, 3, none⟩) (.inl (.inr rfl)) _) (fun kk hk e => by have := hG kk hk; omega)), y1.far (by show w.heap.size ≠ gd; omega) _, (blk_put yd 3 _ rfl).1, ((hfoot.trans (Foot.of_below _ hb5)).row' (.inl rfl) _).setCell (p := ⟨gd, 3, none⟩) (.inl (.inr rfl)) _⟩
        case measure => simp [intOf]; omega
      · replace hi : ∀ W, (Instr.index 9 (.string s) (.int .i64 (k : Int))).run Tryz.prog W = .ok (.int .u8 78) W := hi
        have hget := Wire.GetNum_any _ sk G wr hG1 hv.out
        skip
        rw [show getO 3 sk = rdNum sk from rfl] at hgo2
        generalize rdNum sk = z at *
        have HGO := Lib.hid hgo2
        clear hgo2
        go_wp2_with (first
          | (refine wpList_load_row rfl 94 _ rfl w.heap.size rfl 94 _ (0, 0) _ hB1 Tryz.underlying94 rfl (sizeRd _ _) ?_)
          | (go_at_call 52; (with_reducible refine hget.mono ?_); clear hget; rintro e w5 ⟨⟨v5, rfl, hv5⟩, hb5⟩; obtain ⟨p5, n5, c5, rfl⟩ := hv5.shape; have x1 := hB1.below hb5 hB1.lt; have xd := hBD.below hb5 hBD.lt)
          | (refine wpList_store_row rfl 94 _ _ rfl w.heap.size #[.slice p5 n5 c5, .int .i64 (z.1.code : Int)] rfl rfl 94 _ x1 (sizeRd _ _) rfl (oneRd _ trivial) ?_; have y1 := x1.row #[.slice p5 n5 c5, .int .i64 (z.1.code : Int)]; have yd := xd.foot (foot_setRow w5 w.heap.size #[.slice p5 n5 c5, .int .i64 (z.1.code : Int)]) (by omega); have hcd : (w5.setRow w.heap.size #[.slice p5 n5 c5, .int .i64 (z.1.code : Int)]).cell? ⟨gd, 4, none⟩ = some (.int .u64 (dk.n : Int)) := yd.cell 4; have hfd := yd.frozen 4))
        go_roundw
        case rel => exact ⟨k + 1, _, z.1, p5, n5, c5, by omega, by go_num, HGO, Lib.hid (rs_foot (hv5.later hb5) (((Foot.refl (fun b => b = w.heap.size ∨ b = gd) w5).row' (.inl rfl) _).setCell (p := ⟨gd, 4, none⟩) (.inl (.inr rfl)) _) (fun kk hk e => by have := hG kk hk; omega)), y1.far (by show w.heap.size ≠ gd; omega) _, (blk_put yd 4 _ rfl).1, ((hfoot.trans (Foot.of_below _ hb5)).row' (.inl rfl) _).setCell (p := ⟨gd, 4, none⟩) (.inl (.inr rfl)) _⟩
        case measure => simp [intOf]; omega
      · replace hi : ∀ W, (Instr.index 9 (.string s) (.int .i64 (k : Int))).run Tryz.prog W = .ok (.int .u8 78) W := hi
        have hget := Wire.GetNum_any _ sk G wr hG1 hv.out
        skip
        rw [show getO 4 sk = rdNum sk from rfl] at hgo2
        generalize rdNum sk = z at *
        have HGO := Lib.hid hgo2
        clear hgo2
        go_wp2_with (first
          | (refine wpList_load_row rfl 94 _ rfl w.heap.size rfl 94 _ (0, 0) _ hB1 Tryz.underlying94 rfl (sizeRd _ _) ?_)
          | (go_at_call 52; (with_reducible refine hget.mono ?_); clear hget; rintro e w5 ⟨⟨v5, rfl, hv5⟩, hb5⟩; obtain ⟨p5, n5, c5, rfl⟩ := hv5.shape; have x1 := hB1.below hb5 hB1.lt; have xd := hBD.below hb5 hBD.lt)
          | (refine wpList_store_row rfl 94 _ _ rfl w.heap.size #[.slice p5 n5 c5, .int .i64 (z.1.code : Int)] rfl rfl 94 _ x1 (sizeRd _ _) rfl (oneRd _ trivial) ?_; have y1 := x1.row #[.slice p5 n5 c5, .int .i64 (z.1.code : Int)]; have yd := xd.foot (foot_setRow w5 w.heap.size #[.slice p5 n5 c5, .int .i64 (z.1.code : Int)]) (by omega); have hcd : (w5.setRow w.heap.size #[.slice p5 n5 c5, .int .i64 (z.1.code : Int)]).cell? ⟨gd, 4, none⟩ = some (.int .u64 (dk.n : Int)) := yd.cell 4; have hfd := yd.frozen 4))
        go_roundw
        case rel => exact ⟨k + 1, _, z.1, p5, n5, c5, by omega, by go_num, HGO, Lib.hid (rs_foot (hv5.later hb5) (((Foot.refl (fun b => b = w.heap.size ∨ b = gd) w5).row' (.inl rfl) _).setCell (p := ⟨gd, 4, none⟩) (.inl (.inr rfl)) _) (fun kk hk e => by have := hG kk hk; omega)), y1.far (by show w.heap.size ≠ gd; omega) _, (blk_put yd 4 _ rfl).1, ((hfoot.trans (Foot.of_below _ hb5)).row' (.inl rfl) _).setCell (p := ⟨gd, 4, none⟩) (.inl (.inr rfl)) _⟩
        case measure => simp [intOf]; omega
      · replace hi : ∀ W, (Instr.index 9 (.string s) (.int .i64 (k : Int))).run Tryz.prog W = .ok (.int .u8 77) W := hi
        have hget := Wire.GetNum_any _ sk G wr hG1 hv.out
        skip
        rw [show getO 5 sk = rdNum sk from rfl] at hgo2
        generalize rdNum sk = z at *
        have HGO := Lib.hid hgo2
        clear hgo2
        go_wp2_with (first
          | (refine wpList_load_row rfl 94 _ rfl w.heap.size rfl 94 _ (0, 0) _ hB1 Tryz.underlying94 rfl (sizeRd _ _) ?_)
          | (go_at_call 52; (with_reducible refine hget.mono ?_); clear hget; rintro e w5 ⟨⟨v5, rfl, hv5⟩, hb5⟩; obtain ⟨p5, n5, c5, rfl⟩ := hv5.shape; have x1 := hB1.below hb5 hB1.lt; have xd := hBD.below hb5 hBD.lt)
          | (refine wpList_store_row rfl 94 _ _ rfl w.heap.size #[.slice p5 n5 c5, .int .i64 (z.1.code : Int)] rfl rfl 94 _ x1 (sizeRd _ _) rfl (oneRd _ trivial) ?_; have y1 := x1.row #[.slice p5 n5 c5, .int .i64 (z.1.code : Int)]; have yd := xd.foot (foot_setRow w5 w.heap.size #[.slice p5 n5 c5, .int .i64 (z.1.code : Int)]) (by omega); have hcd : (w5.setRow w.heap.size #[.slice p5 n5 c5, .int .i64 (z.1.code : Int)]).cell? ⟨gd, 5, none⟩ = some (.int .u64 (dk.mask : Int)) := yd.cell 5; have hfd := yd.frozen 5))
        go_roundw
        case rel => exact ⟨k + 1, _, z.1, p5, n5, c5, by omega, by go_num, HGO, Lib.hid (rs_foot (hv5.later hb5) (((Foot.refl (fun b => b = w.heap.size ∨ b = gd) w5).row' (.inl rfl) _).setCell (p := ⟨gd, 5, none⟩) (.inl (.inr rfl)) _) (fun kk hk e => by have := hG kk hk; omega)), y1.far (by show w.heap.size ≠ gd; omega) _, (blk_put yd 5 _ rfl).1, ((hfoot.trans (Foot.of_below _ hb5)).row' (.inl rfl) _).setCell (p := ⟨gd, 5, none⟩) (.inl (.inr rfl)) _⟩
        case measure => simp [intOf]; omega
      · replace hi : ∀ W, (Instr.index 9 (.string s) (.int .i64 (k : Int))).run Tryz.prog W = .ok (.int .u8 76) W := hi
        have hget := Wire.GetTruth_any _ sk G wr hG1 hv.out
        skip
        rw [show getO 6 sk = ((truth (rdByte sk)).1, if (truth (rdByte sk)).2 = true then 1 else 0) from rfl] at hgo2
        generalize truth (rdByte sk) = z at *
        have HGO := Lib.hid hgo2
        clear hgo2
        go_wp2_with (first
          | (refine wpList_load_row rfl 94 _ rfl w.heap.size rfl 94 _ (0, 0) _ hB1 Tryz.underlying94 rfl (sizeRd _ _) ?_)
          | (go_at_call 135; (with_reducible refine hget.mono ?_); clear hget; rintro e w5 ⟨⟨v5, rfl, hv5⟩, hb5⟩; obtain ⟨p5, n5, c5, rfl⟩ := hv5.shape; have x1 := hB1.below hb5 hB1.lt; have xd := hBD.below hb5 hBD.lt)
          | (refine wpList_store_row rfl 94 _ _ rfl w.heap.size #[.slice p5 n5 c5, .int .i64 (z.1.code : Int)] rfl rfl 94 _ x1 (sizeRd _ _) rfl (oneRd _ trivial) ?_; have y1 := x1.row #[.slice p5 n5 c5, .int .i64 (z.1.code : Int)]; have yd := xd.foot (foot_setRow w5 w.heap.size #[.slice p5 n5 c5, .int .i64 (z.1.code : Int)]) (by omega); have hcd : (w5.setRow w.heap.size #[.slice p5 n5 c5, .int .i64 (z.1.code : Int)]).cell? ⟨gd, 6, none⟩ = some (.bool dk.loose) := yd.cell 6; have hfd := yd.frozen 6))
        go_roundw
        case rel => exact ⟨k + 1, _, z.1, p5, n5, c5, by omega, by go_num, HGO, Lib.hid (rs_foot (hv5.later hb5) (((Foot.refl (fun b => b = w.heap.size ∨ b = gd) w5).row' (.inl rfl) _).setCell (p := ⟨gd, 6, none⟩) (.inl (.inr rfl)) _) (fun kk hk e => by have := hG kk hk; omega)), y1.far (by show w.heap.size ≠ gd; omega) _, by rw [show (setD 6 (if z.2 = true then 1 else 0) dk).cells = (setD 6 (if z.2 = true then 1 else 0) dk).cells from rfl]; exact (blk_put yd 6 _ (by cases z.2 <;> rfl)).1, ((hfoot.trans (Foot.of_below _ hb5)).row' (.inl rfl) _).setCell (p := ⟨gd, 6, none⟩) (.inl (.inr rfl)) _⟩
        case measure => simp [intOf]; omega
    · obtain rfl : k = os.length := by omega
      have hgo2 := hgo.out
      rw [List.drop_length, getGo] at hgo2
      injection hgo2 with e1 e2
      subst e1 e2
      have hgood := RGood_any dk wr
      simp only [Deed.val] at hgood
      clear hgo
      by_cases hz : sk.code = 0
      · have hv0 := hv.out.back hbw5 hG
        rw [hz] at hv0
        have HV0 := Lib.hid hv0
        clear hv0
        have ty0 : ((sk.code : Int) == 0) = true := by rw [hz]; rfl
        rw [hz] at hB1
        have hc1 : wr.cell? ⟨w.heap.size, 1, none⟩ = some (.int .i64 0) := hB1.cell 1
        have HZ := Lib.hid hz
        clear hz ty0
        by_cases hg : goodD dk = true
        · have HDY := Lib.hid (HR0.out HZ.out hg)
          rw [hg] at hgood
          injection HDY.out with eD ey
          subst eD ey
          clear HDY hg HR0 HR1 HR2
          have HDY : Hid (((0 : Nat) : Int) = 0) := Lib.hid rfl
          go_wp2_with (first
            | (refine wpList_load_row_g rfl 109 _ rfl gd rfl 109 _ (0, 0) _ hBD Tryz.underlying109 rfl (sizeD _) ?_)
            | (go_at_call 70; (with_reducible refine hgood.mono ?_); clear hgood; rintro e w6 ⟨rfl, hb6⟩; have b1 := hB1.below hb6 hB1.lt; replace b2 := b2.below hb6 b2.lt; replace b3 := b3.below hb6 b3.lt; have bd := hBD.below hb6 hBD.lt; have hbw6 := below_pre hbw5 hb6; have hc6 : w6.cell? ⟨w.heap.size, 1, none⟩ = some (.int .i64 0) := b1.cell 1))
          replace b1 : Blk w6.drew w.heap.size 94 #[.slice pk nk ck, .int .i64 0] := b1
          replace b2 : Blk w6.drew (w.heap.size + 1) 94 #[.slice none 0 0, .int .i64 0] := b2
          replace b3 : Blk w6.drew (w.heap.size + 2) 109 zeroD.cells := b3
          replace bd : Blk w6.drew gd 109 D.cells := bd
          refine wp_region_held_drew (S := fun w' => Blk w' w.heap.size 94 #[.slice pk nk ck, .int .i64 0] ∧ Blk w' gd 109 D.cells) (by kernel_rfl) ⟨b1, bd⟩ (fun hS0 => ?_)
          refine wpAnyH_take (i := 0) (v := .agg #[.slice pk nk ck, .int .i64 0]) rfl (by kernel_rfl) (by kernel_rfl) (by kernel_rfl) (fun _ _ _ h => h) (yields_row (by rfl) 94 _ rfl w.heap.size rfl 94 _ (0, 0) _ (fun w1 hS1 => hS1.1) Tryz.underlying94 rfl (sizeRd _ _)) hS0 ?_
          try simp only [List.getElem_toArray, List.getElem_cons_zero, Act.put, List.setIfInBounds_toArray, List.set_cons_zero, List.set_cons_succ]
          refine wpAnyH_take (i := 1) (v := .agg D.cells) rfl (by kernel_rfl) (by kernel_rfl) (by kernel_rfl) (fun _ _ _ h => h) (yields_row (by rfl) 109 _ rfl gd rfl 109 _ (0, 0) _ (fun w1 hS1 => hS1.2) Tryz.underlying109 rfl (sizeD _)) hS0 ?_
          try simp only [List.getElem_toArray, List.getElem_cons_zero, List.getElem_cons_succ, Act.put, List.setIfInBounds_toArray, List.set_cons_zero, List.set_cons_succ]
          refine wpAnyH_ready (rs := [2]) (by kernel_rfl) (by simp) ?_
          refine AllReadyH.cons rfl (fun K hK => ?_) AllReadyH.nil
          refine step_store_row rfl 94 _ _ rfl (w.heap.size + 1) #[.slice pk nk ck, .int .i64 0] rfl rfl 94 _ b2 (sizeRd _ _) rfl (oneRd _ trivial) ?_
          have u2 := b2.row #[.slice pk nk ck, .int .i64 0]
          have u3 := b3.foot (foot_setRow _ (w.heap.size + 1) #[.slice pk nk ck, .int .i64 0]) (by omega)
          refine hK.out _ _ (⟨hS0.1.foot (foot_setRow _ (w.heap.size + 1) _) (by omega), hS0.2.foot (foot_setRow _ (w.heap.size + 1) _) (by omega)⟩) (fun hS1 => ?_); clear hK K
          refine wpAnyH_ready (rs := [3]) (by kernel_rfl) (by simp) ?_
          refine AllReadyH.cons rfl (fun K hK => ?_) AllReadyH.nil
          refine step_store_row rfl 109 _ _ rfl (w.heap.size + 2) D.cells rfl rfl 109 _ u3 (sizeD _) rfl (oneD _) ?_
          have q2 := u2.foot (foot_setRow _ (w.heap.size + 2) D.cells) (by omega)
          have q3 := u3.row D.cells
          refine hK.out _ _ (⟨hS1.1.foot (foot_setRow _ (w.heap.size + 2) _) (by omega), hS1.2.foot (foot_setRow _ (w.heap.size + 2) _) (by omega)⟩) (fun hS2 => ?_); clear hK K
          refine wpAnyH_done (by kernel_rfl) ?_ _
          go_wp2
          refine bodyPost_ret (results_row_row rfl _ _ (w.heap.size + 1) 94 #[.slice pk nk ck, .int .i64 0] (0, 0) _ rfl q2 Tryz.underlying94 rfl (sizeRd _ _) (w.heap.size + 2) 109 D.cells (0, 0) _ rfl q3 Tryz.underlying109 rfl (sizeD _)) rfl ?_
          have HB := (hbw6.drew.trans (foot_row (w := w6.drew) (B := w.heap.size) (r := w.heap.size + 1) #[.slice pk nk ck, .int .i64 0] (by omega))).trans (foot_row (B := w.heap.size) (r := w.heap.size + 2) D.cells (by omega))
          exact ⟨⟨_, _, _, rfl, HV0.out.later HB⟩, HB⟩
        · have hg' : goodD dk = false := by simpa using hg
          have HDY := Lib.hid (HR1.out HZ.out hg')
          rw [hg'] at hgood
          injection HDY.out with eD ey
          subst eD ey
          clear HDY hg hg' HR0 HR1 HR2
          go_wp2_with (first
            | (refine wpList_load_row_g rfl 109 _ rfl gd rfl 109 _ (0, 0) _ hBD Tryz.underlying109 rfl (sizeD _) ?_)
            | (go_at_call 70; (with_reducible refine hgood.mono ?_); clear hgood; rintro e w6 ⟨rfl, hb6⟩; replace b2 := b2.below hb6 b2.lt; replace b3 := b3.below hb6 b3.lt; have hbw6 := below_pre hbw5 hb6)
            | (refine wpList_store_row rfl 94 _ _ rfl (w.heap.size + 1) #[.slice none 0 0, .int .i64 5] rfl rfl 94 _ b2 (sizeRd _ _) rfl (oneRd _ trivial) ?_; have u2 := b2.row #[.slice none 0 0, .int .i64 5]; have u3 := b3.foot (foot_setRow _ (w.heap.size + 1) #[.slice none 0 0, .int .i64 5]) (by omega))
            | (refine wpList_store_row rfl 109 _ _ rfl (w.heap.size + 2) zeroD.cells rfl rfl 109 _ u3 (sizeD _) rfl (oneD _) ?_; have q2 := u2.foot (foot_setRow _ (w.heap.size + 2) zeroD.cells) (by omega); have q3 := u3.row zeroD.cells))
          refine bodyPost_ret (results_row_row rfl _ _ (w.heap.size + 1) 94 #[.slice none 0 0, .int .i64 5] (0, 0) _ rfl q2 Tryz.underlying94 rfl (sizeRd _ _) (w.heap.size + 2) 109 zeroD.cells (0, 0) _ rfl q3 Tryz.underlying109 rfl (sizeD _)) rfl ?_
          exact ⟨⟨_, _, _, rfl, Wire.RsV.nil (by decide)⟩, (hbw6.trans (foot_row _ (by omega))).trans (foot_row _ (by omega))⟩
      · have ty0 : ((sk.code : Int) == 0) = false := by rw [beq_eq_false_iff_ne]; omega
        have ty1 : ((sk.code : Int) != 0) = true := by simp; omega
        have HDY := Lib.hid (HR2.out hz)
        injection HDY.out with eD ey
        subst eD ey
        have hc1 : wr.cell? ⟨w.heap.size, 1, none⟩ = some (.int .i64 (sk.code : Int)) := hB1.cell 1
        have HZ := Lib.hid hz
        clear HDY hz HR0 HR1 HR2
        go_wp2_with (first
          | (refine wpList_load_row rfl 94 _ rfl w.heap.size rfl 94 _ (0, 0) _ hB1 Tryz.underlying94 rfl (sizeRd _ _) ?_)
          | (refine wpList_store_row rfl 94 _ _ rfl (w.heap.size + 1) #[.slice pk nk ck, .int .i64 (sk.code : Int)] rfl rfl 94 _ b2 (sizeRd _ _) rfl (oneRd _ trivial) ?_; have u2 := b2.row #[.slice pk nk ck, .int .i64 (sk.code : Int)]; have u3 := b3.foot (foot_setRow _ (w.heap.size + 1) #[.slice pk nk ck, .int .i64 (sk.code : Int)]) (by omega))
          | (refine wpList_store_row rfl 109 _ _ rfl (w.heap.size + 2) zeroD.cells rfl rfl 109 _ u3 (sizeD _) rfl (oneD _) ?_; have q2 := u2.foot (foot_setRow _ (w.heap.size + 2) zeroD.cells) (by omega); have q3 := u3.row zeroD.cells))
        refine bodyPost_ret (results_row_row rfl _ _ (w.heap.size + 1) 94 #[.slice pk nk ck, .int .i64 (sk.code : Int)] (0, 0) _ rfl q2 Tryz.underlying94 rfl (sizeRd _ _) (w.heap.size + 2) 109 zeroD.cells (0, 0) _ rfl q3 Tryz.underlying109 rfl (sizeD _)) rfl ?_
        exact ⟨⟨_, _, _, rfl, rs_bad hv.out HZ.out⟩, (hbw5.trans (foot_row _ (by omega))).trans (foot_row _ (by omega))⟩
end Go.Proofs.YtbdimfcdpkldpaaGreatDoor

namespace Go.Proofs.YtbdimfcdpkldpaaGreatDoor
open Go.RowKit
open Wire (RS rdByte rdNum truth RsV)

theorem RGet_any (p : Option Addr) (n c : Nat) (y0 : Int) (st : RS) (G : Nat → Prop) (w : World) (hG : ∀ k, G k → k < w.heap.size) (h : RsV w G (.agg #[.slice p n c, .int .i64 y0]) st) :
    Calls Tryz.prog 99 #[.agg #[.slice p n c, .int .i64 y0]] w fun e w' => (∃ p n c, e = .returned (.tuple #[.agg #[.slice p n c, .int .i64 ((getD st).2.2 : Int)], .agg (getD st).2.1.cells]) ∧ RsV w' G (.agg #[.slice p n c, .int .i64 ((getD st).2.2 : Int)]) (outS (getD st).2.2 (getD st).1)) ∧ Below w.heap.size w w' := by
  unfold getD
  by_cases hc : (rdByte st).1.code = 0
  · rw [if_pos hc]
    by_cases ho : isOp (rdByte st).2 = true
    · rw [if_pos ho]
      unfold getRest
      have hend := end_get ((rdByte st).2 : Int) ho (getAll (opr (rdByte st).2) (rdByte st).1).2 (getAll_len _ _)
      have hgo := getGo_eq (opr (rdByte st).2) (rdByte st).1 (opD (rdByte st).2)
      generalize getAll (opr ((rdByte st).2 : Int)) (rdByte st).1 = A at *
      generalize setAll (opr ((rdByte st).2 : Int)) A.2 (opD ((rdByte st).2 : Int)) = dF at *
      by_cases hz : A.1.code = 0
      · rw [if_pos hz, hend]
        by_cases hg : goodD dF = true
        · rw [if_pos hg]
          exact RGet_rest p n c y0 st G w hG h hc ho A.1 dF dF 0 hgo (fun _ _ => rfl) (fun _ k => by rw [hg] at k; cases k) (fun k => absurd hz k)
        · rw [if_neg hg]
          exact RGet_rest p n c y0 st G w hG h hc ho A.1 dF zeroD 5 hgo (fun _ k => absurd k hg) (fun _ _ => rfl) (fun k => absurd hz k)
      · rw [if_neg hz]
        exact RGet_rest p n c y0 st G w hG h hc ho A.1 dF zeroD A.1.code hgo (fun k => absurd k hz) (fun k => absurd k hz) (fun _ => rfl)
    · rw [if_neg ho]
      exact RGet_op p n c y0 st G w h hc ho
  · rw [if_neg hc]
    exact RGet_err p n c y0 st G w h hc
end Go.Proofs.YtbdimfcdpkldpaaGreatDoor
