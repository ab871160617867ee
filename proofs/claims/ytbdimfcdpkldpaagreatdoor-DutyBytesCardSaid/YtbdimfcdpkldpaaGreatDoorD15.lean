/- The contract of the reference's Line. -/
import Derived.Test.YtbdimfcdpkldpaaGreatDoorLD2
import Derived.Test.YtbdimfcdpkldpaaGreatDoorLD3
namespace Go.Proofs.YtbdimfcdpkldpaaGreatDoor
open Go.RowKit

theorem data_append (a b : ByteArray) : (a ++ b).data.toList = a.data.toList ++ b.data.toList := by
  have e : ∀ x : ByteArray, x = ⟨x.data.toList.toArray⟩ := fun x => by simp
  rw [e a, e b, mk_append]
theorem app3 (S Z : ByteArray) : (S ++ ByteArray.mk #[32] ++ Z).data.toList = S.data.toList ++ 32 :: Z.data.toList := by
  rw [data_append, data_append, List.append_assoc]; rfl
theorem app3_size (S Z : ByteArray) : (S ++ ByteArray.mk #[32] ++ Z).size = S.size + 1 + Z.size := by
  rw [ByteArray.size_append, ByteArray.size_append]; rfl
theorem app_loose (S : ByteArray) : (S ++ ByteArray.mk #[32, 108, 111, 111, 115, 101]).data.toList = S.data.toList ++ 32 :: looseL := by
  rw [data_append]; rfl

set_option maxHeartbeats 400000 in
theorem RLine_bad (d : Deed) (hg : ¬ goodD d = true) (w : World) :
    Calls Tryz.prog 68 #[d.val] w fun e w' => e = .returned (sV (lineD d)) ∧ Below w.heap.size w w' := by
  have hgood := RGood_any d
  rw [show goodD d = false by simpa using hg] at hgood
  rw [show lineD d = [63] by unfold lineD; rw [if_neg hg]]
  have hblk0 := Blk.new w 109 d.cells
  have hb := below_alloc1 w (.cells d.cells 109)
  clear hg
  simp only [Deed.val] at hgood ⊢
  go_enter Tryz.func68, Tryz.ntmps68
  go_wp2_with (first
    | (refine wpList_box_agg rfl 109 _ rfl d.cells rfl ?_)
    | (refine wpList_load_row rfl 109 _ rfl w.heap.size rfl 109 _ (0, 0) _ hblk0 Tryz.underlying109 rfl (sizeD _) ?_)
    | (go_at_call 70; (with_reducible refine (hgood _).mono ?_); rintro e w' ⟨rfl, hb2⟩))
  go_ret
  exact ⟨rfl, below_pre hb hb2⟩

set_option maxHeartbeats 4000000 in
theorem RLine_good (d : Deed) (hd : d.ok) (hg : goodD d = true) (w : World) :
    Calls Tryz.prog 68 #[d.val] w fun e w' => e = .returned (sV (lineD d)) ∧ Below w.heap.size w w' := by
  have hop := good_op hg
  have hgood := RGood_any d
  rw [hg] at hgood
  have hname := RName_any d.op
  have hnl := nameD_len d.op
  have hparts := Parts_any d.op hop
  have h7 := Lib.hid (opr_lt d.op hop)
  have h5 := opr_len d.op hop
  have hix := Lib.hid (parts_ix d.op)
  have hsz := partsL_size d.op
  have hL : Hid (nameD d.op ++ (opr d.op).flatMap (fun o => textN o (ofD o d)) = lineD d) := Lib.hid (by unfold lineD; rw [if_pos hg])
  generalize lineD d = L at *
  have hblk0 := Blk.new w 109 d.cells
  have hb0 := below_alloc1 w (.cells d.cells 109)
  clear hg hop
  simp only [Deed.val] at hgood ⊢
  unfold sV at hname hparts
  obtain ⟨S, hS⟩ : ∃ S : ByteArray, S = ⟨(nameD d.op).toArray⟩ := ⟨_, rfl⟩
  have hSl : S.data.toList = nameD d.op := by rw [hS]
  have hSs : S.size ≤ 6 := by rw [hS, size_mk]; exact hnl
  rw [← hS] at hname
  rw [← hSl] at hL
  clear hS hSl hnl
  generalize (ByteArray.mk (partsL d.op).toArray) = s at *
  generalize opr d.op = os at *
  have hc0 : (w.alloc (.cells d.cells 109)).cell? ⟨w.heap.size, 0, none⟩ = some (.int .i64 d.op) := hblk0.cell 0
  go_enter Tryz.func68, Tryz.ntmps68
  go_wp2_with (first
    | (refine wpList_box_agg rfl 109 _ rfl d.cells rfl ?_)
    | (refine wpList_load_row rfl 109 _ rfl w.heap.size rfl 109 _ (0, 0) _ hblk0 Tryz.underlying109 rfl (sizeD _) ?_)
    | (go_at_call 70; (with_reducible refine (hgood _).mono ?_); clear hgood; rintro e w1 ⟨rfl, hb1⟩; have hblk1 := hblk0.below hb1 hblk0.lt; have hc1 : w1.cell? ⟨w.heap.size, 0, none⟩ = some (.int .i64 d.op) := hblk1.cell 0)
    | (go_at_call 113; (with_reducible refine (hname _).mono ?_); clear hname; rintro e w2 ⟨rfl, hb2⟩; have hblk2 := hblk1.below hb2 hblk1.lt; have hc2 : w2.cell? ⟨w.heap.size, 0, none⟩ = some (.int .i64 d.op) := hblk2.cell 0)
    | (go_at_call 114; (with_reducible refine (hparts _).mono ?_); clear hparts; rintro e w3 ⟨rfl, hb3⟩; have hblk3 := hblk2.below hb3 hblk2.lt))
  have hbw1 : Below w.heap.size w w1 := below_pre hb0 hb1
  have hbw2 : Below w.heap.size w w2 := below_pre hbw1 hb2
  have hbw3 : Below w.heap.size w w3 := below_pre hbw2 hb3
  clear hblk0 hblk1 hblk2 hc0 hc1 hc2 hb0 hb1 hb2 hb3 hbw1 hbw2
  go_loopw [3, 5] (fun vs t wr => ∃ (k : Nat) (S : ByteArray), k ≤ os.length ∧ t = .int .i64 k ∧ vs = .string S ∧ Hid (S.data.toList ++ (os.drop k).flatMap (fun o => textN o (ofD o d)) = L) ∧ S.size ≤ 6 + 22 * k ∧ Blk wr w.heap.size 109 d.cells ∧ Below w.heap.size w wr) (fun _ t _ => os.length - (intOf t).toNat)
  case atStart => exact ⟨0, S, by omega, rfl, rfl, hL, by omega, hblk3, hbw3⟩
  case round =>
    clear hL hSs
    obtain ⟨k, S, hk, rfl, rfl, hl, hll, hblk, hbw⟩ := hrel
    by_cases hlt : k < os.length
    · obtain ⟨o, ho1⟩ : ∃ o, os[k]? = some o := ⟨_, List.getElem?_eq_getElem hlt⟩
      have ho7 := h7.out o (List.mem_of_getElem? ho1)
      have hl2 := hl.out
      rw [drop_cons os k o ho1, List.flatMap_cons, ← List.append_assoc] at hl2
      have hi := hix.out k o ho1
      clear hl ho1
      rcases o_cases ho7 with rfl | rfl | rfl | rfl | rfl | rfl | rfl
      · replace hi : ∀ W, (Instr.index 9 (.string s) (.int .i64 (k : Int))).run Tryz.prog W = .ok (.int .u8 65) W := hi
        have hcell : wr.cell? ⟨w.heap.size, 1, none⟩ = some (.int .i64 d.a) := hblk.cell 1
        have hp := RPrint_any (wrapN d.a) (wrapN_lt d.a hd.a) wr
        rw [← wrapN_eq d.a hd.a] at hp
        have hzs : (Lib.decDigits (wrapN d.a)).length ≤ 21 := by have := dec_len 19 (wrapN d.a) (by have := wrapN_lt d.a hd.a; omega); omega
        obtain ⟨Z, hZ⟩ : ∃ Z : ByteArray, Z = ⟨(Lib.decDigits (wrapN d.a)).toArray⟩ := ⟨_, rfl⟩
        have hZl : Z.data.toList = Lib.decDigits (wrapN d.a) := by rw [hZ]
        have hZs : Z.size ≤ 21 := by rw [hZ, size_mk]; exact hzs
        rw [← hZ] at hp
        replace hl2 : (S.data.toList ++ 32 :: Lib.decDigits (wrapN d.a)) ++ (os.drop (k + 1)).flatMap (fun o => textN o (ofD o d)) = L := hl2
        rw [← hZl, ← app3] at hl2
        have HL2 := Lib.hid hl2
        clear hl2 hZ hZl hzs
        go_wp2_with (go_at_call 27; (with_reducible refine hp.mono ?_); clear hp; rintro e w2 ⟨rfl, rfl⟩)
        go_roundw
        case rel => exact ⟨k + 1, _, by omega, by go_num, rfl, HL2, by rw [app3_size]; omega, hblk, hbw⟩
        case measure => simp [intOf]; omega
      · replace hi : ∀ W, (Instr.index 9 (.string s) (.int .i64 (k : Int))).run Tryz.prog W = .ok (.int .u8 66) W := hi
        have hcell : wr.cell? ⟨w.heap.size, 2, none⟩ = some (.int .i64 d.b) := hblk.cell 2
        have hp := RPrint_any (wrapN d.b) (wrapN_lt d.b hd.b) wr
        rw [← wrapN_eq d.b hd.b] at hp
        have hzs : (Lib.decDigits (wrapN d.b)).length ≤ 21 := by have := dec_len 19 (wrapN d.b) (by have := wrapN_lt d.b hd.b; omega); omega
        obtain ⟨Z, hZ⟩ : ∃ Z : ByteArray, Z = ⟨(Lib.decDigits (wrapN d.b)).toArray⟩ := ⟨_, rfl⟩
        have hZl : Z.data.toList = Lib.decDigits (wrapN d.b) := by rw [hZ]
        have hZs : Z.size ≤ 21 := by rw [hZ, size_mk]; exact hzs
        rw [← hZ] at hp
        replace hl2 : (S.data.toList ++ 32 :: Lib.decDigits (wrapN d.b)) ++ (os.drop (k + 1)).flatMap (fun o => textN o (ofD o d)) = L := hl2
        rw [← hZl, ← app3] at hl2
        have HL2 := Lib.hid hl2
        clear hl2 hZ hZl hzs
        go_wp2_with (go_at_call 27; (with_reducible refine hp.mono ?_); clear hp; rintro e w2 ⟨rfl, rfl⟩)
        go_roundw
        case rel => exact ⟨k + 1, _, by omega, by go_num, rfl, HL2, by rw [app3_size]; omega, hblk, hbw⟩
        case measure => simp [intOf]; omega
      · replace hi : ∀ W, (Instr.index 9 (.string s) (.int .i64 (k : Int))).run Tryz.prog W = .ok (.int .u8 82) W := hi
        have hcell : wr.cell? ⟨w.heap.size, 3, none⟩ = some (.int .i64 d.r) := hblk.cell 3
        have hp := RPrint_any (wrapN d.r) (wrapN_lt d.r hd.r) wr
        rw [← wrapN_eq d.r hd.r] at hp
        have hzs : (Lib.decDigits (wrapN d.r)).length ≤ 21 := by have := dec_len 19 (wrapN d.r) (by have := wrapN_lt d.r hd.r; omega); omega
        obtain ⟨Z, hZ⟩ : ∃ Z : ByteArray, Z = ⟨(Lib.decDigits (wrapN d.r)).toArray⟩ := ⟨_, rfl⟩
        have hZl : Z.data.toList = Lib.decDigits (wrapN d.r) := by rw [hZ]
        have hZs : Z.size ≤ 21 := by rw [hZ, size_mk]; exact hzs
        rw [← hZ] at hp
        replace hl2 : (S.data.toList ++ 32 :: Lib.decDigits (wrapN d.r)) ++ (os.drop (k + 1)).flatMap (fun o => textN o (ofD o d)) = L := hl2
        rw [← hZl, ← app3] at hl2
        have HL2 := Lib.hid hl2
        clear hl2 hZ hZl hzs
        go_wp2_with (go_at_call 27; (with_reducible refine hp.mono ?_); clear hp; rintro e w2 ⟨rfl, rfl⟩)
        go_roundw
        case rel => exact ⟨k + 1, _, by omega, by go_num, rfl, HL2, by rw [app3_size]; omega, hblk, hbw⟩
        case measure => simp [intOf]; omega
      · replace hi : ∀ W, (Instr.index 9 (.string s) (.int .i64 (k : Int))).run Tryz.prog W = .ok (.int .u8 78) W := hi
        have hcell : wr.cell? ⟨w.heap.size, 4, none⟩ = some (.int .u64 (d.n : Int)) := hblk.cell 4
        have hp := RPrint_any (d.n) (hd.n) wr
        skip
        have hzs : (Lib.decDigits d.n).length ≤ 21 := by have := dec_len 19 (d.n) (by have := hd.n; omega); omega
        obtain ⟨Z, hZ⟩ : ∃ Z : ByteArray, Z = ⟨(Lib.decDigits d.n).toArray⟩ := ⟨_, rfl⟩
        have hZl : Z.data.toList = Lib.decDigits d.n := by rw [hZ]
        have hZs : Z.size ≤ 21 := by rw [hZ, size_mk]; exact hzs
        rw [← hZ] at hp
        replace hl2 : (S.data.toList ++ 32 :: Lib.decDigits d.n) ++ (os.drop (k + 1)).flatMap (fun o => textN o (ofD o d)) = L := hl2
        rw [← hZl, ← app3] at hl2
        have HL2 := Lib.hid hl2
        clear hl2 hZ hZl hzs
        go_wp2_with (go_at_call 27; (with_reducible refine hp.mono ?_); clear hp; rintro e w2 ⟨rfl, rfl⟩)
        go_roundw
        case rel => exact ⟨k + 1, _, by omega, by go_num, rfl, HL2, by rw [app3_size]; omega, hblk, hbw⟩
        case measure => simp [intOf]; omega
      · replace hi : ∀ W, (Instr.index 9 (.string s) (.int .i64 (k : Int))).run Tryz.prog W = .ok (.int .u8 78) W := hi
        have hcell : wr.cell? ⟨w.heap.size, 4, none⟩ = some (.int .u64 (d.n : Int)) := hblk.cell 4
        have hp := RPrint_any (d.n) (hd.n) wr
        skip
        have hzs : (Lib.decDigits d.n).length ≤ 21 := by have := dec_len 19 (d.n) (by have := hd.n; omega); omega
        obtain ⟨Z, hZ⟩ : ∃ Z : ByteArray, Z = ⟨(Lib.decDigits d.n).toArray⟩ := ⟨_, rfl⟩
        have hZl : Z.data.toList = Lib.decDigits d.n := by rw [hZ]
        have hZs : Z.size ≤ 21 := by rw [hZ, size_mk]; exact hzs
        rw [← hZ] at hp
        replace hl2 : (S.data.toList ++ 32 :: Lib.decDigits d.n) ++ (os.drop (k + 1)).flatMap (fun o => textN o (ofD o d)) = L := hl2
        rw [← hZl, ← app3] at hl2
        have HL2 := Lib.hid hl2
        clear hl2 hZ hZl hzs
        go_wp2_with (go_at_call 27; (with_reducible refine hp.mono ?_); clear hp; rintro e w2 ⟨rfl, rfl⟩)
        go_roundw
        case rel => exact ⟨k + 1, _, by omega, by go_num, rfl, HL2, by rw [app3_size]; omega, hblk, hbw⟩
        case measure => simp [intOf]; omega
      · replace hi : ∀ W, (Instr.index 9 (.string s) (.int .i64 (k : Int))).run Tryz.prog W = .ok (.int .u8 77) W := hi
        have hcell : wr.cell? ⟨w.heap.size, 5, none⟩ = some (.int .u64 (d.mask : Int)) := hblk.cell 5
        have hp := RHex_any (d.mask) (hd.mask) wr
        skip
        have hzs : (hexN 16 d.mask).length ≤ 21 := by rw [hexN_len]; decide
        obtain ⟨Z, hZ⟩ : ∃ Z : ByteArray, Z = ⟨(hexN 16 d.mask).toArray⟩ := ⟨_, rfl⟩
        have hZl : Z.data.toList = hexN 16 d.mask := by rw [hZ]
        have hZs : Z.size ≤ 21 := by rw [hZ, size_mk]; exact hzs
        rw [← hZ] at hp
        replace hl2 : (S.data.toList ++ 32 :: hexN 16 d.mask) ++ (os.drop (k + 1)).flatMap (fun o => textN o (ofD o d)) = L := hl2
        rw [← hZl, ← app3] at hl2
        have HL2 := Lib.hid hl2
        clear hl2 hZ hZl hzs
        go_wp2_with (go_at_call 28; (with_reducible refine hp.mono ?_); clear hp; rintro e w2 ⟨rfl, rfl⟩)
        go_roundw
        case rel => exact ⟨k + 1, _, by omega, by go_num, rfl, HL2, by rw [app3_size]; omega, hblk, hbw⟩
        case measure => simp [intOf]; omega
      · replace hi : ∀ W, (Instr.index 9 (.string s) (.int .i64 (k : Int))).run Tryz.prog W = .ok (.int .u8 76) W := hi
        have hcell : wr.cell? ⟨w.heap.size, 6, none⟩ = some (.bool d.loose) := hblk.cell 6
        by_cases hlo : d.loose = true
        · rw [hlo] at hcell
          have e6 : ofD 6 d = 1 := by unfold ofD; simp [hlo]
          rw [e6] at hl2
          replace hl2 : (S.data.toList ++ 32 :: looseL) ++ (os.drop (k + 1)).flatMap (fun o => textN o (ofD o d)) = L := hl2
          rw [← app_loose] at hl2
          have HL2 := Lib.hid hl2
          clear hl2 hlo e6
          go_wp2
          go_roundw
          case rel => exact ⟨k + 1, _, by omega, by go_num, rfl, HL2, by rw [ByteArray.size_append]; show S.size + 6 ≤ _; omega, hblk, hbw⟩
          case measure => simp [intOf]; omega
        · have hlo' : d.loose = false := by simpa using hlo
          rw [hlo'] at hcell
          have e6 : ofD 6 d = 0 := by unfold ofD; simp [hlo']
          rw [e6] at hl2
          replace hl2 : (S.data.toList ++ []) ++ (os.drop (k + 1)).flatMap (fun o => textN o (ofD o d)) = L := hl2
          rw [List.append_nil] at hl2
          have HL2 := Lib.hid hl2
          clear hl2 hlo hlo' e6
          go_wp2
          go_roundw
          case rel => exact ⟨k + 1, _, by omega, by go_num, rfl, HL2, by omega, hblk, hbw⟩
          case measure => simp [intOf]; omega
    · obtain rfl : k = os.length := by omega
      have hl2 := hl.out
      rw [List.drop_length, List.flatMap_nil, List.append_nil] at hl2
      clear hl
      have HL2 := Lib.hid hl2
      clear hl2
      go_wp2
      go_ret
      have hfin : Value.string S = sV L := by rw [← HL2.out]; exact (sV_data S).symm
      exact ⟨congrArg Ending.returned hfin, hbw⟩
theorem RLine_any (d : Deed) (hd : d.ok) (w : World) :
    Calls Tryz.prog 68 #[d.val] w fun e w' => e = .returned (sV (lineD d)) ∧ Below w.heap.size w w' := by
  by_cases h : goodD d = true
  · exact RLine_good d hd h w
  · exact RLine_bad d h w
end Go.Proofs.YtbdimfcdpkldpaaGreatDoor
