/- The walks of the four statements of layer 1: each returns true, and nothing that lay has turned. -/
import Derived.Test.YtjdklmglljhjhaaDoorCyc
namespace Go.Proofs.YtjdklmglljhjhaaDoor
open Go.RowKit

theorem neq_self (a : Int) : (a != a) = false := by simp
theorem tab_pos {w : World} (hT : TabAt 0 Lib.deBruijn64tab w) : 0 < w.heap.size := block_lt_of_cell (hT 0 (by decide))

set_option maxHeartbeats 800000 in
theorem Tell_walk (n : Nat) (hn : n < 18446744073709551616) (i : Int) (w : World) (hT : TabAt 0 Lib.deBruijn64tab w) :
    Calls Tryd.prog 4 #[.int .u64 n, .int .i64 i] w fun e w' => e = .returned (.bool true) ∧ Below w.heap.size w w' := by
  have h0 := tab_pos hT
  have HT := Lib.hid hT
  clear hT
  go_enter Tryd.func4, Tryd.ntmps4
  go_wp2_with fail
  refine (Count_any n hn _).mono ?_
  rintro e w1 ⟨rfl, rfl⟩
  go_wp2_with fail
  refine (List_any n hn _).mono ?_
  rintro e w1 ⟨v, rfl, hown, hb1⟩
  obtain ⟨p, c, rfl, hr⟩ := Reads.of_own hown
  clear hr hown
  have HT1 := Lib.hid (tab_below HT.out hb1 h0)
  go_wp2_with fail
  refine (Least_any n hn _ HT1.out).mono ?_
  rintro e w2 ⟨rfl, rfl⟩
  go_wp2_with fail
  refine (RLeast_any n hn _).mono ?_
  rintro e w2 ⟨rfl, hb2⟩
  have hb12 := hb1.trans (hb2.mono hb1.size)
  have HT2 := Lib.hid (tab_below HT.out hb12 h0)
  go_wp2_with fail
  refine (Next_any n hn i _ HT2.out).mono ?_
  rintro e w3 ⟨rfl, rfl⟩
  go_wp2_with fail
  refine (RNext_any n hn i _).mono ?_
  rintro e w3 ⟨rfl, hb3⟩
  have hb13 := hb12.trans (hb3.mono hb12.size)
  have HT3 := Lib.hid (tab_below HT.out hb13 h0)
  go_wp2_with fail
  refine (Text_any n hn _ HT3.out).mono ?_
  rintro e w4 ⟨rfl, hb4⟩
  have hb14 := hb13.trans (hb4.mono hb13.size)
  have HT4 := Lib.hid (tab_below HT.out hb14 h0)
  go_wp2_with fail
  refine (RText_any n hn _).mono ?_
  rintro e w5 ⟨rfl, hb5⟩
  have hb15 := hb14.trans (hb5.mono hb14.size)
  have HT5 := Lib.hid (tab_below HT.out hb15 h0)
  go_wp2_with fail
  refine (awake_any _ HT5.out).mono ?_
  rintro e w6 ⟨rfl, hb6⟩
  go_wp2
  go_ret
  exact ⟨rfl, hb15.trans (hb6.mono hb15.size)⟩

set_option maxHeartbeats 800000 in
theorem Hold_walk (v : Value) (xs : List Int) (hx : xs.length ≤ maxLen) (n : Nat) (hn : n < 18446744073709551616) (i : Int) (w : World) (hR : Reads w v xs) (hT : TabAt 0 Lib.deBruijn64tab w) :
    Calls Tryd.prog 3 #[v, .int .u64 n, .int .i64 i] w fun e w' => e = .returned (.bool true) ∧ Below w.heap.size w w' := by
  have h0 := tab_pos hT
  have HT := Lib.hid hT
  have HR := Lib.hid hR
  clear hT hR
  have hl9 : (xs.take 90).length ≤ maxLen := by rw [List.length_take]; unfold maxLen; omega
  go_enter Tryd.func3, Tryd.ntmps3
  go_wp2_with fail
  refine (few_any v xs hx _ HR.out).mono ?_
  rintro e w1 ⟨v1, rfl, hown, hb1⟩
  have HR1 := Lib.hid (Reads.of_own hown)
  clear hown
  generalize xs.take 90 = ys at HR1 hl9
  go_wp2_with fail
  refine (Of_any v1 ys hl9 _ HR1.out).mono ?_
  rintro e w2 ⟨rfl, rfl⟩
  go_wp2_with fail
  refine (ROf_any v1 ys hl9 _ HR1.out).mono ?_
  rintro e w2 ⟨rfl, hb2⟩
  have hb12 := hb1.trans (hb2.mono hb1.size)
  have hne1 := neq_self (ofN ys : Int)
  go_wp2_with fail
  refine (All_any i _).mono ?_
  rintro e w3 ⟨rfl, rfl⟩
  go_wp2_with fail
  refine (RAll_any i _).mono ?_
  rintro e w3 ⟨rfl, hb3⟩
  have hb13 := hb12.trans (hb3.mono hb12.size)
  have hne2 := neq_self (allN i : Int)
  go_wp2_with fail
  refine (Has_any n hn i _).mono ?_
  rintro e w4 ⟨rfl, rfl⟩
  go_wp2_with fail
  refine (RHas_any n hn i _).mono ?_
  rintro e w4 ⟨rfl, hb4⟩
  have hb14 := hb13.trans (hb4.mono hb13.size)
  have hne3 : (hasN n i != hasN n i) = false := by simp
  go_wp2_with fail
  refine (With_any n hn i _).mono ?_
  rintro e w5 ⟨rfl, rfl⟩
  go_wp2_with fail
  refine (Put_any n hn i true _).mono ?_
  rintro e w5 ⟨rfl, hb5⟩
  have hb15 := hb14.trans (hb5.mono hb14.size)
  go_wp2_with fail
  refine (Without_any n hn i _).mono ?_
  rintro e w6 ⟨rfl, rfl⟩
  go_wp2_with fail
  refine (Put_any n hn i false _).mono ?_
  rintro e w6 ⟨rfl, hb6⟩
  have hb16 := hb15.trans (hb6.mono hb15.size)
  have HT6 := Lib.hid (tab_below HT.out hb16 h0)
  go_wp2_with fail
  refine (awake_any _ HT6.out).mono ?_
  rintro e w7 ⟨rfl, hb7⟩
  go_wp2
  go_ret
  exact ⟨rfl, hb16.trans (hb7.mono hb16.size)⟩
end Go.Proofs.YtjdklmglljhjhaaDoor
