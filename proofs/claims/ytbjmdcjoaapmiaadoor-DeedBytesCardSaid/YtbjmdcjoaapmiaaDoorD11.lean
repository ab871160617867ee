/- The contracts of deed's named and of the reference's op: the operation of a name. -/
import Derived.Test.YtbjmdcjoaapmiaaDoorD1
namespace Go.Proofs.YtbjmdcjoaapmiaaDoor
open Go.RowKit

/-- The operation of a name from k on, or 0. -/
def opFrom (l : List UInt8) (k : Nat) : Nat → Nat
  | 0 => 0
  | f + 1 => if nameN k = l then k else opFrom l (k + 1) f
def opOf (l : List UInt8) : Nat := opFrom l 1 11
theorem nameD_nat (k : Nat) (h1 : 1 ≤ k) (h2 : k ≤ 11) : nameD (k : Int) = nameN k := by
  unfold nameD
  rw [if_pos (by simp [isOp]; omega), Int.toNat_natCast]
theorem mk_list0 (l : List UInt8) : (ByteArray.mk l.toArray).data.toList = l := rfl
theorem str_eq (l : List UInt8) (s : ByteArray) : ((ByteArray.mk l.toArray).toList == s.toList) = decide (l = s.data.toList) := by
  rw [Lib.toList_data, Lib.toList_data, mk_list0]
  by_cases h : l = s.data.toList <;> simp [h]

set_option maxHeartbeats 1000000 in
theorem named_any (s : ByteArray) (w : World) :
    Calls Tryd.prog 38 #[.string s] w fun e w' => e = .returned (.tuple #[.int .i64 (opOf s.data.toList : Nat), .bool (decide (opOf s.data.toList ≠ 0))]) ∧ Below w.heap.size w w' := by
  generalize hR : opOf s.data.toList = R
  have HR := Lib.hid hR
  clear hR
  go_enter Tryd.func38, Tryd.ntmps38
  go_wp2
  go_loopw [4] (fun t wr => ∃ k : Nat, 1 ≤ k ∧ k ≤ 12 ∧ t = .int .i64 k ∧ Hid (opFrom s.data.toList k (12 - k) = R) ∧ Below w.heap.size w wr) (fun t _ => 12 - (intOf t).toNat)
  case atStart => exact ⟨1, by omega, by omega, rfl, HR, Below.refl _ _⟩
  case round =>
    obtain ⟨k, hk1, hk2, rfl, hc, hb⟩ := hrel
    by_cases hlt : k ≤ 11
    · have hnm := Name_any (k : Int) wr
      rw [nameD_nat k hk1 hlt, sV] at hnm
      have hc2 := hc.out
      rw [show 12 - k = (11 - k) + 1 by omega, opFrom] at hc2
      by_cases he : nameN k = s.data.toList
      · rw [if_pos he] at hc2
        subst hc2
        have ht := str_eq (nameN k) s
        rw [decide_eq_true he] at ht
        generalize (ByteArray.mk (nameN k).toArray) = nm at hnm ht
        clear hc he
        have hk0 : decide (k ≠ 0) = true := by simp; omega
        have HK0 := Lib.hid hk0
        clear hk0
        go_wp2_with (go_at_call 11; with_reducible refine hnm.mono ?_; clear hnm; rintro e w2 ⟨rfl, hb2⟩)
        go_ret2
        rw [HK0.out]
        exact ⟨rfl, hb.trans (hb2.mono hb.size)⟩
      · rw [if_neg he] at hc2
        have ht := str_eq (nameN k) s
        rw [decide_eq_false he] at ht
        generalize (ByteArray.mk (nameN k).toArray) = nm at hnm ht
        rw [show 11 - k = 12 - (k + 1) by omega] at hc2
        have HC2 := Lib.hid hc2
        clear hc he hc2
        go_wp2_with (go_at_call 11; with_reducible refine hnm.mono ?_; clear hnm; rintro e w2 ⟨rfl, hb2⟩)
        go_roundw
        case rel => exact ⟨k + 1, by omega, by omega, by go_num, HC2, hb.trans (hb2.mono hb.size)⟩
        case measure => simp [intOf]; omega
    · obtain rfl : k = 12 := by omega
      have hR0 : Hid (R = 0) := Lib.hid hc.out.symm
      clear hc
      go_wp2
      go_ret2
      rw [hR0.out]
      exact ⟨rfl, hb⟩

set_option maxHeartbeats 1000000 in
theorem rop_any (s : ByteArray) (w : World) :
    Calls Tryd.prog 44 #[.string s] w fun e w' => e = .returned (.int .i64 (opOf s.data.toList : Nat)) ∧ Below w.heap.size w w' := by
  generalize hR : opOf s.data.toList = R
  have HR := Lib.hid hR
  clear hR
  go_enter Tryd.func44, Tryd.ntmps44
  go_wp2
  go_loopw [3] (fun t wr => ∃ k : Nat, 1 ≤ k ∧ k ≤ 12 ∧ t = .int .i64 k ∧ Hid (opFrom s.data.toList k (12 - k) = R) ∧ Below w.heap.size w wr) (fun t _ => 12 - (intOf t).toNat)
  case atStart => exact ⟨1, by omega, by omega, rfl, HR, Below.refl _ _⟩
  case round =>
    obtain ⟨k, hk1, hk2, rfl, hc, hb⟩ := hrel
    by_cases hlt : k ≤ 11
    · have hnm := RName_any (k : Int) wr
      rw [nameD_nat k hk1 hlt, sV] at hnm
      have hc2 := hc.out
      rw [show 12 - k = (11 - k) + 1 by omega, opFrom] at hc2
      by_cases he : nameN k = s.data.toList
      · rw [if_pos he] at hc2
        subst hc2
        have ht := str_eq (nameN k) s
        rw [decide_eq_true he] at ht
        generalize (ByteArray.mk (nameN k).toArray) = nm at hnm ht
        clear hc he
        go_wp2_with (go_at_call 12; with_reducible refine hnm.mono ?_; clear hnm; rintro e w2 ⟨rfl, hb2⟩)
        go_ret
        exact ⟨rfl, hb.trans (hb2.mono hb.size)⟩
      · rw [if_neg he] at hc2
        have ht := str_eq (nameN k) s
        rw [decide_eq_false he] at ht
        generalize (ByteArray.mk (nameN k).toArray) = nm at hnm ht
        rw [show 11 - k = 12 - (k + 1) by omega] at hc2
        have HC2 := Lib.hid hc2
        clear hc he hc2
        go_wp2_with (go_at_call 12; with_reducible refine hnm.mono ?_; clear hnm; rintro e w2 ⟨rfl, hb2⟩)
        go_roundw
        case rel => exact ⟨k + 1, by omega, by omega, by go_num, HC2, hb.trans (hb2.mono hb.size)⟩
        case measure => simp [intOf]; omega
    · obtain rfl : k = 12 := by omega
      have hR0 : Hid (R = 0) := Lib.hid hc.out.symm
      clear hc
      go_wp2
      go_ret
      rw [hR0.out]
      exact ⟨rfl, hb⟩
end Go.Proofs.YtbjmdcjoaapmiaaDoor
