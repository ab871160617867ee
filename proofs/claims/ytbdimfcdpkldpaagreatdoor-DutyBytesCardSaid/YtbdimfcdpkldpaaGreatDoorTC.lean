/- The contract of strings.Cut at a line feed. -/
import Derived.Test.YtbdimfcdpkldpaaGreatDoorLT1
import Derived.Test.YtbdimfcdpkldpaaGreatDoorShelf
import Derived.Test.YtbdimfcdpkldpaaGreatDoorLB
import Derived.Deep.QuietTactic
import Derived.BigQuiet
namespace Go.Proofs.YtbdimfcdpkldpaaGreatDoor
open Go.RowKit

theorem list_size (s : ByteArray) : s.data.toList.length = s.size := rfl

set_option maxHeartbeats 1000000 in
theorem cutLite_any (s : ByteArray) (hs : s.size ≤ 1100000) (w : World) :
    Calls Tryz.prog 72 #[.string s, .string ⟨#[10]⟩] w fun e w' => e = .returned (.tuple #[sV (cutB s.data.toList).1, sV (cutB s.data.toList).2.1, .bool (cutB s.data.toList).2.2]) ∧ Below w.heap.size w w' := by
  have hix := Tryz.stringslite_Index_one s 10 w
  have hge := Lib.indexByte_ge s.data.toList 10
  by_cases h1 : Lib.indexByte s.data.toList 10 = -1
  · rw [h1] at hix
    rw [cutB_none _ h1]
    clear h1 hge
    go_enter Tryz.func72, Tryz.ntmps72
    go_wp2_with (go_at_call 118; (with_reducible refine hix.mono ?_); clear hix; rintro e w1 ⟨rfl, rfl⟩)
    go_ret3
    exact ⟨rfl, Below.refl _ _⟩
  · obtain ⟨o, ho⟩ : ∃ o : Nat, Lib.indexByte s.data.toList 10 = o := ⟨(Lib.indexByte s.data.toList 10).toNat, by omega⟩
    obtain ⟨hlt, hc⟩ := cutB_some _ o ho
    rw [list_size] at hlt
    rw [ho] at hix
    have e1 : sV (s.data.toList.take o) = .string (s.extract 0 o) := by
      rw [← sV_data, extract_list]; simp
    have e2 : sV (s.data.toList.drop (o + 1)) = .string (s.extract (o + 1) s.size) := by
      rw [← sV_data, extract_list, List.take_of_length_le (by rw [List.length_drop, list_size]; omega)]
    rw [hc]
    simp only
    rw [e1, e2]
    clear h1 hge ho hc e1 e2
    go_enter Tryz.func72, Tryz.ntmps72
    go_wp2_with (go_at_call 118; (with_reducible refine hix.mono ?_); clear hix; rintro e w1 ⟨rfl, rfl⟩)
    go_quiet (fail)
    go_wp2
    go_ret3
    exact ⟨rfl, Below.drewN' (Below.refl _ _) _⟩
set_option maxHeartbeats 1000000 in
theorem cut_any (s : ByteArray) (hs : s.size ≤ 1100000) (w : World) :
    Calls Tryz.prog 35 #[.string s, .string ⟨#[10]⟩] w fun e w' => e = .returned (.tuple #[sV (cutB s.data.toList).1, sV (cutB s.data.toList).2.1, .bool (cutB s.data.toList).2.2]) ∧ Below w.heap.size w w' := by
  have h := cutLite_any s hs w
  unfold sV at h ⊢
  generalize ByteArray.mk (cutB s.data.toList).1.toArray = A at *
  generalize ByteArray.mk (cutB s.data.toList).2.1.toArray = B at *
  generalize (cutB s.data.toList).2.2 = C at *
  clear hs
  go_enter Tryz.func35, Tryz.ntmps35
  go_wp2_with (go_at_call 72; (with_reducible refine h.mono ?_); clear h; rintro e w1 ⟨rfl, hb⟩)
  go_ret3
  exact ⟨rfl, hb⟩

end Go.Proofs.YtbdimfcdpkldpaaGreatDoor
