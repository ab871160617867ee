/- The contract of the statements' own example, and the walks of NumsPrints, NumsReads, NumsHexes and NumsWords. -/
import Derived.Test.YtdgcgedppebjfaaDoorN10
namespace Go.Proofs.YtdgcgedppebjfaaDoor
open Go.RowKit

theorem mk_list (l : List UInt8) : (ByteArray.mk l.toArray).data.toList = l := by simp
theorem ex_seven : readL (ByteArray.mk #[48, 48, 55]).data.toList = (0, 3) := by decide +kernel
theorem ex_great : readL (ByteArray.mk #[49, 56, 52, 52, 54, 55, 52, 52, 48, 55, 51, 55, 48, 57, 53, 53, 49, 54, 49, 54]).data.toList = (0, 5) := by decide +kernel
theorem ex_hex : (ByteArray.mk (hexN 16 255).toArray) = ⟨#[48, 48, 48, 48, 48, 48, 48, 48, 48, 48, 48, 48, 48, 48, 102, 102]⟩ := by decide +kernel
theorem ex_words : wordsGo [] (ByteArray.mk #[32, 97, 32, 32, 98, 99, 32]).data.toList = [[97], [98, 99]] := by decide +kernel
theorem ex_reads (w : World) : ReadsS (w.alloc (.cells #[.string ⟨#[97]⟩, .string ⟨#[98, 99]⟩] 9)) (.slice (some ⟨w.heap.size, 0, none⟩) 2 2) [[97], [98, 99]] := by
  refine ⟨_, 2, rfl, .inr ⟨w.heap.size, 0, rfl, by simp, fun j hj => ?_⟩⟩
  rw [cell_of_row _ _ _ _ _ _ (heap_alloc_new w _), Nat.zero_add]
  match j, hj with
  | 0, _ => rfl
  | 1, _ => rfl

set_option maxHeartbeats 800000 in
theorem awake_any (w : World) (hT : Tabs w) :
    Calls Tryd.prog 13 #[] w fun e w' => e = .returned (.bool true) ∧ Below w.heap.size w w' := by
  have HT := Lib.hid hT
  have h7 := Read_any ⟨#[48, 48, 55]⟩
  have hg := Read_any ⟨#[49, 56, 52, 52, 54, 55, 52, 52, 48, 55, 51, 55, 48, 57, 53, 53, 49, 54, 49, 54]⟩
  have hw := Words_any ⟨#[32, 97, 32, 32, 98, 99, 32]⟩ (by decide)
  have hx := Hex_any 255 (by decide)
  rw [ex_seven] at h7
  rw [ex_great] at hg
  rw [ex_words] at hw
  rw [ex_hex] at hx
  clear hT
  go_enter Tryd.func13, Tryd.ntmps13
  go_wp2_with fail
  refine (h7 _).mono ?_
  rintro e w1 ⟨rfl, hb1⟩
  go_wp2_with fail
  refine (hg _).mono ?_
  rintro e w2 ⟨rfl, hb2⟩
  have hb12 := hb1.trans (hb2.mono hb1.size)
  have HT2 := Lib.hid (HT.out.below hb12 (Nat.le_refl _))
  go_wp2_with fail
  refine (hx _ HT2.out).mono ?_
  rintro e w3 ⟨rfl, hb3⟩
  have hb13 := hb12.trans (hb3.mono hb12.size)
  go_wp2_with fail
  refine (hw _).mono ?_
  rintro e w4 ⟨v, rfl, hown, hb4⟩
  have hb14 := hb13.trans (hb4.mono hb13.size)
  have HR := Lib.hid ((ReadsS.of_own hown).below ((Below.refl _ _).alloc (Nat.le_refl _) (.cells #[.string ⟨#[97]⟩, .string ⟨#[98, 99]⟩] 9)) (Nat.le_refl _))
  clear hown
  go_wp2_with fail
  refine (Same_any v _ _ (by decide) _ HR.out (ex_reads w4)).mono ?_
  rintro e w5 ⟨rfl, hb5⟩
  go_wp2
  go_ret
  exact ⟨rfl, (hb14.alloc hb14.size _).trans (hb5.mono (by have := hb14.size; simp; omega))⟩
end Go.Proofs.YtdgcgedppebjfaaDoor
