/- The contract of the reference's Check of programs. -/
import Derived.Test.YtbdimfcdpkldpaaGreatDoorQ1
import Derived.Test.YtbdimfcdpkldpaaGreatDoorLD2
namespace Go.Proofs.YtbdimfcdpkldpaaGreatDoor
open Go.RowKit

set_option maxHeartbeats 1000000 in
theorem RCheck_any (p : Option Addr) (c : Nat) (ps : List Deed) (G : Nat → Prop) (w : World) (h : RP w G (.slice p ps.length c) ps) :
    Calls Tryz.prog 33 #[.slice p ps.length c] w fun e w' => e = .returned (.int .i64 (checkN ps : Nat)) ∧ Below w.heap.size w w' := by
  by_cases hl : 256 < ps.length
  · have hc : checkN ps = 4 := by unfold checkN; rw [if_pos hl]
    rw [hc]
    have ht : decide ((ps.length : Int) > 256) = true := by simp; omega
    clear hl h hc
    go_enter Tryz.func33, Tryz.ntmps33
    go_wp2
    go_ret
    exact ⟨rfl, Below.refl _ _⟩
  · have HC : Hid (∀ b, goodP ps = b → checkN ps = if b = true then 0 else 1) := Lib.hid (by rintro _ rfl; unfold checkN; rw [if_neg hl])
    have ht : decide ((ps.length : Int) > 256) = false := by simp; omega
    have H := Lib.hid h
    have hl6 : ps.length ≤ 256 := by omega
    clear hl h
    go_enter Tryz.func33, Tryz.ntmps33
    go_wp2
    go_loopw [3] (fun t wr => ∃ k : Nat, k ≤ ps.length ∧ t = .int .i64 k ∧ Hid (∀ d ∈ ps.take k, goodD d = true) ∧ Hid (RP wr G (.slice p ps.length c) ps) ∧ Below w.heap.size w wr) (fun t _ => ps.length - (intOf t).toNat)
    case atStart => exact ⟨0, by omega, rfl, Lib.hid (by simp), H, Below.refl _ _⟩
    case round =>
      obtain ⟨k, hk, rfl, hg, hR, hb⟩ := hrel
      by_cases hlt : k < ps.length
      · obtain ⟨d, hd⟩ : ∃ d, ps[k]? = some d := ⟨_, List.getElem?_eq_getElem hlt⟩
        obtain ⟨b, off, rfl, _, _, hra, _⟩ := hR.out.at hd
        have hgood := RGood_any d
        have HD := Lib.hid hd
        clear hd H
        simp only [Deed.val] at hgood
        cases hgd : goodD d
        all_goals
          rw [hgd] at hgood
          have HG := Lib.hid hgd
          clear hgd
          go_wp2_with (first
            | (refine wpList_load_deed rfl _ rfl b (off + k * 7) rfl d hra ?_)
            | (go_at_call 70; (with_reducible refine (hgood _).mono ?_); clear hgood; rintro e w2 ⟨rfl, hb2⟩))
        · go_ret
          exact ⟨ret_i (by rw [HC.out false (goodP_not HD.out HG.out)]; rfl), below_pre hb hb2⟩
        · go_roundw
          case rel => exact ⟨k + 1, by omega, by go_num, Lib.hid (goodP_take hg.out d HD.out HG.out), Lib.hid (hR.out.later hb2), below_pre hb hb2⟩
          case measure => simp [intOf]; omega
      · obtain rfl : k = ps.length := by omega
        have hgp := hg.out
        rw [List.take_length] at hgp
        go_wp2
        go_ret
        exact ⟨ret_i (by rw [HC.out true (goodP_all hgp)]; rfl), hb⟩
end Go.Proofs.YtbdimfcdpkldpaaGreatDoor
