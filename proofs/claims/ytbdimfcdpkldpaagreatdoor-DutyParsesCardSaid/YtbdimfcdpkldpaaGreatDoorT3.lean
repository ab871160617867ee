/- The contract of the reference's Lines. -/
import Derived.Test.YtbdimfcdpkldpaaGreatDoorLT1
import Derived.Test.YtbdimfcdpkldpaaGreatDoorLN2
import Derived.Test.YtbdimfcdpkldpaaGreatDoorLB
namespace Go.Proofs.YtbdimfcdpkldpaaGreatDoor
open Go.RowKit

set_option maxHeartbeats 2000000 in
theorem RLines_any (s : ByteArray) (hs : s.size ≤ 1100000) (D : List (List UInt8)) (hD : linesL s.data.toList = D) (w : World) :
    Calls Tryz.prog 39 #[.string s] w fun e w' => ∃ v, e = .returned v ∧ w'.ownsRow w.heap.size 9 1 v D.length (D.map sV) ∧ Below w.heap.size w w' := by
  obtain ⟨i0, hi, hz0, hz1, hz2⟩ := info_parts infoS
  have HD := Lib.hid hD
  clear hD
  go_enter Tryz.func39, Tryz.ntmps39
  go_wp2
  go_loopw [3, 4, 5] (fun v vst vi wr => ∃ (i st : Nat) (ws : List (List UInt8)), vi = .int .i64 i ∧ vst = .int .i64 st ∧ i ≤ s.size + 1 ∧ ws.length ≤ i ∧ (i ≤ s.size → st ≤ i) ∧ Below w.heap.size w wr ∧
    wr.ownsRow w.heap.size 9 1 v ws.length (ws.map sV) ∧ Hid ((i ≤ s.size → ws ++ linesGo ((s.data.toList.drop st).take (i - st)) (s.data.toList.drop i) = D) ∧ (¬ i ≤ s.size → ws = D))) (fun _ _ vi _ => s.size + 1 - (intOf vi).toNat)
  case atStart => exact ⟨0, 0, [], rfl, rfl, by omega, by simp, fun _ => by omega, Below.refl _ _, World.ownsRow_nil _ _ _ _, Lib.hid ⟨fun _ => by simpa [linesL] using HD.out, fun h => by omega⟩⟩
  case round =>
    obtain ⟨i, st, ws, rfl, rfl, his, hwl, hsi0, hb, hown, HW⟩ := hrel
    by_cases hle : i ≤ s.size
    · have hsi := hsi0 hle
      have hW := HW.out.1 hle
      clear HW hsi0
      by_cases hlt : i < s.size
      · have hix := run_ix s i hlt
        have hdr := drop_at s i hlt
        have hni : ((i : Int) == (s.size : Int)) = false := by simp; omega
        by_cases h32 : s[i]'hlt = 10
        · have hbl : ((((s[i]'hlt).toNat : Nat) : Int) != 10) = false := by rw [h32]; rfl
          rw [hdr, h32, linesGo, if_pos rfl] at hW
          obtain ⟨cur, hcur⟩ : ∃ cur, (s.data.toList.drop st).take (i - st) = cur := ⟨_, rfl⟩
          have hex : Value.string (s.extract st i) = sV cur := by rw [← hcur, ← extract_list, sV_data]
          rw [hcur] at hW
          have HN : Hid ((i + 1 ≤ s.size → ws ++ [cur] ++ linesGo ((s.data.toList.drop (i + 1)).take (i + 1 - (i + 1))) (s.data.toList.drop (i + 1)) = D) ∧ (¬ i + 1 ≤ s.size → ws ++ [cur] = D)) :=
            Lib.hid ⟨fun _ => by rw [Nat.sub_self, List.take_zero, List.append_assoc]; exact hW, fun h => absurd hlt h⟩
          have Hex := Lib.hid hex
          clear hW hdr hcur hex h32
          go_wp2_with (at_builtin; refine wpList_append_lits rfl _ _ 77 rfl w.heap.size 9 i0 (.string ⟨#[]⟩) 16 Tryz.underlying77 hi hz0 hz1 hz2 rfl (by decide) hown rfl _ rfl rfl rfl (by omega) hb.size ?_; intro v' w2 hown' hb2 _ _)
          have hb1 := hb.trans hb2
          have hsn : w2.ownsRow w.heap.size 9 1 v' (ws ++ [cur]).length ((ws ++ [cur]).map sV) := by
            rw [List.length_append, ← wl_snoc, ← Hex.out]; exact hown'
          go_roundw
          case rel => exact ⟨i + 1, i + 1, ws ++ [cur], by go_num, by go_num, by omega, by simp; omega, fun _ => by omega, hb1, hsn, HN⟩
          case measure => (simp [intOf] <;> go_num)
        · have hbl : ((((s[i]'hlt).toNat : Nat) : Int) != 10) = true := by
            rw [bne_iff_ne]
            intro e
            exact h32 (UInt8.toNat_inj.1 (by show (s[i]'hlt).toNat = 10; omega))
          have hnew : ws ++ linesGo ((s.data.toList.drop st).take (i + 1 - st)) (s.data.toList.drop (i + 1)) = D := by
            have hc1 := cur_grow s.data.toList st i 1 hsi
            rw [hdr] at hc1
            rw [hdr, linesGo, if_neg h32] at hW
            rw [← hc1]
            simpa using hW
          have HN : Hid ((i + 1 ≤ s.size → ws ++ linesGo ((s.data.toList.drop st).take (i + 1 - st)) (s.data.toList.drop (i + 1)) = D) ∧ (¬ i + 1 ≤ s.size → ws = D)) :=
            Lib.hid ⟨fun _ => hnew, fun h => absurd hlt h⟩
          clear hW hdr hnew h32
          go_wp2
          go_roundw
          case rel => exact ⟨i + 1, st, ws, by go_num, rfl, by omega, by omega, fun _ => by omega, hb, hown, HN⟩
          case measure => (simp [intOf] <;> go_num)
      · obtain rfl : i = s.size := by omega
        rw [drop_end s s.size hlt, linesGo] at hW
        by_cases hst : st < s.size
        · have hse : ((st : Int) == (s.size : Int)) = false := by simp; omega
          obtain ⟨cur, hcur⟩ : ∃ cur, (s.data.toList.drop st).take (s.size - st) = cur := ⟨_, rfl⟩
          have hex : Value.string (s.extract st s.size) = sV cur := by rw [← hcur, ← extract_list, sV_data]
          have hcl : cur ≠ [] := by
            intro e
            have := congrArg List.length hcur
            rw [e, List.length_take, List.length_drop, show s.data.toList.length = s.size from rfl] at this
            simp at this; omega
          rw [hcur, if_neg hcl] at hW
          have HN : Hid ((s.size + 1 ≤ s.size → ws ++ [cur] ++ linesGo ((s.data.toList.drop (s.size + 1)).take (s.size + 1 - (s.size + 1))) (s.data.toList.drop (s.size + 1)) = D) ∧ (¬ s.size + 1 ≤ s.size → ws ++ [cur] = D)) :=
            Lib.hid ⟨fun h => by omega, fun _ => hW⟩
          have Hex := Lib.hid hex
          clear hW hcur hcl hex
          go_wp2_with (at_builtin; refine wpList_append_lits rfl _ _ 77 rfl w.heap.size 9 i0 (.string ⟨#[]⟩) 16 Tryz.underlying77 hi hz0 hz1 hz2 rfl (by decide) hown rfl _ rfl rfl rfl (by omega) hb.size ?_; intro v' w2 hown' hb2 _ _)
          have hb1 := hb.trans hb2
          have hsn : w2.ownsRow w.heap.size 9 1 v' (ws ++ [cur]).length ((ws ++ [cur]).map sV) := by
            rw [List.length_append, ← wl_snoc, ← Hex.out]; exact hown'
          go_roundw
          case rel => exact ⟨s.size + 1, s.size + 1, ws ++ [cur], by go_num, by go_num, by omega, by simp; omega, fun _ => by omega, hb1, hsn, HN⟩
          case measure => (simp [intOf] <;> go_num)
        · have hse : ((st : Int) == (s.size : Int)) = true := by simp; omega
          have hcur : (s.data.toList.drop st).take (s.size - st) = [] := by rw [show s.size - st = 0 by omega, List.take_zero]
          rw [hcur, if_pos rfl, List.append_nil] at hW
          have HN : Hid ((s.size + 1 ≤ s.size → ws ++ linesGo ((s.data.toList.drop st).take (s.size + 1 - st)) (s.data.toList.drop (s.size + 1)) = D) ∧ (¬ s.size + 1 ≤ s.size → ws = D)) :=
            Lib.hid ⟨fun h => by omega, fun _ => hW⟩
          clear hW hcur
          go_wp2
          go_roundw
          case rel => exact ⟨s.size + 1, st, ws, by go_num, rfl, by omega, by omega, fun _ => by omega, hb, hown, HN⟩
          case measure => (simp [intOf] <;> go_num)
    · have hW := HW.out.2 hle
      subst hW
      clear HW
      have hgt : s.size < i := by omega
      go_wp2
      go_ret
      exact ⟨_, rfl, hown, hb⟩
end Go.Proofs.YtbdimfcdpkldpaaGreatDoor
