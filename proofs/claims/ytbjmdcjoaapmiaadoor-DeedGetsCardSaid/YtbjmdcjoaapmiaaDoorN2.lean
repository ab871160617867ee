/- The contracts of package nums' Read and Int, and of the reference's Decimal, Read and Int. -/
import Derived.Test.YtbjmdcjoaapmiaaDoorN1
namespace Go.Proofs.YtbjmdcjoaapmiaaDoor
open Go.RowKit

theorem ret_two {k l : IntKind} {a b c d : Int} (h : a = b) (h' : c = d) : Ending.returned (.tuple #[.int k a, .int l c]) = .returned (.tuple #[.int k b, .int l d]) := by rw [h, h']

theorem take_next (s : ByteArray) (pos : Nat) (h : pos < s.size) : s.data.toList.take (pos + 1) = s.data.toList.take pos ++ [s[pos]'h] := by
  have h' : pos < s.data.toList.length := h
  rw [List.take_succ_eq_append_getElem h']
  congr 1
theorem all_at (b : Nat) (s : ByteArray) (pos : Nat) (h : pos < s.size) (hd : allD b s.data.toList = true) : valB (s[pos]'h) < b := by
  have h' : pos < s.data.toList.length := h
  have := List.all_eq_true.1 hd (s[pos]'h) (List.mem_iff_getElem.2 ⟨pos, h', rfl⟩)
  simpa using this

set_option maxHeartbeats 800000 in
theorem Read_any (s : ByteArray) (w : World) :
    Calls Tryd.prog 82 #[.string s] w fun e w' => e = .returned (.tuple #[.int .u64 ((readL s.data.toList).1 : Nat), .int .i64 ((readL s.data.toList).2 : Nat)]) ∧ Below w.heap.size w w' := by
  have hdc := isDecimal_any s
  by_cases hd : isDec s.data.toList = true
  · rw [hd] at hdc
    have hr1 : num 10 s.data.toList < 18446744073709551616 → readL s.data.toList = (num 10 s.data.toList, 0) := fun h => by unfold readL; rw [if_pos hd, if_pos h]
    have hr2 : ¬ num 10 s.data.toList < 18446744073709551616 → readL s.data.toList = (0, 5) := fun h => by unfold readL; rw [if_pos hd, if_neg h]
    generalize readL s.data.toList = R at hr1 hr2 ⊢
    have Hr1 := Lib.hid hr1
    have Hr2 := Lib.hid hr2
    clear hr1 hr2
    have hall := ((isDec_iff _).1 hd).2.2
    clear hd
    go_enter Tryd.func82, Tryd.ntmps82
    go_wp2_with (go_at_call 92; refine (hdc _).mono ?_; rintro e w1 ⟨rfl, hb⟩; clear hdc)
    go_loopw [4] (fun x w' => ∃ pos n : Nat, w' = w1.iter s pos ∧ x = .int .u64 n ∧ pos ≤ s.size ∧ n = num 10 (s.data.toList.take pos) ∧ Hid (n < 18446744073709551616)) (fun _ w' => s.size - w'.iterPos w1.heap.size)
    case atStart => exact ⟨0, 0, rfl, rfl, by omega, rfl, Lib.hid (by decide)⟩
    case round =>
      obtain ⟨pos, n, rfl, rfl, hle, hn, hlt⟩ := hrel
      by_cases hp : pos < s.size
      · have hnx : ∀ ty, (Instr.next (.pointer (some ⟨w1.heap.size, 0, none⟩)) true ty).run Tryd.prog (w1.iter s pos) = _ := fun ty => run_next_any w1 s pos ty hp
        have hd := all_at 10 s pos hp hall
        have ha : (s[pos]'hp).toNat < 128 := small_of_val _ (by unfold valB at hd; omega)
        rw [decode_ascii s pos hp ha] at hnx
        have hdg := digit_any (s[pos]'hp).toNat (by omega)
        have hv : dgI (s[pos]'hp).toNat = ((valB (s[pos]'hp) : Nat) : Int) := by
          unfold dgI; rw [if_pos (by unfold valB at hd; omega)]; rfl
        simp only [hv] at hdg
        have hnum := num_snoc 10 (s.data.toList.take pos) (s[pos]'hp)
        rw [← take_next s pos hp, ← hn] at hnum
        clear hv
        generalize valB (s[pos]'hp) = v at hdg hd hnum
        have Hnum := Lib.hid hnum
        have Hn := Lib.hid hn
        clear hnum hn
        go_wp2_with (go_at_call 93; refine (hdg _).mono ?_; rintro e w' ⟨rfl, rfl⟩)
        · have hgt : ¬ num 10 s.data.toList < 18446744073709551616 := by
            have h1 := num_grows 10 (by omega) (s.data.toList.take (pos + 1)) (s.data.toList.drop (pos + 1))
            rw [List.take_append_drop, Hnum.out] at h1
            omega
          go_ret2
          rw [Hr2.out hgt]
          exact ⟨rfl, hb.trans ((Below.refl _ _).alloc hb.size _)⟩
        · go_roundw
          case rel =>
            have hlt2 : n * 10 + v < 18446744073709551616 := by omega
            exact ⟨pos + 1, n * 10 + v, rfl, by go_num, by omega, Hnum.out.symm, Lib.hid hlt2⟩
          case measure => simp; omega
      · have hnx : ∀ ty, (Instr.next (.pointer (some ⟨w1.heap.size, 0, none⟩)) true ty).run Tryd.prog (w1.iter s pos) = _ := fun ty => run_next_end w1 s pos ty hp
        obtain rfl : pos = s.size := by omega
        have hfull : s.data.toList.take s.size = s.data.toList := List.take_of_length_le (Nat.le_refl _)
        rw [hfull] at hn
        subst hn
        go_wp2
        go_ret2
        rw [Hr1.out hlt.out]
        exact ⟨rfl, hb.trans ((Below.refl _ _).alloc hb.size _)⟩
  · have hd' : isDec s.data.toList = false := by simpa using hd
    rw [hd'] at hdc
    have hr : readL s.data.toList = (0, 3) := by unfold readL; rw [if_neg hd]
    rw [hr]
    clear hr
    go_enter Tryd.func82, Tryd.ntmps82
    go_wp2_with (go_at_call 92; refine (hdc _).mono ?_; rintro e w1 ⟨rfl, hb⟩)
    go_ret2
    exact ⟨rfl, hb⟩
end Go.Proofs.YtbjmdcjoaapmiaaDoor
