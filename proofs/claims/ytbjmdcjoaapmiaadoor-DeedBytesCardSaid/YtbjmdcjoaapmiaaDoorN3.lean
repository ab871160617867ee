/- The contracts of the reference's Decimal and Read. -/
import Derived.Test.YtbjmdcjoaapmiaaDoorN2
import Derived.Laws.Cover1
namespace Go.Proofs.YtbjmdcjoaapmiaaDoor
open Go.RowKit

theorem und_str : Tryd.prog.underlying 9 = some .string := by kernel_rfl

/-- An index into a text, for the walk to take. -/
theorem run_ix (s : ByteArray) (k : Nat) (h : k < s.size) (W : World) :
    (Instr.index 9 (.string s) (.int .i64 k)).run Tryd.prog W = .ok (.int .u8 (s[k]'h).toNat) W := by
  rw [run_index_string W 9 s .i64 k und_str, dif_pos ⟨by omega, by omega⟩]
  rfl

theorem head_at (s : ByteArray) (hp : 0 < s.size) : s.data.toList.headD 0 = s[0]'hp := by
  have := byte_at s 0 hp
  cases hl : s.data.toList with
  | nil => rw [hl] at this; simp at this
  | cons c r => rw [hl] at this; simpa using this

theorem int_one (n : Nat) : (((n : Nat) : Int) == 1) = (n == 1) := by
  rw [Bool.eq_iff_iff, beq_iff_eq, beq_iff_eq]
  omega
theorem byte_ne (s : ByteArray) (k : Nat) (h : k < s.size) : ((((s[k]'h).toNat : Nat) : Int) != 48) = (s[k]'h != 48) := by
  generalize s[k]'h = c
  rw [Bool.eq_iff_iff, bne_iff_ne, bne_iff_ne]
  refine not_congr ⟨fun e => UInt8.toNat_inj.1 (by show c.toNat = 48; omega), ?_⟩
  rintro rfl; rfl

set_option maxHeartbeats 800000 in
theorem Decimal_any (s : ByteArray) (hs : s.size ≤ 1000) (w : World) :
    Calls Tryd.prog 68 #[.string s] w fun e w' => e = .returned (.bool (isDec s.data.toList)) ∧ w = w' := by
  have hsz : s.data.toList.length = s.size := rfl
  go_enter Tryd.func68, Tryd.ntmps68
  go_wp2
  go_loopw [3] (fun x w' => ∃ k : Nat, w' = w ∧ x = .int .i64 k ∧ k ≤ s.size ∧ Hid (allD 10 (s.data.toList.drop k) = allD 10 s.data.toList)) (fun x _ => s.size - (intOf x).toNat)
  case atStart => exact ⟨0, rfl, rfl, by omega, Lib.hid (by simp)⟩
  case round =>
    obtain ⟨k, rfl, rfl, hk, hc⟩ := hrel
    by_cases hlt : k < s.size
    · have hc' := hc.out
      clear hc
      have hix := run_ix s k hlt
      rw [drop_at s k hlt, allD_cons] at hc'
      have hval := value_any (s[k]'hlt)
      by_cases hd : valB (s[k]'hlt) < 10
      · rw [decide_eq_true hd, Bool.true_and] at hc'
        have Hc := Lib.hid hc'
        clear hc'
        generalize s[k]'hlt = c at hix hval hd
        generalize valB c = v at hval hd
        go_wp2_with (go_at_call 69; refine (hval _).mono ?_; rintro e w' ⟨rfl, rfl⟩)
        go_roundw
        case rel => exact ⟨k + 1, trivial, by go_num, by omega, Hc⟩
        case measure => simp [intOf]; go_num
      · have hres : isDec s.data.toList = false := by
          unfold isDec
          rw [← hc', decide_eq_false hd, Bool.false_and, Bool.and_false]
        have Hr := Lib.hid hres
        clear hc' hres
        generalize s[k]'hlt = c at hix hval hd
        generalize valB c = v at hval hd
        go_wp2_with (go_at_call 69; refine (hval _).mono ?_; rintro e w' ⟨rfl, rfl⟩)
        go_ret
        exact ⟨ret_bool Hr.out.symm, rfl⟩
    · obtain rfl : k = s.size := by omega
      have hall : allD 10 s.data.toList = true := by rw [← hc.out, drop_end s s.size hlt]; rfl
      clear hc
      by_cases h0 : s.size = 0
      · have he : s = ⟨#[]⟩ := by
          apply ByteArray.ext
          exact Array.eq_empty_of_size_eq_zero h0
        subst he
        go_wp2
        go_ret
        exact ⟨rfl, rfl⟩
      · have hp : 0 < s.size := by omega
        have hix := run_ix s 0 hp
        have hres : isDec s.data.toList = (s.size == 1 || s[0]'hp != 48) := by
          unfold isDec
          rw [head_at s hp, hsz, hall]
          have : s.data.toList.isEmpty = false := by
            cases hl : s.data.toList with
            | nil => rw [hl] at hsz; simp at hsz; omega
            | cons c r => rfl
          rw [this]; simp
        clear hall
        by_cases h1 : s.size = 1
        · have e1 : (s.size == 1) = true := by simp [h1]
          rw [e1, Bool.true_or] at hres
          have Hr := Lib.hid hres
          clear hres e1 hsz
          go_wp2
          go_ret
          exact ⟨ret_bool Hr.out.symm, rfl⟩
        · have Hr := Lib.hid hres
          clear hres hsz
          have h2 : 1 < s.size := by omega
          clear hix
          go_wp2
          go_ret
          refine ⟨ret_bool ?_, rfl⟩
          rw [Hr.out, int_one, byte_ne s 0 hp]
end Go.Proofs.YtbjmdcjoaapmiaaDoor
