/- The contracts of package nums' Hex and ReadHex, and of the reference's Print, Hex and ReadHex. -/
import Derived.Test.YtbjmdcjoaapmiaaDoorN6
import Derived.Lib.Repeat
namespace Go.Proofs.YtbjmdcjoaapmiaaDoor
open Go.RowKit Go.Sort

theorem FU16_any (u : Nat) (hu : u < 18446744073709551616) (w : World) (htab : Tabs w) :
    Calls Tryd.prog 86 #[.int .u64 u, .int .i64 16] w fun e w' => e = .returned (.string ⟨(hexM u).toArray⟩) ∧ Below w.heap.size w w' := by
  have h := fBits_any u hu w htab
  clear hu htab
  go_enter Tryd.func86, Tryd.ntmps86
  go_wp2_with (go_at_call 99; refine h.mono ?_; rintro e w' ⟨rfl, hb⟩)
  go_ret
  exact ⟨rfl, hb⟩
theorem SFU16_any (u : Nat) (hu : u < 18446744073709551616) (w : World) (htab : Tabs w) :
    Calls Tryd.prog 79 #[.int .u64 u, .int .i64 16] w fun e w' => e = .returned (.string ⟨(hexM u).toArray⟩) ∧ Below w.heap.size w w' := by
  have h := FU16_any u hu w htab
  clear hu htab
  go_enter Tryd.func79, Tryd.ntmps79
  go_wp2_with (go_at_call 86; refine h.mono ?_; rintro e w' ⟨rfl, hb⟩)
  go_ret
  exact ⟨rfl, hb⟩

theorem ret_str {a b : ByteArray} (h : a = b) : Ending.returned (.string a) = .returned (.string b) := by rw [h]
theorem mk_append (a b : List UInt8) : (ByteArray.mk a.toArray) ++ (ByteArray.mk b.toArray) = ⟨(a ++ b).toArray⟩ := by
  apply ByteArray.ext
  rw [ByteArray.data_append]
  simp
theorem repeat_48 : ∀ c, Lib.repeatL [48] c = List.replicate c 48
  | 0 => rfl
  | c + 1 => by rw [List.replicate_succ, ← repeat_48 c]; rfl

set_option maxHeartbeats 400000 in
theorem Hex_any (u : Nat) (hu : u < 18446744073709551616) (w : World) (htab : Tabs w) :
    Calls Tryd.prog 63 #[.int .u64 u] w fun e w' => e = .returned (.string ⟨(hexN 16 u).toArray⟩) ∧ Below w.heap.size w w' := by
  have h := SFU16_any u hu w htab
  have hpad := hex_pad 15 u (by omega)
  have hlen := hexM_len 15 u (by omega)
  obtain ⟨S, hS⟩ : ∃ S : ByteArray, S = ⟨(hexM u).toArray⟩ := ⟨_, rfl⟩
  have hsz : S.size = (hexM u).length := by rw [hS]; simp [ByteArray.size]
  rw [← hS] at h
  rw [← hsz] at hpad hlen
  have HS := Lib.hid hS
  have Hp := Lib.hid hpad
  have hrep := fun w => Tryd.strings_Repeat ⟨#[48]⟩ (16 - S.size) w (by omega) (by show 1 * (16 - S.size) ≤ _; omega)
  have hr48 : (ByteArray.mk #[48]).data.toList = [48] := rfl
  rw [hr48, repeat_48] at hrep
  have hc : ((16 - S.size : Nat) : Int) = 16 - (S.size : Int) := by omega
  rw [hc] at hrep
  obtain ⟨R, hR⟩ : ∃ R : ByteArray, R = ⟨(List.replicate (16 - S.size) 48).toArray⟩ := ⟨_, rfl⟩
  have hRs : R.size ≤ 16 := by
    rw [hR]
    show (List.replicate (16 - S.size) (48 : UInt8)).toArray.size ≤ 16
    rw [List.size_toArray, List.length_replicate]; omega
  rw [← hR] at hrep
  have HR := Lib.hid hR
  clear hu htab hS hpad hR hsz hc hr48
  go_enter Tryd.func63, Tryd.ntmps63
  go_wp2_with (first
    | (go_at_call 79; refine h.mono ?_; clear h; rintro e w1 ⟨rfl, hb1⟩)
    | (go_at_call 80; refine (hrep _).mono ?_; clear hrep; rintro e w2 ⟨rfl, hb2⟩))
  go_ret
  exact ⟨ret_str ((congr (congrArg HAppend.hAppend HR.out) HS.out).trans ((mk_append _ _).trans (congrArg (fun l : List UInt8 => ByteArray.mk l.toArray) Hp.out))), hb1.trans (hb2.mono hb1.size)⟩

theorem take_all (s : ByteArray) : s.data.toList.take s.size = s.data.toList := List.take_of_length_le (Nat.le_refl _)
theorem all_take (b : Nat) (l : List UInt8) (k : Nat) (h : allD b l = true) : allD b (l.take k) = true := by
  rw [← List.take_append_drop k l, allD_append, Bool.and_eq_true] at h
  exact h.1
theorem or_step (n v : Nat) (hv : v < 16) : n * 16 ||| v = n * 16 + v := by
  rw [show n * 16 = n <<< 4 by rw [Nat.shiftLeft_eq]]
  rw [Nat.shiftLeft_add_eq_or_of_lt (show v < 2 ^ 4 by omega)]

set_option maxHeartbeats 800000 in
theorem ReadHex_any (s : ByteArray) (w : World) :
    Calls Tryd.prog 83 #[.string s] w fun e w' => e = .returned (.tuple #[.int .u64 ((hexR s.data.toList).1 : Nat), .int .i64 ((hexR s.data.toList).2 : Nat)]) ∧ Below w.heap.size w w' := by
  have hdg := digits_any s 16 (.inr rfl)
  have hsz : s.data.toList.length = s.size := rfl
  by_cases h16 : s.size = 16
  · by_cases hd : allD 16 s.data.toList = true
    · have hr : hexR s.data.toList = (num 16 s.data.toList, 0) := by unfold hexR; rw [if_pos ⟨hsz.trans h16, hd⟩]
      rw [hr]
      rw [hd] at hdg
      generalize hm : num 16 s.data.toList = m
      have Hm := Lib.hid hm
      clear hr hm hsz
      have hle16 : s.size ≤ 16 := by omega
      go_enter Tryd.func83, Tryd.ntmps83
      go_wp2_with (go_at_call 94; refine (hdg _).mono ?_; rintro e w1 ⟨rfl, hb⟩; clear hdg)
      clear h16
      go_loopw [4] (fun x w' => ∃ pos n : Nat, w' = w1.iter s pos ∧ x = .int .u64 n ∧ pos ≤ s.size ∧ Hid (n = num 16 (s.data.toList.take pos))) (fun _ w' => s.size - w'.iterPos w1.heap.size)
      case atStart => exact ⟨0, 0, rfl, rfl, by omega, Lib.hid rfl⟩
      case round =>
        obtain ⟨pos, n, rfl, rfl, hle, Hn⟩ := hrel
        by_cases hp : pos < s.size
        · have hnx : ∀ ty, (Instr.next (.pointer (some ⟨w1.heap.size, 0, none⟩)) true ty).run Tryd.prog (w1.iter s pos) = _ := fun ty => run_next_any w1 s pos ty hp
          have hv16 := all_at 16 s pos hp hd
          have ha : (s[pos]'hp).toNat < 128 := small_of_val _ (by unfold valB at hv16; omega)
          rw [decode_ascii s pos hp ha] at hnx
          have hdi := digit_any (s[pos]'hp).toNat (by omega)
          have hv : dgI (s[pos]'hp).toNat = ((valB (s[pos]'hp) : Nat) : Int) := by
            unfold dgI; rw [if_pos (by unfold valB at hv16; omega)]; rfl
          simp only [hv] at hdi
          have hnum := num_snoc 16 (s.data.toList.take pos) (s[pos]'hp)
          rw [← take_next s pos hp, ← Hn.out] at hnum
          have hsm := num_lt 16 _ (all_take 16 _ pos hd)
          rw [← Hn.out, List.length_take, show s.data.toList.length = s.size from rfl, Nat.min_eq_left hle] at hsm
          have hpow : (16 : Nat) ^ pos ≤ 16 ^ 15 := Nat.pow_le_pow_right (by omega) (by omega)
          have hn15 : n < 1152921504606846976 := by omega
          have hor := u64_or_nat (n * 16) (valB (s[pos]'hp)) (by omega) (by omega)
          rw [or_step n _ hv16, show ((n * 16 : Nat) : Int) = (n : Int) * 16 by omega] at hor
          generalize valB (s[pos]'hp) = v at hdi hv16 hnum hor
          have Hnum := Lib.hid hnum
          clear hnum hsm hpow hv
          go_wp2_with (go_at_call 93; refine (hdi _).mono ?_; rintro e w' ⟨rfl, rfl⟩)
          go_roundw
          case rel => exact ⟨pos + 1, n * 16 + v, rfl, by go_num, by omega, Lib.hid Hnum.out.symm⟩
          case measure => simp; omega
        · have hnx : ∀ ty, (Instr.next (.pointer (some ⟨w1.heap.size, 0, none⟩)) true ty).run Tryd.prog (w1.iter s pos) = _ := fun ty => run_next_end w1 s pos ty hp
          obtain rfl : pos = s.size := by omega
          have hn := Hn.out
          rw [take_all, Hm.out] at hn
          subst hn
          go_wp2
          go_ret2
          exact ⟨rfl, hb.trans ((Below.refl _ _).alloc hb.size _)⟩
    · have hd' : allD 16 s.data.toList = false := by simpa using hd
      have hr : hexR s.data.toList = (0, 3) := by unfold hexR; rw [if_neg (fun h => hd h.2)]
      rw [hr]
      rw [hd'] at hdg
      clear hr hsz
      go_enter Tryd.func83, Tryd.ntmps83
      go_wp2_with (go_at_call 94; refine (hdg _).mono ?_; rintro e w1 ⟨rfl, hb⟩; clear hdg)
      go_ret2
      exact ⟨rfl, hb⟩
  · have hr : hexR s.data.toList = (0, 3) := by unfold hexR; rw [if_neg (fun h => h16 (hsz.symm.trans h.1))]
    rw [hr]
    have hb : ((s.size : Int) != 16) = true := by simp; omega
    clear hr hsz
    go_enter Tryd.func83, Tryd.ntmps83
    go_wp2
    go_ret2
    exact ⟨rfl, Below.refl _ _⟩
end Go.Proofs.YtbjmdcjoaapmiaaDoor
