/- The contract of the reader's Num. -/
import Derived.Test.YtpdlfelmdnkjdaaW5
import Derived.Laws.BitsAllLaws
import Derived.Laws.BitsLemmas
namespace Go.Proofs.Ytpdlfelmdnkjdaa
open Go.RowKit

theorem val_take (l : List UInt8) (k : Nat) (h : k < l.length) : val (l.take k) * 256 + (l.getD k 0).toNat = val (l.take (k + 1)) := by
  rw [take_snoc_ l 0 k h, val_snoc]
theorem val_small (l : List UInt8) (k : Nat) (h : k ≤ 7) : val (l.take k) < 72057594037927936 := by
  have h1 := val_lt (l.take k)
  have h2 : 256 ^ (l.take k).length ≤ 256 ^ 7 := Nat.pow_le_pow_right (by decide) (by rw [List.length_take]; omega)
  have h3 : (256 : Nat) ^ 7 = 72057594037927936 := by decide
  omega

theorem shl_or (x b : Nat) (hx : x < 72057594037927936) (hb : b < 256) : bits .or .u64 (IntKind.u64.wrap ((x : Int) * 256)) (b : Int) = ((x * 256 + b : Nat) : Int) := by
  rw [IntWalk.u64_in _ (by omega), show (x : Int) * 256 = ((x * 256 : Nat) : Int) by omega, u64_or_nat _ _ (by omega) (by omega)]
  congr 1
  have h := Nat.two_pow_add_eq_or_of_lt (i := 8) (show b < 2 ^ 8 from hb) x
  rw [show 2 ^ 8 * x = x * 256 by omega] at h
  exact h.symm

set_option maxHeartbeats 800000 in
theorem RNum_ok (r : Nat) (c : UInt8) (l : List UInt8) (hc8 : ¬ 8 < c.toNat) (hcl : ¬ l.length < c.toNat) (hz : ¬ (0 < c.toNat ∧ l.getD 0 0 = 0)) (w : World) (h : RdAt w r (.ok (c :: l))) :
    Calls Try.prog 20 #[.pointer (some ⟨r, 0, none⟩)] w fun e w' => e = .returned (.int .u64 (val (l.take c.toNat) : Int)) ∧ RdOut w w' r (.ok (l.drop c.toNat)) := by
  have hb := RByte_any r _ w h
  simp only [rdByte] at hb
  have hl4 : l.length ≤ 4000 := by have := h.2; simp at this; omega
  generalize hn : c.toNat = n at *
  have hd8 : decide ((8 : Int) < (n : Int)) = false := by simp; omega
  clear h
  go_enter Try.func20, Try.ntmps20
  go_wp2_with fail
  refine hb.mono ?_
  clear hb
  rintro e w1 ⟨rfl, ho1⟩
  have ht := take_ok r n l (by omega) w1 ho1.1
  have HO := Lib.hid ho1
  clear ho1
  go_wp2_with fail
  refine ht.mono ?_
  clear ht
  rintro e w2 ⟨⟨s, rfl, hr⟩, ho2⟩
  have HO2 := Lib.hid (HO.out.trans ho2)
  clear ho2
  obtain ⟨p, cc, rfl, hcc, hcm, _, _, hcell⟩ := hr
  unfold maxLen at hcm
  by_cases h0 : n = 0
  · subst h0
    clear hcell hz
    go_wp2
    refine wp_loop_rounds 1 ?_
    rw [rounds_succ]
    go_wp2
    go_ret
    exact ⟨rfl, HO2.out⟩
  · obtain ⟨b, off, rfl, _, _, hcell⟩ := hcell.resolve_left h0
    have hcs : ∀ k, k < n → w2.cell? ⟨b, off + k, none⟩ = some (.int .u8 ((l.getD k 0).toNat : Int)) := fun k hk => hcell k _ (by
      rw [List.getElem?_map, List.getElem?_take_of_lt hk, List.getD_eq_getElem?_getD, List.getElem?_eq_getElem (by omega)]; rfl)
    have HC := Lib.hid hcs
    have hn0 : 0 < n := Nat.pos_of_ne_zero h0
    have hc0 := hcs 0 hn0
    have hz0 : ¬ l.getD 0 0 = 0 := fun e => hz ⟨hn0, e⟩
    have hz1 : 0 < (l.getD 0 0).toNat := by
      rcases Nat.eq_zero_or_pos (l.getD 0 0).toNat with e | e
      · exact absurd (UInt8.toNat_inj.1 (by simpa using e)) hz0
      · exact e
    generalize (l.getD 0 0).toNat = f at hc0 hz1
    rw [Nat.add_zero] at hc0
    have hft : ((f : Int) == 0) = false := by rw [beq_eq_false_iff_ne]; omega
    clear hcs hcell hz hz0
    go_wp2
    go_loop [6, 8, 40] (fun x _ t => ∃ k : Nat, k ≤ n ∧ t = .int .i64 k ∧ x = .int .u64 (val (l.take k) : Int)) (fun _ _ t => n - (intOf t).toNat)
    case atStart => exact ⟨0, by omega, rfl, rfl⟩
    case round =>
      obtain ⟨k, hk, rfl, rfl⟩ := hrel
      by_cases hkn : k < n
      · have hck := HC.out k hkn
        have hvs := val_small l k (by omega)
        have hbs := (l.getD k 0).toNat_lt
        have hvt := val_take l k (by omega)
        generalize (l.getD k 0).toNat = b1 at hck hbs hvt
        generalize val (l.take k) = x1 at hvs hvt ⊢
        have HV := Lib.hid hvs
        have HT := Lib.hid hvt
        clear hvs hvt
        go_wp2
        go_round
        case rel => exact ⟨k + 1, by omega, by go_num, by rw [shl_or _ _ HV.out hbs, HT.out]⟩
        case measure => simp [intOf]; omega
      · obtain rfl : k = n := by omega
        go_wp2
        go_ret
        exact ⟨rfl, HO2.out⟩

set_option maxHeartbeats 800000 in
theorem RNum_err (r e : Nat) (w : World) (h : RdAt w r (.err e)) :
    Calls Try.prog 20 #[.pointer (some ⟨r, 0, none⟩)] w fun e' w' => e' = .returned (.int .u64 0) ∧ RdOut w w' r (.err e) := by
  have hb := RByte_any r _ w h
  simp only [rdByte] at hb
  clear h
  go_enter Try.func20, Try.ntmps20
  go_wp2_with fail
  refine hb.mono ?_
  clear hb
  rintro e' w1 ⟨rfl, ho1⟩
  have ht := take_err r e 0 w1 ho1.1
  have HO := Lib.hid ho1
  clear ho1
  go_wp2_with fail
  refine ht.mono ?_
  clear ht
  rintro e' w2 ⟨rfl, rfl⟩
  go_wp2
  go_ret
  exact ⟨rfl, HO.out⟩

set_option maxHeartbeats 800000 in
theorem RNum_nil (r : Nat) (w : World) (h : RdAt w r (.ok [])) :
    Calls Try.prog 20 #[.pointer (some ⟨r, 0, none⟩)] w fun e' w' => e' = .returned (.int .u64 0) ∧ RdOut w w' r (.err 2) := by
  have hb := RByte_any r _ w h
  simp only [rdByte] at hb
  clear h
  go_enter Try.func20, Try.ntmps20
  go_wp2_with fail
  refine hb.mono ?_
  clear hb
  rintro e' w1 ⟨rfl, ho1⟩
  have ht := take_err r 2 0 w1 ho1.1
  have HO := Lib.hid ho1
  clear ho1
  go_wp2_with fail
  refine ht.mono ?_
  clear ht
  rintro e' w2 ⟨rfl, rfl⟩
  go_wp2
  go_ret
  exact ⟨rfl, HO.out⟩

set_option maxHeartbeats 800000 in
theorem RNum_great (r : Nat) (c : UInt8) (l : List UInt8) (hc8 : 8 < c.toNat) (w : World) (h : RdAt w r (.ok (c :: l))) :
    Calls Try.prog 20 #[.pointer (some ⟨r, 0, none⟩)] w fun e w' => e = .returned (.int .u64 0) ∧ RdOut w w' r (.err 3) := by
  have hb := RByte_any r _ w h
  simp only [rdByte] at hb
  generalize hn : c.toNat = n at *
  have hd8 : decide ((8 : Int) < (n : Int)) = true := by simp; omega
  clear h hn hc8
  go_enter Try.func20, Try.ntmps20
  go_wp2_with fail
  refine hb.mono ?_
  clear hb
  rintro e w1 ⟨rfl, ho1⟩
  have hf := fail_first r 3 w1 ho1.1.code ho1.1.frozen
  have hfin := Lib.hid (ho1.trans (ho1.1.failed (e := 3) (by decide)))
  clear ho1
  go_wp2_with fail
  refine hf.mono ?_
  clear hf
  rintro e w2 ⟨rfl, rfl⟩
  go_wp2
  go_ret
  exact ⟨rfl, hfin.out⟩

set_option maxHeartbeats 800000 in
theorem RNum_short (r : Nat) (c : UInt8) (l : List UInt8) (hc8 : ¬ 8 < c.toNat) (hcl : l.length < c.toNat) (w : World) (h : RdAt w r (.ok (c :: l))) :
    Calls Try.prog 20 #[.pointer (some ⟨r, 0, none⟩)] w fun e w' => e = .returned (.int .u64 0) ∧ RdOut w w' r (.err 2) := by
  have hb := RByte_any r _ w h
  simp only [rdByte] at hb
  generalize hn : c.toNat = n at *
  have hd8 : decide ((8 : Int) < (n : Int)) = false := by simp; omega
  clear h hn
  go_enter Try.func20, Try.ntmps20
  go_wp2_with fail
  refine hb.mono ?_
  clear hb
  rintro e w1 ⟨rfl, ho1⟩
  have ht := take_short r n l hcl w1 ho1.1
  have HO := Lib.hid ho1
  clear ho1
  go_wp2_with fail
  refine ht.mono ?_
  clear ht
  rintro e w2 ⟨rfl, ho2⟩
  have HO2 := Lib.hid (HO.out.trans ho2)
  clear ho2
  go_wp2
  go_ret
  exact ⟨rfl, HO2.out⟩

set_option maxHeartbeats 800000 in
theorem RNum_zero (r : Nat) (c : UInt8) (l : List UInt8) (hc8 : ¬ 8 < c.toNat) (hcl : ¬ l.length < c.toNat) (hn0 : 0 < c.toNat) (hz : l.getD 0 0 = 0) (w : World) (h : RdAt w r (.ok (c :: l))) :
    Calls Try.prog 20 #[.pointer (some ⟨r, 0, none⟩)] w fun e w' => e = .returned (.int .u64 0) ∧ RdOut w w' r (.err 3) := by
  have hb := RByte_any r _ w h
  simp only [rdByte] at hb
  have hl4 : l.length ≤ 4000 := by have := h.2; simp at this; omega
  generalize hn : c.toNat = n at *
  have hd8 : decide ((8 : Int) < (n : Int)) = false := by simp; omega
  clear h hn
  go_enter Try.func20, Try.ntmps20
  go_wp2_with fail
  refine hb.mono ?_
  clear hb
  rintro e w1 ⟨rfl, ho1⟩
  have ht := take_ok r n l (by omega) w1 ho1.1
  have HO := Lib.hid ho1
  clear ho1
  go_wp2_with fail
  refine ht.mono ?_
  clear ht
  rintro e w2 ⟨⟨s, rfl, hr⟩, ho2⟩
  have hf := fail_first r 3 w2 ho2.1.code ho2.1.frozen
  have hfin := Lib.hid ((HO.out.trans ho2).trans (ho2.1.failed (e := 3) (by decide)))
  clear ho2
  obtain ⟨p, cc, rfl, hcc, hcm, _, _, hcell⟩ := hr
  unfold maxLen at hcm
  obtain ⟨b, off, rfl, _, _, hcell⟩ := hcell.resolve_left (Nat.ne_of_gt hn0)
  have hc0 : w2.cell? ⟨b, off, none⟩ = some (.int .u8 0) := hcell 0 _ (by
    rw [List.getElem?_map, List.getElem?_take_of_lt hn0]
    have h1 : l[0]? = some 0 := by rw [List.getElem?_eq_getElem (by omega), ← hz, List.getD_eq_getElem?_getD, List.getElem?_eq_getElem (by omega)]; rfl
    rw [h1]; rfl)
  clear hcell hz
  go_wp2_with fail
  refine hf.mono ?_
  clear hf
  rintro e w3 ⟨rfl, rfl⟩
  go_wp2
  go_ret
  exact ⟨rfl, hfin.out⟩

theorem rdNum_cons (c : UInt8) (l : List UInt8) : rdNum (.ok (c :: l)) = if 8 < c.toNat then (.err 3, 0) else if l.length < c.toNat then (.err 2, 0) else if 0 < c.toNat ∧ l.getD 0 0 = 0 then (.err 3, 0) else (.ok (l.drop c.toNat), val (l.take c.toNat)) := rfl

theorem RdNum_any (r : Nat) (st : RS) (w : World) (h : RdAt w r st) :
    Calls Try.prog 20 #[.pointer (some ⟨r, 0, none⟩)] w fun e w' => e = .returned (.int .u64 ((rdNum st).2 : Int)) ∧ RdOut w w' r (rdNum st).1 := by
  match st with
  | .ok [] => exact RNum_nil r w h
  | .err e => exact RNum_err r e w h
  | .ok (c :: l) =>
    rw [rdNum_cons]
    by_cases h1 : 8 < c.toNat
    · rw [if_pos h1]; exact RNum_great r c l h1 w h
    · rw [if_neg h1]
      by_cases h2 : l.length < c.toNat
      · rw [if_pos h2]; exact RNum_short r c l h1 h2 w h
      · rw [if_neg h2]
        by_cases h3 : 0 < c.toNat ∧ l.getD 0 0 = 0
        · rw [if_pos h3]; exact RNum_zero r c l h1 h2 h3.1 h3.2 w h
        · rw [if_neg h3]; exact RNum_ok r c l h1 h2 h3 w h
theorem rdNum_lt (st : RS) : (rdNum st).2 < 18446744073709551616 := by
  match st with
  | .ok [] => exact (by decide : 0 < 18446744073709551616)
  | .err e => exact (by decide : 0 < 18446744073709551616)
  | .ok (c :: l) =>
    rw [rdNum_cons]
    split
    · exact (by decide : 0 < 18446744073709551616)
    · split
      · exact (by decide : 0 < 18446744073709551616)
      · split
        · exact (by decide : 0 < 18446744073709551616)
        · have h1 := val_lt (l.take c.toNat)
          have h2 : 256 ^ (l.take c.toNat).length ≤ 256 ^ 8 := Nat.pow_le_pow_right (by decide) (by rw [List.length_take]; omega)
          have h3 : (256 : Nat) ^ 8 = 18446744073709551616 := by decide
          show val (l.take c.toNat) < _
          omega
end Go.Proofs.Ytpdlfelmdnkjdaa
