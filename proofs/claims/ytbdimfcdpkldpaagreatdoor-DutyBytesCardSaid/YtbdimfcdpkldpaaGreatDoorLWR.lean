/- The contract of the reader's Num. The contracts of package wire's Read and of the reader's Upto, Truth, Bytes, Left, Err and Done. The contract of the statements' own awake, and bytes as a text. WireNil: a writer or a reader that is nil does nothing. The contracts of the reference's reading: fail and GetByte. The contract of the reference's GetNum. The contracts of the reference's GetUpto, GetTruth, GetBytes and Done. -/
import Derived.Test.YtbdimfcdpkldpaaGreatDoorLW1
import Derived.Laws.BitsAllLaws
import Derived.Laws.BitsLemmas
import Derived.Laws.BytesArg
import Derived.Test.YtbdimfcdpkldpaaGreatDoorLB
import Derived.Laws.ResultCell
namespace Go.Proofs.YtbdimfcdpkldpaaGreatDoor.Wire
open Go.RowKit

theorem val_take (l : List UInt8) (k : Nat) (h : k < l.length) : val (l.take k) * 256 + (l.getD k 0).toNat = val (l.take (k + 1)) := by
  rw [take_snoc_ l 0 k h, val_snoc]
theorem val_small (l : List UInt8) (k : Nat) (h : k ≤ 7) : val (l.take k) < 72057594037927936 := by
  have h1 := val_lt (l.take k)
  have h2 : 256 ^ (l.take k).length ≤ 256 ^ 7 := Nat.pow_le_pow_right (by decide) (by rw [List.length_take]; omega)
  have h3 : (256 : Nat) ^ 7 = 72057594037927936 := by decide
  omega

theorem shl_or (x b : Nat) (hx : x < 72057594037927936) (hb : b < 256) : bits .or .u64 (IntKind.u64.wrap ((x : Int) * 256)) (b : Int) = ((x * 256 + b : Nat) : Int) := by
  rw [IntWalk.u64_in _ (by omega), show (x : Int) * 256 = ((x * 256 : Nat) : Int) by omega, u64_or_nat _ _ (by omega) (by omega)]
  congr 1
  have h := Nat.two_pow_add_eq_or_of_lt (i := 8) (show b < 2 ^ 8 from hb) x
  rw [show 2 ^ 8 * x = x * 256 by omega] at h
  exact h.symm

set_option maxHeartbeats 800000 in
theorem RNum_ok (r : Nat) (c : UInt8) (l : List UInt8) (hc8 : ¬ 8 < c.toNat) (hcl : ¬ l.length < c.toNat) (hz : ¬ (0 < c.toNat ∧ l.getD 0 0 = 0)) (w : World) (h : RdAt w r (.ok (c :: l))) :
    Calls Tryz.prog 130 #[.pointer (some ⟨r, 0, none⟩)] w fun e w' => e = .returned (.int .u64 (val (l.take c.toNat) : Int)) ∧ RdOut w w' r (.ok (l.drop c.toNat)) := by
  have hb := RByte_any r _ w h
  simp only [rdByte] at hb
  have hl4 : l.length ≤ 250000 := by have := h.2; simp at this; omega
  generalize hn : c.toNat = n at *
  have hd8 : decide ((8 : Int) < (n : Int)) = false := by simp; omega
  clear h
  go_enter Tryz.func130, Tryz.ntmps130
  go_wp2_with fail
  refine hb.mono ?_
  clear hb
  rintro e w1 ⟨rfl, ho1⟩
  have ht := take_ok r n l (by omega) w1 ho1.1
  have HO := Lib.hid ho1
  clear ho1
  go_wp2_with fail
  refine ht.mono ?_
  clear ht
  rintro e w2 ⟨⟨s, rfl, hr⟩, ho2⟩
  have HO2 := Lib.hid (HO.out.trans ho2)
  clear ho2
  obtain ⟨p, cc, rfl, hcc, hcm, _, _, hcell⟩ := hr
  unfold maxLen at hcm
  by_cases h0 : n = 0
  · subst h0
    clear hcell hz
    go_wp2
    refine wp_loop_rounds 1 ?_
    rw [rounds_succ]
    go_wp2
    go_ret
    exact ⟨rfl, HO2.out⟩
  · obtain ⟨b, off, rfl, _, _, hcell⟩ := hcell.resolve_left h0
    have hcs : ∀ k, k < n → w2.cell? ⟨b, off + k, none⟩ = some (.int .u8 ((l.getD k 0).toNat : Int)) := fun k hk => hcell k _ (by
      rw [List.getElem?_map, List.getElem?_take_of_lt hk, List.getD_eq_getElem?_getD, List.getElem?_eq_getElem (by omega)]; rfl)
    have HC := Lib.hid hcs
    have hn0 : 0 < n := Nat.pos_of_ne_zero h0
    have hc0 := hcs 0 hn0
    have hz0 : ¬ l.getD 0 0 = 0 := fun e => hz ⟨hn0, e⟩
    have hz1 : 0 < (l.getD 0 0).toNat := by
      rcases Nat.eq_zero_or_pos (l.getD 0 0).toNat with e | e
      · exact absurd (UInt8.toNat_inj.1 (by simpa using e)) hz0
      · exact e
    generalize (l.getD 0 0).toNat = f at hc0 hz1
    rw [Nat.add_zero] at hc0
    have hft : ((f : Int) == 0) = false := by rw [beq_eq_false_iff_ne]; omega
    clear hcs hcell hz hz0
    go_wp2
    go_loop [6, 8, 40] (fun x _ t => ∃ k : Nat, k ≤ n ∧ t = .int .i64 k ∧ x = .int .u64 (val (l.take k) : Int)) (fun _ _ t => n - (intOf t).toNat)
    case atStart => exact ⟨0, by omega, rfl, rfl⟩
    case round =>
      obtain ⟨k, hk, rfl, rfl⟩ := hrel
      by_cases hkn : k < n
      · have hck := HC.out k hkn
        have hvs := val_small l k (by omega)
        have hbs := (l.getD k 0).toNat_lt
        have hvt := val_take l k (by omega)
        generalize (l.getD k 0).toNat = b1 at hck hbs hvt
        generalize val (l.take k) = x1 at hvs hvt ⊢
        have HV := Lib.hid hvs
        have HT := Lib.hid hvt
        clear hvs hvt
        go_wp2
        go_round
        case rel => exact ⟨k + 1, by omega, by go_num, by rw [shl_or _ _ HV.out hbs, HT.out]⟩
        case measure => simp [intOf]; omega
      · obtain rfl : k = n := by omega
        go_wp2
        go_ret
        exact ⟨rfl, HO2.out⟩

set_option maxHeartbeats 800000 in
theorem RNum_err (r e : Nat) (w : World) (h : RdAt w r (.err e)) :
    Calls Tryz.prog 130 #[.pointer (some ⟨r, 0, none⟩)] w fun e' w' => e' = .returned (.int .u64 0) ∧ RdOut w w' r (.err e) := by
  have hb := RByte_any r _ w h
  simp only [rdByte] at hb
  clear h
  go_enter Tryz.func130, Tryz.ntmps130
  go_wp2_with fail
  refine hb.mono ?_
  clear hb
  rintro e' w1 ⟨rfl, ho1⟩
  have ht := take_err r e 0 w1 ho1.1
  have HO := Lib.hid ho1
  clear ho1
  go_wp2_with fail
  refine ht.mono ?_
  clear ht
  rintro e' w2 ⟨rfl, rfl⟩
  go_wp2
  go_ret
  exact ⟨rfl, HO.out⟩

set_option maxHeartbeats 800000 in
theorem RNum_nil (r : Nat) (w : World) (h : RdAt w r (.ok [])) :
    Calls Tryz.prog 130 #[.pointer (some ⟨r, 0, none⟩)] w fun e' w' => e' = .returned (.int .u64 0) ∧ RdOut w w' r (.err 2) := by
  have hb := RByte_any r _ w h
  simp only [rdByte] at hb
  clear h
  go_enter Tryz.func130, Tryz.ntmps130
  go_wp2_with fail
  refine hb.mono ?_
  clear hb
  rintro e' w1 ⟨rfl, ho1⟩
  have ht := take_err r 2 0 w1 ho1.1
  have HO := Lib.hid ho1
  clear ho1
  go_wp2_with fail
  refine ht.mono ?_
  clear ht
  rintro e' w2 ⟨rfl, rfl⟩
  go_wp2
  go_ret
  exact ⟨rfl, HO.out⟩

set_option maxHeartbeats 800000 in
theorem RNum_great (r : Nat) (c : UInt8) (l : List UInt8) (hc8 : 8 < c.toNat) (w : World) (h : RdAt w r (.ok (c :: l))) :
    Calls Tryz.prog 130 #[.pointer (some ⟨r, 0, none⟩)] w fun e w' => e = .returned (.int .u64 0) ∧ RdOut w w' r (.err 3) := by
  have hb := RByte_any r _ w h
  simp only [rdByte] at hb
  generalize hn : c.toNat = n at *
  have hd8 : decide ((8 : Int) < (n : Int)) = true := by simp; omega
  clear h hn hc8
  go_enter Tryz.func130, Tryz.ntmps130
  go_wp2_with fail
  refine hb.mono ?_
  clear hb
  rintro e w1 ⟨rfl, ho1⟩
  have hf := fail_first r 3 w1 ho1.1.code ho1.1.frozen
  have hfin := Lib.hid (ho1.trans (ho1.1.failed (e := 3) (by decide)))
  clear ho1
  go_wp2_with fail
  refine hf.mono ?_
  clear hf
  rintro e w2 ⟨rfl, rfl⟩
  go_wp2
  go_ret
  exact ⟨rfl, hfin.out⟩

set_option maxHeartbeats 800000 in
theorem RNum_short (r : Nat) (c : UInt8) (l : List UInt8) (hc8 : ¬ 8 < c.toNat) (hcl : l.length < c.toNat) (w : World) (h : RdAt w r (.ok (c :: l))) :
    Calls Tryz.prog 130 #[.pointer (some ⟨r, 0, none⟩)] w fun e w' => e = .returned (.int .u64 0) ∧ RdOut w w' r (.err 2) := by
  have hb := RByte_any r _ w h
  simp only [rdByte] at hb
  generalize hn : c.toNat = n at *
  have hd8 : decide ((8 : Int) < (n : Int)) = false := by simp; omega
  clear h hn
  go_enter Tryz.func130, Tryz.ntmps130
  go_wp2_with fail
  refine hb.mono ?_
  clear hb
  rintro e w1 ⟨rfl, ho1⟩
  have ht := take_short r n l hcl w1 ho1.1
  have HO := Lib.hid ho1
  clear ho1
  go_wp2_with fail
  refine ht.mono ?_
  clear ht
  rintro e w2 ⟨rfl, ho2⟩
  have HO2 := Lib.hid (HO.out.trans ho2)
  clear ho2
  go_wp2
  go_ret
  exact ⟨rfl, HO2.out⟩

set_option maxHeartbeats 800000 in
theorem RNum_zero (r : Nat) (c : UInt8) (l : List UInt8) (hc8 : ¬ 8 < c.toNat) (hcl : ¬ l.length < c.toNat) (hn0 : 0 < c.toNat) (hz : l.getD 0 0 = 0) (w : World) (h : RdAt w r (.ok (c :: l))) :
    Calls Tryz.prog 130 #[.pointer (some ⟨r, 0, none⟩)] w fun e w' => e = .returned (.int .u64 0) ∧ RdOut w w' r (.err 3) := by
  have hb := RByte_any r _ w h
  simp only [rdByte] at hb
  have hl4 : l.length ≤ 250000 := by have := h.2; simp at this; omega
  generalize hn : c.toNat = n at *
  have hd8 : decide ((8 : Int) < (n : Int)) = false := by simp; omega
  clear h hn
  go_enter Tryz.func130, Tryz.ntmps130
  go_wp2_with fail
  refine hb.mono ?_
  clear hb
  rintro e w1 ⟨rfl, ho1⟩
  have ht := take_ok r n l (by omega) w1 ho1.1
  have HO := Lib.hid ho1
  clear ho1
  go_wp2_with fail
  refine ht.mono ?_
  clear ht
  rintro e w2 ⟨⟨s, rfl, hr⟩, ho2⟩
  have hf := fail_first r 3 w2 ho2.1.code ho2.1.frozen
  have hfin := Lib.hid ((HO.out.trans ho2).trans (ho2.1.failed (e := 3) (by decide)))
  clear ho2
  obtain ⟨p, cc, rfl, hcc, hcm, _, _, hcell⟩ := hr
  unfold maxLen at hcm
  obtain ⟨b, off, rfl, _, _, hcell⟩ := hcell.resolve_left (Nat.ne_of_gt hn0)
  have hc0 : w2.cell? ⟨b, off, none⟩ = some (.int .u8 0) := hcell 0 _ (by
    rw [List.getElem?_map, List.getElem?_take_of_lt hn0]
    have h1 : l[0]? = some 0 := by rw [List.getElem?_eq_getElem (by omega), ← hz, List.getD_eq_getElem?_getD, List.getElem?_eq_getElem (by omega)]; rfl
    rw [h1]; rfl)
  clear hcell hz
  go_wp2_with fail
  refine hf.mono ?_
  clear hf
  rintro e w3 ⟨rfl, rfl⟩
  go_wp2
  go_ret
  exact ⟨rfl, hfin.out⟩

theorem rdNum_cons (c : UInt8) (l : List UInt8) : rdNum (.ok (c :: l)) = if 8 < c.toNat then (.err 3, 0) else if l.length < c.toNat then (.err 2, 0) else if 0 < c.toNat ∧ l.getD 0 0 = 0 then (.err 3, 0) else (.ok (l.drop c.toNat), val (l.take c.toNat)) := rfl

theorem RdNum_any (r : Nat) (st : RS) (w : World) (h : RdAt w r st) :
    Calls Tryz.prog 130 #[.pointer (some ⟨r, 0, none⟩)] w fun e w' => e = .returned (.int .u64 ((rdNum st).2 : Int)) ∧ RdOut w w' r (rdNum st).1 := by
  match st with
  | .ok [] => exact RNum_nil r w h
  | .err e => exact RNum_err r e w h
  | .ok (c :: l) =>
    rw [rdNum_cons]
    by_cases h1 : 8 < c.toNat
    · rw [if_pos h1]; exact RNum_great r c l h1 w h
    · rw [if_neg h1]
      by_cases h2 : l.length < c.toNat
      · rw [if_pos h2]; exact RNum_short r c l h1 h2 w h
      · rw [if_neg h2]
        by_cases h3 : 0 < c.toNat ∧ l.getD 0 0 = 0
        · rw [if_pos h3]; exact RNum_zero r c l h1 h2 h3.1 h3.2 w h
        · rw [if_neg h3]; exact RNum_ok r c l h1 h2 h3 w h
theorem rdNum_lt (st : RS) : (rdNum st).2 < 18446744073709551616 := by
  match st with
  | .ok [] => exact (by decide : 0 < 18446744073709551616)
  | .err e => exact (by decide : 0 < 18446744073709551616)
  | .ok (c :: l) =>
    rw [rdNum_cons]
    split
    · exact (by decide : 0 < 18446744073709551616)
    · split
      · exact (by decide : 0 < 18446744073709551616)
      · split
        · exact (by decide : 0 < 18446744073709551616)
        · have h1 := val_lt (l.take c.toNat)
          have h2 : 256 ^ (l.take c.toNat).length ≤ 256 ^ 8 := Nat.pow_le_pow_right (by decide) (by rw [List.length_take]; omega)
          have h3 : (256 : Nat) ^ 8 = 18446744073709551616 := by decide
          show val (l.take c.toNat) < _
          omega
end Go.Proofs.YtbdimfcdpkldpaaGreatDoor.Wire

namespace Go.Proofs.YtbdimfcdpkldpaaGreatDoor.Wire
open Go.RowKit

theorem RdAt.pos {w : World} {r e : Nat} (h : RdAt w r (.err e)) : 0 < e := h.2
theorem RdAt.lt {w : World} {r : Nat} {st : RS} (h : RdAt w r st) : r < w.heap.size := World.block_lt_of_cell? w ⟨r, 0, none⟩ h.code
theorem RdAt.under {w w' : World} {r B : Nat} {st : RS} (h : RdAt w r st) (hb : Below B w w') (hB : r < B) : RdAt w' r st := by
  cases st with
  | ok l => obtain ⟨⟨v, hk, hr⟩, hl⟩ := h; exact ⟨⟨v, hk.below hb hB, hr.below hb (fun k _ (hk : k < r) => by omega)⟩, hl⟩
  | err e => obtain ⟨⟨v, hk⟩, hl⟩ := h; exact ⟨⟨v, hk.below hb hB⟩, hl⟩
theorem RdOut.below {w w1 w2 : World} {r : Nat} {s : RS} (h : RdOut w w1 r s) (hb : Below w1.heap.size w1 w2) : RdOut w w2 r s := ⟨h.1.below hb (Nat.le_refl _), h.2.trans (Foot.of_below _ hb)⟩
theorem rdNum_zero (st : RS) (e : Nat) (h : (rdNum st).1 = .err e) : (rdNum st).2 = 0 := by
  match st with
  | .ok [] => rfl
  | .err e => rfl
  | .ok (c :: l) =>
    rw [rdNum_cons] at h ⊢
    split at h <;> rename_i h1
    · rw [if_pos h1]
    · rw [if_neg h1]
      split at h <;> rename_i h2
      · rw [if_pos h2]
      · rw [if_neg h2]
        split at h <;> rename_i h3
        · rw [if_pos h3]
        · cases h
theorem rdByte_zero (st : RS) (e : Nat) (h : (rdByte st).1 = .err e) : (rdByte st).2 = 0 := by
  match st with
  | .ok [] => rfl
  | .err e => rfl
  | .ok (c :: l) => cases h

set_option maxHeartbeats 400000 in
theorem Read_any (w : World) (x : Value) (l : List UInt8) (hl : l.length ≤ 250000) (G : Nat → Prop) (hr : RV w G x l.length 1 (l.map bV)) :
    Calls Tryz.prog 46 #[x] w fun e w' => (∃ r, e = .returned (.pointer (some ⟨r, 0, none⟩)) ∧ w.heap.size ≤ r ∧ RdAt w' r (.ok l)) ∧ Below w.heap.size w w' := by
  have hc := Clone_any w x l (by omega) G hr
  obtain ⟨p, c, rfl, _⟩ := hr
  go_enter Tryz.func46, Tryz.ntmps46
  go_wp2_with fail
  refine hc.mono ?_
  clear hc
  rintro e w1 ⟨v, rfl, hown, hb⟩
  have hr := RV.of_own hown
  have hlt := hown.lt
  obtain ⟨p', c', rfl, _⟩ := RV.of_own hown
  have hfin : RdAt (w1.alloc (.cells #[.int .i64 0, .slice p' l.length c'] 129)) w1.heap.size (.ok l) := by
    refine ⟨⟨_, Blk.new _ _ _, ?_⟩, hl⟩
    exact (hr.keep (w' := w1.alloc _) (by simp) (fun k hk _ => Below.heap_alloc _ _ _ hk)).mono fun k _ hk => (hlt k hk).2
  have HF := Lib.hid hfin
  have hsz := hb.size
  clear hfin hr hlt hown
  go_wp2
  go_ret
  exact ⟨⟨_, rfl, hsz, HF.out⟩, hb.alloc hsz _⟩

set_option maxHeartbeats 400000 in
theorem RTruth_any' (r : Nat) (st : RS) (w : World) (h : RdAt w r st) :
    Calls Tryz.prog 182 #[.pointer (some ⟨r, 0, none⟩)] w fun e w' => e = .returned (.bool (truth (rdByte st)).2) ∧ RdOut w w' r (truth (rdByte st)).1 := by
  have hn := RByte_any r st w h
  have hz := rdByte_zero st
  have hlt := rdByte_snd st
  clear h
  generalize rdByte st = q at *
  obtain ⟨s1, x⟩ := q
  simp only at hn hz hlt
  match s1 with
  | .err e =>
    obtain rfl := hz e rfl
    simp only [truth]
    clear hz
    go_enter Tryz.func182, Tryz.ntmps182
    go_wp2_with fail
    refine hn.mono ?_
    clear hn
    rintro e w1 ⟨rfl, ho1⟩
    go_wp2
    go_ret
    exact ⟨rfl, ho1⟩
  | .ok l =>
    clear hz
    simp only [truth]
    by_cases hx : 1 < x
    · rw [if_pos hx]
      go_enter Tryz.func182, Tryz.ntmps182
      go_wp2_with fail
      refine hn.mono ?_
      clear hn
      rintro e w1 ⟨rfl, ho1⟩
      have hf := fail_first r 3 w1 ho1.1.code ho1.1.frozen
      have hfin := Lib.hid (ho1.trans (ho1.1.failed (e := 3) (by decide)))
      clear ho1
      go_wp2_with fail
      refine hf.mono ?_
      clear hf
      rintro e w2 ⟨rfl, rfl⟩
      go_wp2
      go_ret
      exact ⟨rfl, hfin.out⟩
    · rw [if_neg hx]
      have hb : ((x : Int) == 1) = (x == 1) := by rw [Bool.eq_iff_iff, beq_iff_eq, beq_iff_eq]; omega
      generalize (x == 1) = bb at *
      go_enter Tryz.func182, Tryz.ntmps182
      go_wp2_with fail
      refine hn.mono ?_
      clear hn
      rintro e w1 ⟨rfl, ho1⟩
      go_wp2
      go_ret
      exact ⟨rfl, ho1⟩

set_option maxHeartbeats 400000 in
theorem Err_any (r : Nat) (st : RS) (w : World) (h : RdAt w r st) :
    Calls Tryz.prog 92 #[.pointer (some ⟨r, 0, none⟩)] w fun e w' => e = .returned (.int .i64 (st.code : Int)) ∧ w = w' := by
  have h1 := h.code
  clear h
  go_enter Tryz.func92, Tryz.ntmps92
  go_wp2
  go_ret
  exact ⟨rfl, rfl⟩

set_option maxHeartbeats 400000 in
theorem Left_any (r : Nat) (st : RS) (w : World) (h : RdAt w r st) :
    Calls Tryz.prog 93 #[.pointer (some ⟨r, 0, none⟩)] w fun e w' => e = .returned (.int .i64 (st.left.length : Int)) ∧ w = w' := by
  match st with
  | .ok l =>
    have hf := failed_no r w h.code
    obtain ⟨⟨v, hb, hr⟩, _⟩ := h
    obtain ⟨p, c, rfl, _⟩ := hr
    have h1 : w.cell? ⟨r, 1, none⟩ = some (.slice p l.length c) := hb.cell 1
    simp only [RS.left]
    clear hb
    go_enter Tryz.func93, Tryz.ntmps93
    go_wp2_with (go_at_call 87; refine hf.mono ?_; clear hf; rintro e w' ⟨rfl, rfl⟩)
    go_ret
    exact ⟨rfl, rfl⟩
  | .err e =>
    have hf := failed_yes r e h.2 w h.code
    simp only [RS.left]
    clear h
    go_enter Tryz.func93, Tryz.ntmps93
    go_wp2_with (go_at_call 87; refine hf.mono ?_; clear hf; rintro e w' ⟨rfl, rfl⟩)
    go_ret
    exact ⟨rfl, rfl⟩

/-- What Done tells. -/
def rdDone : RS → Nat
  | .ok [] => 0
  | .ok (_ :: _) => 3
  | .err e => e
set_option maxHeartbeats 400000 in
theorem RDone_any (r : Nat) (st : RS) (w : World) (h : RdAt w r st) :
    Calls Tryz.prog 48 #[.pointer (some ⟨r, 0, none⟩)] w fun e w' => e = .returned (.int .i64 (rdDone st : Int)) ∧ w = w' := by
  have he := Err_any r st w h
  have hl := Left_any r st w h
  match st with
  | .ok [] =>
    simp only [RS.left, RS.code, List.length_nil] at he hl
    simp only [rdDone]
    clear h
    go_enter Tryz.func48, Tryz.ntmps48
    go_wp2_with (first | (go_at_call 92; refine he.mono ?_; rintro e w' ⟨rfl, rfl⟩) | (go_at_call 93; refine hl.mono ?_; rintro e w' ⟨rfl, rfl⟩))
    go_ret
    exact ⟨rfl, rfl⟩
  | .ok (c :: l) =>
    simp only [RS.left, RS.code, List.length_cons] at he hl
    simp only [rdDone]
    clear h
    go_enter Tryz.func48, Tryz.ntmps48
    go_wp2_with (first | (go_at_call 92; refine he.mono ?_; rintro e w' ⟨rfl, rfl⟩) | (go_at_call 93; refine hl.mono ?_; rintro e w' ⟨rfl, rfl⟩))
    go_ret
    exact ⟨rfl, rfl⟩
  | .err e =>
    have hp := h.2
    have ht : ((e : Int) == 0) = false := by rw [beq_eq_false_iff_ne]; omega
    simp only [RS.left, RS.code] at he hl
    simp only [rdDone]
    clear h
    go_enter Tryz.func48, Tryz.ntmps48
    go_wp2_with (first | (go_at_call 92; refine he.mono ?_; rintro e w' ⟨rfl, rfl⟩) | (go_at_call 93; refine hl.mono ?_; rintro e w' ⟨rfl, rfl⟩))
    go_ret
    exact ⟨rfl, rfl⟩
end Go.Proofs.YtbdimfcdpkldpaaGreatDoor.Wire

namespace Go.Proofs.YtbdimfcdpkldpaaGreatDoor.Wire
open Go.RowKit

theorem map_self (l : List UInt8) : List.map ((fun n : Int => UInt8.ofNat n.toNat) ∘ fun c : UInt8 => (c.toNat : Int)) l = l := by
  induction l with
  | nil => rfl
  | cons c l ih => rw [List.map_cons, ih]; simp
/-- Bytes that read, turned into a text. -/
theorem text_rv {P : Program} {w : World} {G : Nat → Prop} {v : Value} {l : List UInt8} (src e dst : TypeId) (hs : P.underlying src = some (.slice e)) (he : P.underlying e = some (.int .u8)) (hd : P.underlying dst = some .string)
    (h : RV w G v l.length 1 (l.map bV)) : (convert src dst v).run P w = .ok (.string ⟨l.toArray⟩) w := by
  obtain ⟨p, c, rfl, hn, hm, hp, hl, hc⟩ := h
  cases p with
  | none =>
    have hcz := hp rfl
    have : l = [] := List.length_eq_zero_iff.1 (by omega)
    subst this
    exact run_convert_bytes_nil w src e hs he _ _ dst hd
  | some ad =>
    have hload : (loadCells ad l.length).run P w = .ok (((l.map fun c => (c.toNat : Int)).map (Value.int .u8)).toArray) w := by
      have hx := run_loadCells_list (P := P) w ad (l.map bV) (fun j u hu => by
        rcases hc with h0 | ⟨b, off, hb, _, _, hc⟩
        · have : l = [] := List.length_eq_zero_iff.1 h0
          subst this
          simp at hu
        · cases hb
          have hadd : (⟨b, off, none⟩ : Addr).add j = ⟨b, off + j, none⟩ := by unfold Addr.add; split <;> simp_all
          rw [hadd]; exact hc j u hu)
      rw [List.length_map] at hx
      rw [List.map_map]
      exact hx
    rw [run_convert_bytes_string w src dst e _ _ c hs he hd, run_bytesToString w _ _ c _ hload, foldl_push_bytes]
    congr 3
    simp only [ByteArray.empty, ByteArray.emptyWithCapacity, List.map_map]
    rw [map_self]
    simp
    rfl

end Go.Proofs.YtbdimfcdpkldpaaGreatDoor.Wire

namespace Go.Proofs.YtbdimfcdpkldpaaGreatDoor.Wire
open Go.RowKit

set_option maxHeartbeats 400000 in
theorem take_nil (n : Nat) (w : World) :
    Calls Tryz.prog 157 #[.pointer none, .int .u64 n] w fun e w' => e = .returned (.tuple #[.slice none 0 0, .bool false]) ∧ w = w' := by
  go_enter Tryz.func157, Tryz.ntmps157
  go_wp2
  go_ret2
  exact ⟨rfl, rfl⟩
set_option maxHeartbeats 400000 in
theorem RByte_nil (w : World) :
    Calls Tryz.prog 156 #[.pointer none] w fun e w' => e = .returned (.int .u8 0) ∧ w = w' := by
  go_enter Tryz.func156, Tryz.ntmps156
  go_wp2_with (first | (go_at_call 157; refine (take_nil 1 _).mono ?_; rintro e w1 ⟨rfl, rfl⟩))
  go_ret
  exact ⟨rfl, rfl⟩
set_option maxHeartbeats 400000 in
theorem Err_nil (w : World) :
    Calls Tryz.prog 92 #[.pointer none] w fun e w' => e = .returned (.int .i64 14) ∧ w = w' := by
  go_enter Tryz.func92, Tryz.ntmps92
  go_wp2
  go_ret
  exact ⟨rfl, rfl⟩
end Go.Proofs.YtbdimfcdpkldpaaGreatDoor.Wire

namespace Go.Proofs.YtbdimfcdpkldpaaGreatDoor.Wire
open Go.RowKit

theorem below_alloc2 (w : World) (a b : Obj) : Below w.heap.size w ((w.alloc a).alloc b) := below_pre (below_alloc w a) (below_alloc _ b)

set_option maxHeartbeats 400000 in
theorem Rfail_ok (p : Option Addr) (n c : Nat) (x : Int) (w : World) :
    Calls Tryz.prog 98 #[.agg #[.slice p n c, .int .i64 0], .int .i64 x] w fun e w' => e = .returned (.agg #[.slice none 0 0, .int .i64 x]) ∧ Below w.heap.size w w' := by
  have hb := below_alloc2 w
  go_enter Tryz.func98, Tryz.ntmps98
  go_wp2
  exact bodyPost_ret (v := .agg #[.slice none 0 0, .int .i64 x]) (by simp [results, Tryz.results98, go_sem]) rfl ⟨rfl, hb _ _⟩
set_option maxHeartbeats 400000 in
theorem Rfail_err (e : Nat) (he : 0 < e) (x : Int) (w : World) :
    Calls Tryz.prog 98 #[.agg #[.slice none 0 0, .int .i64 e], .int .i64 x] w fun e' w' => e' = .returned (.agg #[.slice none 0 0, .int .i64 e]) ∧ Below w.heap.size w w' := by
  have ht : ((e : Int) == 0) = false := by rw [beq_eq_false_iff_ne]; omega
  have hb := below_alloc2 w
  clear he
  go_enter Tryz.func98, Tryz.ntmps98
  go_wp2
  exact bodyPost_ret (v := .agg #[.slice none 0 0, .int .i64 e]) (by simp [results, Tryz.results98, go_sem]) rfl ⟨rfl, hb _ _⟩

/-- Behind a call that makes memory alone, what was there reads as it did. -/
theorem old_cells {W w1 : World} (hb : Below W.heap.size W w1) : (∀ b o, b < W.heap.size → w1.cell? ⟨b, o, none⟩ = W.cell? ⟨b, o, none⟩) ∧ (∀ b o, b < W.heap.size → w1.frozen? ⟨b, o, none⟩ = W.frozen? ⟨b, o, none⟩) :=
  ⟨fun b o h => hb.cell (p := ⟨b, o, none⟩) h, fun b o h => hb.frozen (p := ⟨b, o, none⟩) h⟩
theorem below_res {w w1 : World} {a b : Obj} (hb : Below ((w.alloc a).alloc b).heap.size ((w.alloc a).alloc b) w1) (x y : Value) : Below w.heap.size w ((w1.setCell ⟨w.heap.size + 1, 0, none⟩ x).setCell ⟨w.heap.size + 1, 1, none⟩ y) :=
  ((below_pre (below_alloc2 w a b) hb).setCell (p := ⟨w.heap.size + 1, 0, none⟩) (by show w.heap.size ≤ w.heap.size + 1; omega) x).setCell (p := ⟨w.heap.size + 1, 1, none⟩) (by show w.heap.size ≤ w.heap.size + 1; omega) y

/-- A state of the reference, as a value. -/
def RsV (w : World) (G : Nat → Prop) (v : Value) : RS → Prop
  | .ok l => (∃ sl, v = .agg #[sl, .int .i64 0] ∧ RV w G sl l.length 1 (l.map bV)) ∧ l.length ≤ 250000
  | .err e => v = .agg #[.slice none 0 0, .int .i64 (e : Int)] ∧ 0 < e
theorem RsV.nil {w : World} {G : Nat → Prop} {e : Nat} (he : 0 < e) : RsV w G (.agg #[.slice none 0 0, .int .i64 (e : Int)]) (.err e) := ⟨rfl, he⟩
theorem RsV.below {w w' : World} {B : Nat} {v : Value} {st : RS} (h : RsV w (fun k => k < B) v st) (hb : Below B w w') : RsV w' (fun k => k < B) v st := by
  cases st with
  | ok l => obtain ⟨⟨sl, hv, hr⟩, hl⟩ := h; exact ⟨⟨sl, hv, hr.below hb (fun k _ hk => hk)⟩, hl⟩
  | err e => exact h

set_option maxHeartbeats 800000 in
theorem GetByte_err (e : Nat) (he : 0 < e) (w : World) :
    Calls Tryz.prog 97 #[.agg #[.slice none 0 0, .int .i64 e]] w fun e' w' => e' = .returned (.tuple #[.agg #[.slice none 0 0, .int .i64 e], .int .u8 0]) ∧ Below w.heap.size w w' := by
  have ht : ((e : Int) != 0) = true := by rw [bne_iff_ne]; omega
  have hb := Lib.hid (below_alloc2 w)
  have hf := Rfail_err e he 2
  clear he
  go_enter Tryz.func97, Tryz.ntmps97
  go_wp2_with fail
  refine (hf _).mono ?_
  clear hf
  rintro e' w1 ⟨rfl, hb1⟩
  have HR := Lib.hid (fun x y => below_res hb1 x y)
  obtain ⟨hc, hf⟩ := old_cells hb1
  have hz : w.heap.size + 1 < w1.heap.size := by have := hb1.size; simp at this; omega
  clear hb1
  go_wp2
  exact bodyPost_ret (v := .tuple #[.agg #[.slice none 0 0, .int .i64 e], .int .u8 0]) (by simp [results, Tryz.results97, go_sem, hc]) rfl ⟨rfl, HR.out _ _⟩

set_option maxHeartbeats 800000 in
theorem GetByte_nil (p : Option Addr) (c : Nat) (w : World) :
    Calls Tryz.prog 97 #[.agg #[.slice p 0 c, .int .i64 0]] w fun e' w' => e' = .returned (.tuple #[.agg #[.slice none 0 0, .int .i64 2], .int .u8 0]) ∧ Below w.heap.size w w' := by
  have hf := Rfail_ok p 0 c 2
  go_enter Tryz.func97, Tryz.ntmps97
  go_wp2_with fail
  refine (hf _).mono ?_
  clear hf
  rintro e' w1 ⟨rfl, hb1⟩
  have HR := Lib.hid (fun x y => below_res hb1 x y)
  obtain ⟨hc, hf⟩ := old_cells hb1
  have hz : w.heap.size + 1 < w1.heap.size := by have := hb1.size; simp at this; omega
  clear hb1
  go_wp2
  exact bodyPost_ret (v := .tuple #[.agg #[.slice none 0 0, .int .i64 2], .int .u8 0]) (by simp [results, Tryz.results97, go_sem, hc]) rfl ⟨rfl, HR.out _ _⟩

set_option maxHeartbeats 800000 in
theorem GetByte_cons (p : Option Addr) (cp : Nat) (c : UInt8) (l : List UInt8) (G : Nat → Prop) (w : World) (hr : RV w G (.slice p (c :: l).length cp) (c :: l).length 1 ((c :: l).map bV)) :
    Calls Tryz.prog 97 #[.agg #[.slice p (c :: l).length cp, .int .i64 0]] w fun e' w' => (∃ sl, e' = .returned (.tuple #[.agg #[sl, .int .i64 0], .int .u8 (c.toNat : Int)]) ∧ RV w G sl l.length 1 (l.map bV)) ∧ Below w.heap.size w w' := by
  have hrest := RV_rest hr 1 (by simp)
  obtain ⟨p', cp', hv, hn, hm, _, _, hcell⟩ := hr
  cases hv
  obtain ⟨b, off, rfl, hb, _, hcell⟩ := hcell.resolve_left (by simp)
  have h0 : w.cell? ⟨b, off, none⟩ = some (.int .u8 (c.toNat : Int)) := hcell 0 _ rfl
  unfold maxLen at hm
  rw [List.length_cons] at *
  simp only [Nat.add_sub_cancel, Nat.mul_one, List.map_cons, List.drop_succ_cons, List.drop_zero] at hrest
  clear hcell
  have HR := Lib.hid hrest
  clear hrest
  have hbb := Lib.hid (below_alloc2 w)
  by_cases h1 : cp = 1
  · subst h1
    obtain rfl : l = [] := List.length_eq_zero_iff.1 (by omega)
    go_enter Tryz.func97, Tryz.ntmps97
    go_wp2
    go_region
    all_goals go_wp2
    exact bodyPost_ret (v := .tuple #[.agg #[.slice (some ⟨b, off, none⟩) 0 0, .int .i64 0], .int .u8 (c.toNat : Int)]) (by simp [results, Tryz.results97, go_sem]) rfl ⟨⟨_, rfl, by simpa using HR.out⟩, (hbb.out _ _).drew⟩
  · go_enter Tryz.func97, Tryz.ntmps97
    go_wp2
    go_region
    all_goals go_wp2
    exact bodyPost_ret (v := .tuple #[.agg #[.slice (some ⟨b, off + 1, none⟩) l.length (cp - 1), .int .i64 0], .int .u8 (c.toNat : Int)]) (by simp [results, Tryz.results97, go_sem]) rfl ⟨⟨_, rfl, by have := HR.out; rw [if_neg h1] at this; simpa [Addr.add] using this⟩, (hbb.out _ _).drew⟩
end Go.Proofs.YtbdimfcdpkldpaaGreatDoor.Wire

namespace Go.Proofs.YtbdimfcdpkldpaaGreatDoor.Wire
open Go.RowKit

/-- The frame of a call: the argument's box at N holds x, y, the result's box behind it; nothing older has turned. -/
structure Fr (w W : World) (x y b0 b1 : Value) : Prop where
  arg : Blk W w.heap.size 94 #[x, y]
  res : Blk W (w.heap.size + 1) 94 #[b0, b1]
  below : Below w.heap.size w W
theorem Fr.new (w : World) (x y b0 b1 : Value) : Fr w ((w.alloc (.cells #[x, y] 94)).alloc (.cells #[b0, b1] 94)) x y b0 b1 :=
  ⟨(Blk.new w _ _).alloc _, by have h := Blk.new (w.alloc (.cells #[x, y] 94)) 94 #[b0, b1]; simpa using h, below_alloc2 _ _ _⟩
section
variable {w W W' : World} {x y b0 b1 : Value}
theorem Fr.later (h : Fr w W x y b0 b1) (hb : Below W.heap.size W W') : Fr w W' x y b0 b1 :=
  ⟨h.arg.below hb h.arg.lt, h.res.below hb h.res.lt, h.below.trans (hb.mono h.below.size)⟩
theorem Fr.put (h : Fr w W x y b0 b1) (u v : Value) : Fr w ((W.setCell ⟨w.heap.size, 0, none⟩ u).setCell ⟨w.heap.size, 1, none⟩ v) u v b0 b1 := by
  refine ⟨?_, ?_, ?_⟩
  · exact (h.arg.set 0 u).set 1 v
  · exact (h.res.far (p := ⟨w.heap.size, 0, none⟩) (by show w.heap.size + 1 ≠ w.heap.size; omega) u).far (p := ⟨w.heap.size, 1, none⟩) (by show w.heap.size + 1 ≠ w.heap.size; omega) v
  · exact (h.below.setCell (p := ⟨w.heap.size, 0, none⟩) (Nat.le_refl _) u).setCell (p := ⟨w.heap.size, 1, none⟩) (Nat.le_refl _) v
theorem Fr.out (h : Fr w W x y b0 b1) (u v : Value) : Below w.heap.size w ((W.setCell ⟨w.heap.size + 1, 0, none⟩ u).setCell ⟨w.heap.size + 1, 1, none⟩ v) :=
  (h.below.setCell (p := ⟨w.heap.size + 1, 0, none⟩) (by show _ ≤ w.heap.size + 1; omega) u).setCell (p := ⟨w.heap.size + 1, 1, none⟩) (by show _ ≤ w.heap.size + 1; omega) v
/-- What the walk is told of a frame. -/
structure Fr.Cells (w W : World) (x y b0 b1 : Value) : Prop where
  a0 : W.cell? ⟨w.heap.size, 0, none⟩ = some x
  a1 : W.cell? ⟨w.heap.size, 1, none⟩ = some y
  r0 : W.cell? ⟨w.heap.size + 1, 0, none⟩ = some b0
  r1 : W.cell? ⟨w.heap.size + 1, 1, none⟩ = some b1
  fa0 : W.frozen? ⟨w.heap.size, 0, none⟩ = false
  fa1 : W.frozen? ⟨w.heap.size, 1, none⟩ = false
  f0 : W.frozen? ⟨w.heap.size + 1, 0, none⟩ = false
  f1 : W.frozen? ⟨w.heap.size + 1, 1, none⟩ = false
theorem Fr.cells (h : Fr w W x y b0 b1) : Fr.Cells w W x y b0 b1 := ⟨h.arg.cell 0, h.arg.cell 1, h.res.cell 0, h.res.cell 1, h.arg.frozen 0, h.arg.frozen 1, h.res.frozen 0, h.res.frozen 1⟩
end

set_option maxHeartbeats 800000 in
theorem GetNum_bad (v : Value) (p : Option Addr) (n c : Nat) (x : Int) (hv : v = .agg #[.slice p n c, .int .i64 x]) (e : Nat) (he : 0 < e) (w : World)
    (hg : ∀ W, Calls Tryz.prog 97 #[v] W fun e' w' => e' = .returned (.tuple #[.agg #[.slice none 0 0, .int .i64 (e : Int)], .int .u8 0]) ∧ Below W.heap.size W w') :
    Calls Tryz.prog 52 #[v] w fun e' w' => e' = .returned (.tuple #[.agg #[.slice none 0 0, .int .i64 (e : Int)], .int .u64 0]) ∧ Below w.heap.size w w' := by
  subst hv
  have ht : ((e : Int) != 0) = true := by rw [bne_iff_ne]; omega
  have hfr := Fr.new w (.slice p n c) (.int .i64 x) (.slice none 0 0) (.int .i64 0)
  have HG := Lib.hid hg
  clear he hg
  go_enter Tryz.func52, Tryz.ntmps52
  go_wp2_with fail
  refine (HG.out _).mono ?_
  rintro e' w1 ⟨rfl, hb1⟩
  have hfr1 := hfr.later hb1
  obtain ⟨a0, a1, r0, r1, fa0, fa1, f0, f1⟩ := hfr1.cells
  have HF := Lib.hid hfr1
  clear hfr hfr1 hb1
  go_wp2
  exact bodyPost_ret (v := .tuple #[.agg #[.slice none 0 0, .int .i64 e], .int .u64 0]) (by simp [results, Tryz.results52, go_sem, r0, r1]) rfl ⟨rfl, (HF.out.put _ _).out _ _⟩

set_option maxHeartbeats 800000 in
theorem GetNum_great (p : Option Addr) (cp : Nat) (c : UInt8) (l : List UInt8) (h8 : 8 < c.toNat) (G : Nat → Prop) (w : World) (hr : RV w G (.slice p (c :: l).length cp) (c :: l).length 1 ((c :: l).map bV)) (hG : ∀ k, G k → k < w.heap.size) :
    Calls Tryz.prog 52 #[.agg #[.slice p (c :: l).length cp, .int .i64 0]] w fun e' w' => e' = .returned (.tuple #[.agg #[.slice none 0 0, .int .i64 3], .int .u64 0]) ∧ Below w.heap.size w w' := by
  have hfr := Fr.new w (.slice p (c :: l).length cp) (.int .i64 0) (.slice none 0 0) (.int .i64 0)
  have hg := GetByte_cons p cp c l G _ (hr.below hfr.below (fun k hk hg => hG k hg))
  generalize hn : c.toNat = n at *
  have hd8 : decide ((8 : Int) < (n : Int)) = true := by simp; omega
  clear hn h8
  go_enter Tryz.func52, Tryz.ntmps52
  go_wp2_with fail
  refine hg.mono ?_
  clear hg
  rintro e' w1 ⟨⟨sl, rfl, hrl⟩, hb1⟩
  have hrl := hrl.below hb1 (fun k hk hg => hk)
  obtain ⟨q, cq, rfl, hlq, hmq, _, _, hdat⟩ := hrl
  unfold maxLen at hmq
  have hfr1 := (hfr.later hb1).put (.slice q l.length cq) (.int .i64 0)
  obtain ⟨a0, a1, r0, r1, fa0, fa1, f0, f1⟩ := hfr1.cells
  obtain ⟨c0, c1, d0, d1, ga0, ga1, g0, g1⟩ := (hfr.later hb1).cells
  have HF := Lib.hid hfr1
  have hff := Rfail_ok q l.length cq 3
  clear hfr hfr1 hb1
  go_wp2_with fail
  refine (hff _).mono ?_
  clear hff
  rintro e' w2 ⟨rfl, hb2⟩
  have hfr2 := HF.out.later hb2
  obtain ⟨a0', a1', r0', r1', fa0', fa1', f0', f1'⟩ := hfr2.cells
  have HF2 := Lib.hid hfr2
  clear hfr2 hb2
  go_wp2
  exact bodyPost_ret (v := .tuple #[.agg #[.slice none 0 0, .int .i64 3], .int .u64 0]) (by simp [results, Tryz.results52, go_sem, r0', r1']) rfl ⟨rfl, HF2.out.out _ _⟩

set_option maxHeartbeats 800000 in
theorem GetNum_short (p : Option Addr) (cp : Nat) (c : UInt8) (l : List UInt8) (h8 : ¬ 8 < c.toNat) (hl : l.length < c.toNat) (G : Nat → Prop) (w : World) (hr : RV w G (.slice p (c :: l).length cp) (c :: l).length 1 ((c :: l).map bV)) (hG : ∀ k, G k → k < w.heap.size) :
    Calls Tryz.prog 52 #[.agg #[.slice p (c :: l).length cp, .int .i64 0]] w fun e' w' => e' = .returned (.tuple #[.agg #[.slice none 0 0, .int .i64 2], .int .u64 0]) ∧ Below w.heap.size w w' := by
  have hfr := Fr.new w (.slice p (c :: l).length cp) (.int .i64 0) (.slice none 0 0) (.int .i64 0)
  have hg := GetByte_cons p cp c l G _ (hr.below hfr.below (fun k hk hg => hG k hg))
  generalize hn : c.toNat = n at *
  have hd8 : decide ((8 : Int) < (n : Int)) = false := by simp; omega
  have hdl : decide (l.length < n) = true := by simp; omega
  clear hn
  go_enter Tryz.func52, Tryz.ntmps52
  go_wp2_with fail
  refine hg.mono ?_
  clear hg
  rintro e' w1 ⟨⟨sl, rfl, hrl⟩, hb1⟩
  have hrl := hrl.below hb1 (fun k hk hg => hk)
  obtain ⟨q, cq, rfl, hlq, hmq, _, _, hdat⟩ := hrl
  unfold maxLen at hmq
  have hfr1 := (hfr.later hb1).put (.slice q l.length cq) (.int .i64 0)
  obtain ⟨a0, a1, r0, r1, fa0, fa1, f0, f1⟩ := hfr1.cells
  obtain ⟨c0, c1, d0, d1, ga0, ga1, g0, g1⟩ := (hfr.later hb1).cells
  have HF := Lib.hid hfr1
  have hff := Rfail_ok q l.length cq 2
  clear hfr hfr1 hb1
  go_wp2_with fail
  refine (hff _).mono ?_
  clear hff
  rintro e' w2 ⟨rfl, hb2⟩
  have hfr2 := HF.out.later hb2
  obtain ⟨a0', a1', r0', r1', fa0', fa1', f0', f1'⟩ := hfr2.cells
  have HF2 := Lib.hid hfr2
  clear hfr2 hb2
  go_wp2
  exact bodyPost_ret (v := .tuple #[.agg #[.slice none 0 0, .int .i64 2], .int .u64 0]) (by simp [results, Tryz.results52, go_sem, r0', r1']) rfl ⟨rfl, HF2.out.out _ _⟩

set_option maxHeartbeats 800000 in
theorem GetNum_zero (p : Option Addr) (cp : Nat) (c : UInt8) (l : List UInt8) (h8 : ¬ 8 < c.toNat) (hl : ¬ l.length < c.toNat) (hn0 : 0 < c.toNat) (hz : l.getD 0 0 = 0) (G : Nat → Prop) (w : World) (hr : RV w G (.slice p (c :: l).length cp) (c :: l).length 1 ((c :: l).map bV)) (hG : ∀ k, G k → k < w.heap.size) :
    Calls Tryz.prog 52 #[.agg #[.slice p (c :: l).length cp, .int .i64 0]] w fun e' w' => e' = .returned (.tuple #[.agg #[.slice none 0 0, .int .i64 3], .int .u64 0]) ∧ Below w.heap.size w w' := by
  have hfr := Fr.new w (.slice p (c :: l).length cp) (.int .i64 0) (.slice none 0 0) (.int .i64 0)
  have hg := GetByte_cons p cp c l G _ (hr.below hfr.below (fun k hk hg => hG k hg))
  generalize hn : c.toNat = n at *
  have hd8 : decide ((8 : Int) < (n : Int)) = false := by simp; omega
  have hdl : decide (l.length < n) = false := by simp; omega
  clear hn
  go_enter Tryz.func52, Tryz.ntmps52
  go_wp2_with fail
  refine hg.mono ?_
  clear hg
  rintro e' w1 ⟨⟨sl, rfl, hrl⟩, hb1⟩
  have hrl := hrl.below hb1 (fun k hk hg => hk)
  obtain ⟨q, cq, rfl, hlq, hmq, _, _, hdat⟩ := hrl
  unfold maxLen at hmq
  obtain ⟨bq, oq, rfl, hbq, hGq, hcell⟩ := hdat.resolve_left (by omega)
  have hGq := hG _ hGq
  have hfr1 := (hfr.later hb1).put (.slice (some ⟨bq, oq, none⟩) l.length cq) (.int .i64 0)
  have h0' : (((w1.setCell ⟨w.heap.size, 0, none⟩ (.slice (some ⟨bq, oq, none⟩) l.length cq)).setCell ⟨w.heap.size, 1, none⟩ (.int .i64 0)).cell? ⟨bq, oq, none⟩) = some (.int .u8 0) := by
    have h00 : w1.cell? ⟨bq, oq, none⟩ = some (.int .u8 0) := hcell 0 _ (by
      rw [List.getElem?_map]
      have h1 : l[0]? = some 0 := by rw [List.getElem?_eq_getElem (by omega), ← hz, List.getD_eq_getElem?_getD, List.getElem?_eq_getElem (by omega)]; rfl
      rw [h1]; rfl)
    exact ((((Foot.refl (fun k => k = w.heap.size) w1).setCell (p := ⟨w.heap.size, 0, none⟩) (.inl rfl) _).setCell (p := ⟨w.heap.size, 1, none⟩) (.inl rfl) _).cell (p := ⟨bq, oq, none⟩) hbq (fun (e : bq = w.heap.size) => by omega)).trans h00
  clear hcell hz
  obtain ⟨a0, a1, r0, r1, fa0, fa1, f0, f1⟩ := hfr1.cells
  obtain ⟨c0, c1, d0, d1, ga0, ga1, g0, g1⟩ := (hfr.later hb1).cells
  have HF := Lib.hid hfr1
  have hff := Rfail_ok (some ⟨bq, oq, none⟩) l.length cq 3
  clear hfr hfr1 hb1
  go_wp2_with fail
  refine (hff _).mono ?_
  clear hff
  rintro e' w2 ⟨rfl, hb2⟩
  have hfr2 := HF.out.later hb2
  obtain ⟨a0', a1', r0', r1', fa0', fa1', f0', f1'⟩ := hfr2.cells
  have HF2 := Lib.hid hfr2
  clear hfr2 hb2
  go_wp2
  exact bodyPost_ret (v := .tuple #[.agg #[.slice none 0 0, .int .i64 3], .int .u64 0]) (by simp [results, Tryz.results52, go_sem, r0', r1']) rfl ⟨rfl, HF2.out.out _ _⟩

set_option maxHeartbeats 1600000 in
theorem mul_add_wrap (x b : Nat) (hx : x < 72057594037927936) (hb : b < 256) : IntKind.u64.wrap (IntKind.u64.wrap ((x : Int) * 256) + (b : Int)) = ((x * 256 + b : Nat) : Int) := by
  rw [IntWalk.u64_in ((x : Int) * 256) (by omega), IntWalk.u64_in _ (by omega)]; omega

set_option maxHeartbeats 1600000 in
theorem GetNum_ok (p : Option Addr) (cp : Nat) (c : UInt8) (l : List UInt8) (h8 : ¬ 8 < c.toNat) (hl : ¬ l.length < c.toNat) (hz : ¬ (0 < c.toNat ∧ l.getD 0 0 = 0)) (G : Nat → Prop) (w : World) (hr : RV w G (.slice p (c :: l).length cp) (c :: l).length 1 ((c :: l).map bV)) (hG : ∀ k, G k → k < w.heap.size) :
    Calls Tryz.prog 52 #[.agg #[.slice p (c :: l).length cp, .int .i64 0]] w fun e' w' => (∃ sl, e' = .returned (.tuple #[.agg #[sl, .int .i64 0], .int .u64 (val (l.take c.toNat) : Int)]) ∧ RV w G sl (l.drop c.toNat).length 1 ((l.drop c.toNat).map bV)) ∧ Below w.heap.size w w' := by
  have hfr := Fr.new w (.slice p (c :: l).length cp) (.int .i64 0) (.slice none 0 0) (.int .i64 0)
  have hg := GetByte_cons p cp c l G _ (hr.below hfr.below (fun k hk hg => hG k hg))
  generalize hn : c.toNat = n at *
  have hd8 : decide ((8 : Int) < (n : Int)) = false := by simp; omega
  have hdl : decide (l.length < n) = false := by simp; omega
  clear hn
  go_enter Tryz.func52, Tryz.ntmps52
  go_wp2_with fail
  refine hg.mono ?_
  clear hg
  rintro e' w1 ⟨⟨sl, rfl, hrl⟩, hb1⟩
  have HRL := Lib.hid (hrl.back (below_alloc2 w _ _) (Nat.le_refl _) hG)
  have hrl := hrl.below hb1 (fun k hk hg => hk)
  obtain ⟨q, cq, rfl, hlq, hmq, _, _, hdat⟩ := hrl
  unfold maxLen at hmq
  have hfr1 := (hfr.later hb1).put (.slice q l.length cq) (.int .i64 0)
  obtain ⟨a0, a1, r0, r1, fa0, fa1, f0, f1⟩ := hfr1.cells
  obtain ⟨c0, c1, d0, d1, ga0, ga1, g0, g1⟩ := (hfr.later hb1).cells
  have HF := Lib.hid hfr1
  by_cases h0 : n = 0
  · subst h0
    clear hdat hz hfr hfr1 hb1
    have hrr := HRL.out
    go_wp2
    refine wp_loop_rounds 1 ?_
    rw [rounds_succ]
    go_wp2
    exact bodyPost_ret (v := .tuple #[.agg #[.slice q l.length cq, .int .i64 0], .int .u64 0]) (by simp [results, Tryz.results52, go_sem, r0, r1]) rfl ⟨⟨_, rfl, hrr⟩, HF.out.out _ _⟩
  · obtain ⟨bq, oq, rfl, hbq, hGq, hcell⟩ := hdat.resolve_left (by omega)
    have hGq := hG _ hGq
    have hcs : ∀ k, k < n → (((w1.setCell ⟨w.heap.size, 0, none⟩ (.slice (some ⟨bq, oq, none⟩) l.length cq)).setCell ⟨w.heap.size, 1, none⟩ (.int .i64 0)).cell? ⟨bq, oq + k, none⟩) = some (.int .u8 ((l.getD k 0).toNat : Int)) := fun k hk => by
      have h00 : w1.cell? ⟨bq, oq + k, none⟩ = some (.int .u8 ((l.getD k 0).toNat : Int)) := hcell k _ (by
        rw [List.getElem?_map, List.getD_eq_getElem?_getD, List.getElem?_eq_getElem (by omega)]; rfl)
      exact ((((Foot.refl (fun k => k = w.heap.size) w1).setCell (p := ⟨w.heap.size, 0, none⟩) (.inl rfl) _).setCell (p := ⟨w.heap.size, 1, none⟩) (.inl rfl) _).cell (p := ⟨bq, oq + k, none⟩) hbq (fun (e : bq = w.heap.size) => by omega)).trans h00
    have hn0 : 0 < n := Nat.pos_of_ne_zero h0
    have hc0 := hcs 0 hn0
    have hz1 : 0 < (l.getD 0 0).toNat := by
      rcases Nat.eq_zero_or_pos (l.getD 0 0).toNat with e | e
      · exact absurd ⟨hn0, UInt8.toNat_inj.1 (by simpa using e)⟩ hz
      · exact e
    generalize (l.getD 0 0).toNat = f at hc0 hz1
    rw [Nat.add_zero] at hc0
    have hft : ((f : Int) == 0) = false := by rw [beq_eq_false_iff_ne]; omega
    have HC := Lib.hid hcs
    clear hcs hcell hz hfr hfr1 hb1 hdat
    go_wp2
    generalize ((w1.setCell ⟨w.heap.size, 0, none⟩ (.slice (some ⟨bq, oq, none⟩) l.length cq)).setCell ⟨w.heap.size, 1, none⟩ (.int .i64 0)) = W2 at *
    go_loop [5, 6] (fun x t => ∃ k : Nat, k ≤ n ∧ t = .int .i64 k ∧ x = .int .u64 (val (l.take k) : Int)) (fun _ t => n - (intOf t).toNat)
    case atStart => exact ⟨0, by omega, rfl, rfl⟩
    case round =>
      obtain ⟨k, hk, rfl, rfl⟩ := hrel
      by_cases hkn : k < n
      · have hck := HC.out k hkn
        have hvs := val_small l k (by omega)
        have hbs := (l.getD k 0).toNat_lt
        have hvt := val_take l k (by omega)
        generalize (l.getD k 0).toNat = b1 at hck hbs hvt
        generalize val (l.take k) = x1 at hvs hvt ⊢
        have HV := Lib.hid hvs
        have HT := Lib.hid hvt
        clear hvs hvt
        go_wp2
        go_round
        case rel => exact ⟨k + 1, by omega, by go_num, by rw [mul_add_wrap _ _ HV.out hbs, HT.out]⟩
        case measure => simp [intOf]; omega
      · obtain rfl : k = n := by omega
        have hrr := RV_rest HRL.out k (by omega)
        rw [Nat.mul_one, ← List.map_drop] at hrr
        by_cases hcq : cq = k
        · subst hcq
          rw [if_pos rfl, show l.length - cq = 0 by omega] at hrr
          have HRR := Lib.hid hrr
          clear hrr
          go_wp2
          exact bodyPost_ret (v := .tuple #[.agg #[.slice (some ⟨bq, oq, none⟩) 0 0, .int .i64 0], .int .u64 (val (l.take cq) : Int)]) (by simp [results, Tryz.results52, go_sem, r0, r1]) rfl ⟨⟨_, rfl, by simpa using HRR.out⟩, HF.out.out _ _⟩
        · rw [if_neg hcq] at hrr
          have HRR := Lib.hid hrr
          clear hrr
          go_wp2
          exact bodyPost_ret (v := .tuple #[.agg #[.slice (some ⟨bq, oq + k, none⟩) (l.length - k) (cq - k), .int .i64 0], .int .u64 (val (l.take k) : Int)]) (by simp [results, Tryz.results52, go_sem, r0, r1]) rfl ⟨⟨_, rfl, by have h := HRR.out; simp only [Option.map_some, Go.WideShapes.add_plain] at h; simpa using h⟩, HF.out.out _ _⟩

/-- A contract of the reference's that reads: a state and what was read. -/
def GetOut (w w' : World) (G : Nat → Prop) (e : Ending) (st : RS) (x : Value) : Prop := (∃ v, e = .returned (.tuple #[v, x]) ∧ RsV w G v st) ∧ Below w.heap.size w w'

theorem RsV.shape {w : World} {G : Nat → Prop} {v : Value} {st : RS} (h : RsV w G v st) : ∃ p n c, v = .agg #[.slice p n c, .int .i64 (st.code : Int)] := by
  cases st with
  | ok l => obtain ⟨⟨sl, rfl, hr⟩, _⟩ := h; obtain ⟨p, c, rfl, _⟩ := hr; exact ⟨_, _, _, rfl⟩
  | err e => obtain ⟨rfl, _⟩ := h; exact ⟨_, _, _, rfl⟩

theorem GetByte_any (v : Value) (st : RS) (G : Nat → Prop) (w : World) (h : RsV w G v st) :
    Calls Tryz.prog 97 #[v] w fun e w' => GetOut w w' G e (rdByte st).1 (.int .u8 ((rdByte st).2 : Int)) := by
  match st with
  | .ok [] =>
    obtain ⟨⟨sl, rfl, hr⟩, _⟩ := h
    obtain ⟨p, c, rfl, _⟩ := hr
    exact (GetByte_nil p c w).mono fun e w' ⟨he, hb⟩ => ⟨⟨_, he, rfl, by decide⟩, hb⟩
  | .ok (c :: l) =>
    obtain ⟨⟨sl, rfl, hr⟩, hl⟩ := h
    obtain ⟨p, cp, rfl, _⟩ := id hr
    exact (GetByte_cons p cp c l G w hr).mono fun e w' ⟨⟨sl, he, hr⟩, hb⟩ => ⟨⟨_, he, ⟨sl, rfl, hr⟩, by simp at hl; omega⟩, hb⟩
  | .err e =>
    obtain ⟨rfl, he⟩ := h
    exact (GetByte_err e he w).mono fun e' w' ⟨he', hb⟩ => ⟨⟨_, he', rfl, he⟩, hb⟩

theorem GetNum_any (v : Value) (st : RS) (G : Nat → Prop) (w : World) (hG : ∀ k, G k → k < w.heap.size) (h : RsV w G v st) :
    Calls Tryz.prog 52 #[v] w fun e w' => GetOut w w' G e (rdNum st).1 (.int .u64 ((rdNum st).2 : Int)) := by
  match st with
  | .ok [] =>
    obtain ⟨⟨sl, rfl, hr⟩, _⟩ := h
    obtain ⟨p, c, rfl, _⟩ := hr
    exact (GetNum_bad _ p _ c 0 rfl 2 (by decide) w (fun W => GetByte_nil p c W)).mono fun e w' ⟨he, hb⟩ => ⟨⟨_, he, rfl, by decide⟩, hb⟩
  | .err e =>
    obtain ⟨rfl, he⟩ := h
    exact (GetNum_bad _ none 0 0 e rfl e he w (fun W => GetByte_err e he W)).mono fun e' w' ⟨he', hb⟩ => ⟨⟨_, he', rfl, he⟩, hb⟩
  | .ok (c :: l) =>
    obtain ⟨⟨sl, rfl, hr⟩, hl4⟩ := h
    obtain ⟨p, cp, rfl, _⟩ := id hr
    rw [rdNum_cons]
    by_cases h1 : 8 < c.toNat
    · rw [if_pos h1]; exact (GetNum_great p cp c l h1 G w hr hG).mono fun e w' ⟨he, hb⟩ => ⟨⟨_, he, rfl, by decide⟩, hb⟩
    · rw [if_neg h1]
      by_cases h2 : l.length < c.toNat
      · rw [if_pos h2]; exact (GetNum_short p cp c l h1 h2 G w hr hG).mono fun e w' ⟨he, hb⟩ => ⟨⟨_, he, rfl, by decide⟩, hb⟩
      · rw [if_neg h2]
        by_cases h3 : 0 < c.toNat ∧ l.getD 0 0 = 0
        · rw [if_pos h3]; exact (GetNum_zero p cp c l h1 h2 h3.1 h3.2 G w hr hG).mono fun e w' ⟨he, hb⟩ => ⟨⟨_, he, rfl, by decide⟩, hb⟩
        · rw [if_neg h3]; exact (GetNum_ok p cp c l h1 h2 h3 G w hr hG).mono fun e w' ⟨⟨sl, he, hr⟩, hb⟩ => ⟨⟨_, he, ⟨sl, rfl, hr⟩, by rw [List.length_drop]; simp at hl4; omega⟩, hb⟩
end Go.Proofs.YtbdimfcdpkldpaaGreatDoor.Wire

namespace Go.Proofs.YtbdimfcdpkldpaaGreatDoor.Wire
open Go.RowKit

section
variable {w w' : World} {G : Nat → Prop} {v : Value} {st : RS}
theorem RsV.later (h : RsV w G v st) (hb : Below w.heap.size w w') : RsV w' G v st := by
  cases st with
  | ok l => obtain ⟨⟨sl, hv, hr⟩, hl⟩ := h; exact ⟨⟨sl, hv, hr.below hb (fun k hk _ => hk)⟩, hl⟩
  | err e => exact h
theorem RsV.back (h : RsV w' G v st) (hb : Below w.heap.size w w') (hG : ∀ k, G k → k < w.heap.size) : RsV w G v st := by
  cases st with
  | ok l => obtain ⟨⟨sl, hv, hr⟩, hl⟩ := h; exact ⟨⟨sl, hv, hr.back hb (Nat.le_refl _) hG⟩, hl⟩
  | err e => exact h
theorem RsV.same {v' : Value} (h : RsV w G v st) (e : v = v') : RsV w G v' st := e ▸ h
end

set_option maxHeartbeats 800000 in
theorem GetTruth_err (p : Option Addr) (n c : Nat) (y : Int) (st : RS) (G : Nat → Prop) (w : World) (hv : RsV w G (.agg #[.slice p n c, .int .i64 y]) st) (e : Nat) (he : 0 < e)
    (HG : Hid (∀ W, w.heap.size ≤ W.heap.size → RsV W G (.agg #[.slice p n c, .int .i64 y]) st → Calls Tryz.prog 97 #[.agg #[.slice p n c, .int .i64 y]] W fun e' w' => GetOut W w' G e' (.err e) (.int .u8 0))) :
    Calls Tryz.prog 135 #[.agg #[.slice p n c, .int .i64 y]] w fun e' w' => GetOut w w' G e' (.err e) (.bool false) := by
  have ht : ((e : Int) == 0) = false := by rw [beq_eq_false_iff_ne]; omega
  have ht2 : ((e : Int) != 0) = true := by rw [bne_iff_ne]; omega
  have hfr := Fr.new w (.slice p n c) (.int .i64 y) (.slice none 0 0) (.int .i64 0)
  have hg := HG.out _ hfr.below.size (hv.later hfr.below)
  clear hv
  go_enter Tryz.func135, Tryz.ntmps135
  go_wp2_with fail
  refine hg.mono ?_
  clear hg
  rintro e' w1 ⟨⟨v', rfl, rfl, _⟩, hb1⟩
  have hfr1 := (hfr.later hb1).put (.slice none 0 0) (.int .i64 (e : Int))
  obtain ⟨c0, c1, d0, d1, ga0, ga1, g0, g1⟩ := (hfr.later hb1).cells
  obtain ⟨a0, a1, r0, r1, fa0, fa1, f0, f1⟩ := hfr1.cells
  have HF := Lib.hid hfr1
  have HE := Lib.hid he
  clear hfr hfr1 hb1 he
  go_wp2
  exact bodyPost_ret (v := .tuple #[.agg #[.slice none 0 0, .int .i64 (e : Int)], .bool false]) (by simp [results, Tryz.results135, go_sem, r0, r1]) rfl ⟨⟨_, rfl, rfl, HE.out⟩, HF.out.out _ _⟩

set_option maxHeartbeats 800000 in
theorem GetTruth_over (p : Option Addr) (n c : Nat) (y : Int) (st : RS) (G : Nat → Prop) (w : World) (hv : RsV w G (.agg #[.slice p n c, .int .i64 y]) st) (l : List UInt8) (x : Nat) (hx : 1 < x)
    (HG : Hid (∀ W, w.heap.size ≤ W.heap.size → RsV W G (.agg #[.slice p n c, .int .i64 y]) st → Calls Tryz.prog 97 #[.agg #[.slice p n c, .int .i64 y]] W fun e' w' => GetOut W w' G e' (.ok l) (.int .u8 (x : Int)))) :
    Calls Tryz.prog 135 #[.agg #[.slice p n c, .int .i64 y]] w fun e' w' => GetOut w w' G e' (.err 3) (.bool false) := by
  have hfr := Fr.new w (.slice p n c) (.int .i64 y) (.slice none 0 0) (.int .i64 0)
  have hg := HG.out _ hfr.below.size (hv.later hfr.below)
  clear hv
  go_enter Tryz.func135, Tryz.ntmps135
  go_wp2_with fail
  refine hg.mono ?_
  clear hg
  rintro e' w1 ⟨⟨v', rfl, ⟨sl, rfl, hrl⟩, hl4⟩, hb1⟩
  obtain ⟨q, cq, rfl, _⟩ := hrl
  have hfr1 := (hfr.later hb1).put (.slice q l.length cq) (.int .i64 0)
  obtain ⟨c0, c1, d0, d1, ga0, ga1, g0, g1⟩ := (hfr.later hb1).cells
  obtain ⟨a0, a1, r0, r1, fa0, fa1, f0, f1⟩ := hfr1.cells
  have HF := Lib.hid hfr1
  have hff := Rfail_ok q l.length cq 3
  clear hfr hfr1 hb1
  go_wp2_with fail
  refine (hff _).mono ?_
  clear hff
  rintro e' w2 ⟨rfl, hb2⟩
  have hfr2 := HF.out.later hb2
  clear a0 a1 r0 r1 fa0 fa1 f0 f1
  obtain ⟨a0, a1, r0, r1, fa0, fa1, f0, f1⟩ := hfr2.cells
  have HF2 := Lib.hid hfr2
  clear hfr2 hb2
  go_wp2
  exact bodyPost_ret (v := .tuple #[.agg #[.slice none 0 0, .int .i64 3], .bool false]) (by simp [results, Tryz.results135, go_sem, r0, r1]) rfl ⟨⟨_, rfl, rfl, by decide⟩, HF2.out.out _ _⟩

set_option maxHeartbeats 800000 in
theorem GetTruth_fine (p : Option Addr) (n c : Nat) (y : Int) (st : RS) (G : Nat → Prop) (w : World) (hG : ∀ k, G k → k < w.heap.size) (hv : RsV w G (.agg #[.slice p n c, .int .i64 y]) st) (l : List UInt8) (x : Nat) (hx : ¬ 1 < x)
    (HG : Hid (∀ W, w.heap.size ≤ W.heap.size → RsV W G (.agg #[.slice p n c, .int .i64 y]) st → Calls Tryz.prog 97 #[.agg #[.slice p n c, .int .i64 y]] W fun e' w' => GetOut W w' G e' (.ok l) (.int .u8 (x : Int)))) :
    Calls Tryz.prog 135 #[.agg #[.slice p n c, .int .i64 y]] w fun e' w' => GetOut w w' G e' (.ok l) (.bool (x == 1)) := by
  have hb : ((x : Int) == 1) = (x == 1) := by rw [Bool.eq_iff_iff, beq_iff_eq, beq_iff_eq]; omega
  generalize (x == 1) = bb at *
  have hfr := Fr.new w (.slice p n c) (.int .i64 y) (.slice none 0 0) (.int .i64 0)
  have hg := HG.out _ hfr.below.size (hv.later hfr.below)
  clear hv
  go_enter Tryz.func135, Tryz.ntmps135
  go_wp2_with fail
  refine hg.mono ?_
  clear hg
  rintro e' w1 ⟨⟨v', rfl, hv1⟩, hb1⟩
  have HV := Lib.hid (hv1.back (below_alloc2 w _ _) hG)
  obtain ⟨⟨sl, rfl, hrl⟩, hl4⟩ := hv1
  obtain ⟨q, cq, rfl, _⟩ := hrl
  have hfr1 := (hfr.later hb1).put (.slice q l.length cq) (.int .i64 0)
  obtain ⟨c0, c1, d0, d1, ga0, ga1, g0, g1⟩ := (hfr.later hb1).cells
  obtain ⟨a0, a1, r0, r1, fa0, fa1, f0, f1⟩ := hfr1.cells
  have HF := Lib.hid hfr1
  clear hfr hfr1 hb1
  go_wp2
  exact bodyPost_ret (v := .tuple #[.agg #[.slice q l.length cq, .int .i64 0], .bool bb]) (by simp [results, Tryz.results135, go_sem, r0, r1]) rfl ⟨⟨_, rfl, HV.out⟩, HF.out.out _ _⟩

def RS.Pos : RS → Prop
  | .ok _ => True
  | .err e => 0 < e
theorem RsV.pos {w : World} {G : Nat → Prop} {v : Value} {st : RS} (h : RsV w G v st) : st.Pos := by
  cases st with
  | ok l => trivial
  | err e => exact h.2
theorem rdByte_pos (st : RS) (h : st.Pos) : ∀ e, (rdByte st).1 = .err e → 0 < e := by
  intro e he
  match st with
  | .ok [] => injection he with he; subst he; decide
  | .ok (c :: l) => cases he
  | .err e => injection he with he; subst he; exact h
theorem rdNum_pos (st : RS) (h : st.Pos) : ∀ e, (rdNum st).1 = .err e → 0 < e := by
  intro e he
  match st with
  | .ok [] => injection he with he; subst he; decide
  | .err e => injection he with he; subst he; exact h
  | .ok (c :: l) =>
    rw [rdNum_cons] at he
    split at he
    · injection he with he; subst he; decide
    split at he
    · injection he with he; subst he; decide
    split at he
    · injection he with he; subst he; decide
    · cases he

theorem GetTruth_any (v : Value) (st : RS) (G : Nat → Prop) (w : World) (hG : ∀ k, G k → k < w.heap.size) (h : RsV w G v st) :
    Calls Tryz.prog 135 #[v] w fun e w' => GetOut w w' G e (truth (rdByte st)).1 (.bool (truth (rdByte st)).2) := by
  obtain ⟨p, n, c, rfl⟩ := h.shape
  have hg : ∀ W, w.heap.size ≤ W.heap.size → RsV W G (.agg #[.slice p n c, .int .i64 (st.code : Int)]) st → Calls Tryz.prog 97 #[.agg #[.slice p n c, .int .i64 (st.code : Int)]] W fun e w' => GetOut W w' G e (rdByte st).1 (.int .u8 ((rdByte st).2 : Int)) := fun W hW hv => GetByte_any _ st G W hv
  have hz := rdByte_zero st
  have hpos := rdByte_pos st h.pos
  rcases hq : rdByte st with ⟨s1, x⟩
  rw [hq] at hz hg hpos
  match s1 with
  | .err e =>
    obtain rfl : x = 0 := hz e rfl
    exact GetTruth_err p n c _ st G w h e (hpos e rfl) (Lib.hid hg)
  | .ok l =>
    simp only [truth]
    by_cases hx : 1 < x
    · rw [if_pos hx]; exact GetTruth_over p n c _ st G w h l x hx (Lib.hid hg)
    · rw [if_neg hx]; exact GetTruth_fine p n c _ st G w hG h l x hx (Lib.hid hg)

end Go.Proofs.YtbdimfcdpkldpaaGreatDoor.Wire
