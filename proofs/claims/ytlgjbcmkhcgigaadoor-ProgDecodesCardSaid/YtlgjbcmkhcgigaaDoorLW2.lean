/- The contract of the reader's Num. The contracts of package wire's Read and of the reader's Upto, Truth, Bytes, Left, Err and Done. The contract of the statements' own awake, and bytes as a text. WireNil: a writer or a reader that is nil does nothing. -/
import Derived.Test.YtlgjbcmkhcgigaaDoorLW1
import Derived.Laws.BitsAllLaws
import Derived.Laws.BitsLemmas
import Derived.Laws.BytesArg
namespace Go.Proofs.YtlgjbcmkhcgigaaDoor.Wire
open Go.RowKit

theorem val_take (l : List UInt8) (k : Nat) (h : k < l.length) : val (l.take k) * 256 + (l.getD k 0).toNat = val (l.take (k + 1)) := by
  rw [take_snoc_ l 0 k h, val_snoc]
theorem val_small (l : List UInt8) (k : Nat) (h : k ≤ 7) : val (l.take k) < 72057594037927936 := by
  have h1 := val_lt (l.take k)
  have h2 : 256 ^ (l.take k).length ≤ 256 ^ 7 := Nat.pow_le_pow_right (by decide) (by rw [List.length_take]; omega)
  have h3 : (256 : Nat) ^ 7 = 72057594037927936 := by decide
  omega

theorem shl_or (x b : Nat) (hx : x < 72057594037927936) (hb : b < 256) : bits .or .u64 (IntKind.u64.wrap ((x : Int) * 256)) (b : Int) = ((x * 256 + b : Nat) : Int) := by
  rw [IntWalk.u64_in _ (by omega), show (x : Int) * 256 = ((x * 256 : Nat) : Int) by omega, u64_or_nat _ _ (by omega) (by omega)]
  congr 1
  have h := Nat.two_pow_add_eq_or_of_lt (i := 8) (show b < 2 ^ 8 from hb) x
  rw [show 2 ^ 8 * x = x * 256 by omega] at h
  exact h.symm

set_option maxHeartbeats 800000 in
theorem RNum_ok (r : Nat) (c : UInt8) (l : List UInt8) (hc8 : ¬ 8 < c.toNat) (hcl : ¬ l.length < c.toNat) (hz : ¬ (0 < c.toNat ∧ l.getD 0 0 = 0)) (w : World) (h : RdAt w r (.ok (c :: l))) :
    Calls Tryd.prog 91 #[.pointer (some ⟨r, 0, none⟩)] w fun e w' => e = .returned (.int .u64 (val (l.take c.toNat) : Int)) ∧ RdOut w w' r (.ok (l.drop c.toNat)) := by
  have hb := RByte_any r _ w h
  simp only [rdByte] at hb
  have hl4 : l.length ≤ 4000 := by have := h.2; simp at this; omega
  generalize hn : c.toNat = n at *
  have hd8 : decide ((8 : Int) < (n : Int)) = false := by simp; omega
  clear h
  go_enter Tryd.func91, Tryd.ntmps91
  go_wp2_with fail
  refine hb.mono ?_
  clear hb
  rintro e w1 ⟨rfl, ho1⟩
  have ht := take_ok r n l (by omega) w1 ho1.1
  have HO := Lib.hid ho1
  clear ho1
  go_wp2_with fail
  refine ht.mono ?_
  clear ht
  rintro e w2 ⟨⟨s, rfl, hr⟩, ho2⟩
  have HO2 := Lib.hid (HO.out.trans ho2)
  clear ho2
  obtain ⟨p, cc, rfl, hcc, hcm, _, _, hcell⟩ := hr
  unfold maxLen at hcm
  by_cases h0 : n = 0
  · subst h0
    clear hcell hz
    go_wp2
    refine wp_loop_rounds 1 ?_
    rw [rounds_succ]
    go_wp2
    go_ret
    exact ⟨rfl, HO2.out⟩
  · obtain ⟨b, off, rfl, _, _, hcell⟩ := hcell.resolve_left h0
    have hcs : ∀ k, k < n → w2.cell? ⟨b, off + k, none⟩ = some (.int .u8 ((l.getD k 0).toNat : Int)) := fun k hk => hcell k _ (by
      rw [List.getElem?_map, List.getElem?_take_of_lt hk, List.getD_eq_getElem?_getD, List.getElem?_eq_getElem (by omega)]; rfl)
    have HC := Lib.hid hcs
    have hn0 : 0 < n := Nat.pos_of_ne_zero h0
    have hc0 := hcs 0 hn0
    have hz0 : ¬ l.getD 0 0 = 0 := fun e => hz ⟨hn0, e⟩
    have hz1 : 0 < (l.getD 0 0).toNat := by
      rcases Nat.eq_zero_or_pos (l.getD 0 0).toNat with e | e
      · exact absurd (UInt8.toNat_inj.1 (by simpa using e)) hz0
      · exact e
    generalize (l.getD 0 0).toNat = f at hc0 hz1
    rw [Nat.add_zero] at hc0
    have hft : ((f : Int) == 0) = false := by rw [beq_eq_false_iff_ne]; omega
    clear hcs hcell hz hz0
    go_wp2
    go_loop [6, 8, 40] (fun x _ t => ∃ k : Nat, k ≤ n ∧ t = .int .i64 k ∧ x = .int .u64 (val (l.take k) : Int)) (fun _ _ t => n - (intOf t).toNat)
    case atStart => exact ⟨0, by omega, rfl, rfl⟩
    case round =>
      obtain ⟨k, hk, rfl, rfl⟩ := hrel
      by_cases hkn : k < n
      · have hck := HC.out k hkn
        have hvs := val_small l k (by omega)
        have hbs := (l.getD k 0).toNat_lt
        have hvt := val_take l k (by omega)
        generalize (l.getD k 0).toNat = b1 at hck hbs hvt
        generalize val (l.take k) = x1 at hvs hvt ⊢
        have HV := Lib.hid hvs
        have HT := Lib.hid hvt
        clear hvs hvt
        go_wp2
        go_round
        case rel => exact ⟨k + 1, by omega, by go_num, by rw [shl_or _ _ HV.out hbs, HT.out]⟩
        case measure => simp [intOf]; omega
      · obtain rfl : k = n := by omega
        go_wp2
        go_ret
        exact ⟨rfl, HO2.out⟩

set_option maxHeartbeats 800000 in
theorem RNum_err (r e : Nat) (w : World) (h : RdAt w r (.err e)) :
    Calls Tryd.prog 91 #[.pointer (some ⟨r, 0, none⟩)] w fun e' w' => e' = .returned (.int .u64 0) ∧ RdOut w w' r (.err e) := by
  have hb := RByte_any r _ w h
  simp only [rdByte] at hb
  clear h
  go_enter Tryd.func91, Tryd.ntmps91
  go_wp2_with fail
  refine hb.mono ?_
  clear hb
  rintro e' w1 ⟨rfl, ho1⟩
  have ht := take_err r e 0 w1 ho1.1
  have HO := Lib.hid ho1
  clear ho1
  go_wp2_with fail
  refine ht.mono ?_
  clear ht
  rintro e' w2 ⟨rfl, rfl⟩
  go_wp2
  go_ret
  exact ⟨rfl, HO.out⟩

set_option maxHeartbeats 800000 in
theorem RNum_nil (r : Nat) (w : World) (h : RdAt w r (.ok [])) :
    Calls Tryd.prog 91 #[.pointer (some ⟨r, 0, none⟩)] w fun e' w' => e' = .returned (.int .u64 0) ∧ RdOut w w' r (.err 2) := by
  have hb := RByte_any r _ w h
  simp only [rdByte] at hb
  clear h
  go_enter Tryd.func91, Tryd.ntmps91
  go_wp2_with fail
  refine hb.mono ?_
  clear hb
  rintro e' w1 ⟨rfl, ho1⟩
  have ht := take_err r 2 0 w1 ho1.1
  have HO := Lib.hid ho1
  clear ho1
  go_wp2_with fail
  refine ht.mono ?_
  clear ht
  rintro e' w2 ⟨rfl, rfl⟩
  go_wp2
  go_ret
  exact ⟨rfl, HO.out⟩

set_option maxHeartbeats 800000 in
theorem RNum_great (r : Nat) (c : UInt8) (l : List UInt8) (hc8 : 8 < c.toNat) (w : World) (h : RdAt w r (.ok (c :: l))) :
    Calls Tryd.prog 91 #[.pointer (some ⟨r, 0, none⟩)] w fun e w' => e = .returned (.int .u64 0) ∧ RdOut w w' r (.err 3) := by
  have hb := RByte_any r _ w h
  simp only [rdByte] at hb
  generalize hn : c.toNat = n at *
  have hd8 : decide ((8 : Int) < (n : Int)) = true := by simp; omega
  clear h hn hc8
  go_enter Tryd.func91, Tryd.ntmps91
  go_wp2_with fail
  refine hb.mono ?_
  clear hb
  rintro e w1 ⟨rfl, ho1⟩
  have hf := fail_first r 3 w1 ho1.1.code ho1.1.frozen
  have hfin := Lib.hid (ho1.trans (ho1.1.failed (e := 3) (by decide)))
  clear ho1
  go_wp2_with fail
  refine hf.mono ?_
  clear hf
  rintro e w2 ⟨rfl, rfl⟩
  go_wp2
  go_ret
  exact ⟨rfl, hfin.out⟩

set_option maxHeartbeats 800000 in
theorem RNum_short (r : Nat) (c : UInt8) (l : List UInt8) (hc8 : ¬ 8 < c.toNat) (hcl : l.length < c.toNat) (w : World) (h : RdAt w r (.ok (c :: l))) :
    Calls Tryd.prog 91 #[.pointer (some ⟨r, 0, none⟩)] w fun e w' => e = .returned (.int .u64 0) ∧ RdOut w w' r (.err 2) := by
  have hb := RByte_any r _ w h
  simp only [rdByte] at hb
  generalize hn : c.toNat = n at *
  have hd8 : decide ((8 : Int) < (n : Int)) = false := by simp; omega
  clear h hn
  go_enter Tryd.func91, Tryd.ntmps91
  go_wp2_with fail
  refine hb.mono ?_
  clear hb
  rintro e w1 ⟨rfl, ho1⟩
  have ht := take_short r n l hcl w1 ho1.1
  have HO := Lib.hid ho1
  clear ho1
  go_wp2_with fail
  refine ht.mono ?_
  clear ht
  rintro e w2 ⟨rfl, ho2⟩
  have HO2 := Lib.hid (HO.out.trans ho2)
  clear ho2
  go_wp2
  go_ret
  exact ⟨rfl, HO2.out⟩

set_option maxHeartbeats 800000 in
theorem RNum_zero (r : Nat) (c : UInt8) (l : List UInt8) (hc8 : ¬ 8 < c.toNat) (hcl : ¬ l.length < c.toNat) (hn0 : 0 < c.toNat) (hz : l.getD 0 0 = 0) (w : World) (h : RdAt w r (.ok (c :: l))) :
    Calls Tryd.prog 91 #[.pointer (some ⟨r, 0, none⟩)] w fun e w' => e = .returned (.int .u64 0) ∧ RdOut w w' r (.err 3) := by
  have hb := RByte_any r _ w h
  simp only [rdByte] at hb
  have hl4 : l.length ≤ 4000 := by have := h.2; simp at this; omega
  generalize hn : c.toNat = n at *
  have hd8 : decide ((8 : Int) < (n : Int)) = false := by simp; omega
  clear h hn
  go_enter Tryd.func91, Tryd.ntmps91
  go_wp2_with fail
  refine hb.mono ?_
  clear hb
  rintro e w1 ⟨rfl, ho1⟩
  have ht := take_ok r n l (by omega) w1 ho1.1
  have HO := Lib.hid ho1
  clear ho1
  go_wp2_with fail
  refine ht.mono ?_
  clear ht
  rintro e w2 ⟨⟨s, rfl, hr⟩, ho2⟩
  have hf := fail_first r 3 w2 ho2.1.code ho2.1.frozen
  have hfin := Lib.hid ((HO.out.trans ho2).trans (ho2.1.failed (e := 3) (by decide)))
  clear ho2
  obtain ⟨p, cc, rfl, hcc, hcm, _, _, hcell⟩ := hr
  unfold maxLen at hcm
  obtain ⟨b, off, rfl, _, _, hcell⟩ := hcell.resolve_left (Nat.ne_of_gt hn0)
  have hc0 : w2.cell? ⟨b, off, none⟩ = some (.int .u8 0) := hcell 0 _ (by
    rw [List.getElem?_map, List.getElem?_take_of_lt hn0]
    have h1 : l[0]? = some 0 := by rw [List.getElem?_eq_getElem (by omega), ← hz, List.getD_eq_getElem?_getD, List.getElem?_eq_getElem (by omega)]; rfl
    rw [h1]; rfl)
  clear hcell hz
  go_wp2_with fail
  refine hf.mono ?_
  clear hf
  rintro e w3 ⟨rfl, rfl⟩
  go_wp2
  go_ret
  exact ⟨rfl, hfin.out⟩

theorem rdNum_cons (c : UInt8) (l : List UInt8) : rdNum (.ok (c :: l)) = if 8 < c.toNat then (.err 3, 0) else if l.length < c.toNat then (.err 2, 0) else if 0 < c.toNat ∧ l.getD 0 0 = 0 then (.err 3, 0) else (.ok (l.drop c.toNat), val (l.take c.toNat)) := rfl

theorem RdNum_any (r : Nat) (st : RS) (w : World) (h : RdAt w r st) :
    Calls Tryd.prog 91 #[.pointer (some ⟨r, 0, none⟩)] w fun e w' => e = .returned (.int .u64 ((rdNum st).2 : Int)) ∧ RdOut w w' r (rdNum st).1 := by
  match st with
  | .ok [] => exact RNum_nil r w h
  | .err e => exact RNum_err r e w h
  | .ok (c :: l) =>
    rw [rdNum_cons]
    by_cases h1 : 8 < c.toNat
    · rw [if_pos h1]; exact RNum_great r c l h1 w h
    · rw [if_neg h1]
      by_cases h2 : l.length < c.toNat
      · rw [if_pos h2]; exact RNum_short r c l h1 h2 w h
      · rw [if_neg h2]
        by_cases h3 : 0 < c.toNat ∧ l.getD 0 0 = 0
        · rw [if_pos h3]; exact RNum_zero r c l h1 h2 h3.1 h3.2 w h
        · rw [if_neg h3]; exact RNum_ok r c l h1 h2 h3 w h
theorem rdNum_lt (st : RS) : (rdNum st).2 < 18446744073709551616 := by
  match st with
  | .ok [] => exact (by decide : 0 < 18446744073709551616)
  | .err e => exact (by decide : 0 < 18446744073709551616)
  | .ok (c :: l) =>
    rw [rdNum_cons]
    split
    · exact (by decide : 0 < 18446744073709551616)
    · split
      · exact (by decide : 0 < 18446744073709551616)
      · split
        · exact (by decide : 0 < 18446744073709551616)
        · have h1 := val_lt (l.take c.toNat)
          have h2 : 256 ^ (l.take c.toNat).length ≤ 256 ^ 8 := Nat.pow_le_pow_right (by decide) (by rw [List.length_take]; omega)
          have h3 : (256 : Nat) ^ 8 = 18446744073709551616 := by decide
          show val (l.take c.toNat) < _
          omega
end Go.Proofs.YtlgjbcmkhcgigaaDoor.Wire

namespace Go.Proofs.YtlgjbcmkhcgigaaDoor.Wire
open Go.RowKit

theorem RdAt.pos {w : World} {r e : Nat} (h : RdAt w r (.err e)) : 0 < e := h.2
theorem RdAt.lt {w : World} {r : Nat} {st : RS} (h : RdAt w r st) : r < w.heap.size := World.block_lt_of_cell? w ⟨r, 0, none⟩ h.code
theorem RdAt.under {w w' : World} {r B : Nat} {st : RS} (h : RdAt w r st) (hb : Below B w w') (hB : r < B) : RdAt w' r st := by
  cases st with
  | ok l => obtain ⟨⟨v, hk, hr⟩, hl⟩ := h; exact ⟨⟨v, hk.below hb hB, hr.below hb (fun k _ (hk : k < r) => by omega)⟩, hl⟩
  | err e => obtain ⟨⟨v, hk⟩, hl⟩ := h; exact ⟨⟨v, hk.below hb hB⟩, hl⟩
theorem RdOut.below {w w1 w2 : World} {r : Nat} {s : RS} (h : RdOut w w1 r s) (hb : Below w1.heap.size w1 w2) : RdOut w w2 r s := ⟨h.1.below hb (Nat.le_refl _), h.2.trans (Foot.of_below _ hb)⟩
theorem rdNum_zero (st : RS) (e : Nat) (h : (rdNum st).1 = .err e) : (rdNum st).2 = 0 := by
  match st with
  | .ok [] => rfl
  | .err e => rfl
  | .ok (c :: l) =>
    rw [rdNum_cons] at h ⊢
    split at h <;> rename_i h1
    · rw [if_pos h1]
    · rw [if_neg h1]
      split at h <;> rename_i h2
      · rw [if_pos h2]
      · rw [if_neg h2]
        split at h <;> rename_i h3
        · rw [if_pos h3]
        · cases h
theorem rdByte_zero (st : RS) (e : Nat) (h : (rdByte st).1 = .err e) : (rdByte st).2 = 0 := by
  match st with
  | .ok [] => rfl
  | .err e => rfl
  | .ok (c :: l) => cases h

set_option maxHeartbeats 400000 in
theorem Read_any (w : World) (x : Value) (l : List UInt8) (hl : l.length ≤ 4000) (G : Nat → Prop) (hr : RV w G x l.length 1 (l.map bV)) :
    Calls Tryd.prog 51 #[x] w fun e w' => (∃ r, e = .returned (.pointer (some ⟨r, 0, none⟩)) ∧ w.heap.size ≤ r ∧ RdAt w' r (.ok l)) ∧ Below w.heap.size w w' := by
  have hc := Clone_any w x l (by omega) G hr
  obtain ⟨p, c, rfl, _⟩ := hr
  go_enter Tryd.func51, Tryd.ntmps51
  go_wp2_with fail
  refine hc.mono ?_
  clear hc
  rintro e w1 ⟨v, rfl, hown, hb⟩
  have hr := RV.of_own hown
  have hlt := hown.lt
  obtain ⟨p', c', rfl, _⟩ := RV.of_own hown
  have hfin : RdAt (w1.alloc (.cells #[.int .i64 0, .slice p' l.length c'] 124)) w1.heap.size (.ok l) := by
    refine ⟨⟨_, Blk.new _ _ _, ?_⟩, hl⟩
    exact (hr.keep (w' := w1.alloc _) (by simp) (fun k hk _ => Below.heap_alloc _ _ _ hk)).mono fun k _ hk => (hlt k hk).2
  have HF := Lib.hid hfin
  have hsz := hb.size
  clear hfin hr hlt hown
  go_wp2
  go_ret
  exact ⟨⟨_, rfl, hsz, HF.out⟩, hb.alloc hsz _⟩

set_option maxHeartbeats 400000 in
theorem RTruth_any' (r : Nat) (st : RS) (w : World) (h : RdAt w r st) :
    Calls Tryd.prog 124 #[.pointer (some ⟨r, 0, none⟩)] w fun e w' => e = .returned (.bool (truth (rdByte st)).2) ∧ RdOut w w' r (truth (rdByte st)).1 := by
  have hn := RByte_any r st w h
  have hz := rdByte_zero st
  have hlt := rdByte_snd st
  clear h
  generalize rdByte st = q at *
  obtain ⟨s1, x⟩ := q
  simp only at hn hz hlt
  match s1 with
  | .err e =>
    obtain rfl := hz e rfl
    simp only [truth]
    clear hz
    go_enter Tryd.func124, Tryd.ntmps124
    go_wp2_with fail
    refine hn.mono ?_
    clear hn
    rintro e w1 ⟨rfl, ho1⟩
    go_wp2
    go_ret
    exact ⟨rfl, ho1⟩
  | .ok l =>
    clear hz
    simp only [truth]
    by_cases hx : 1 < x
    · rw [if_pos hx]
      go_enter Tryd.func124, Tryd.ntmps124
      go_wp2_with fail
      refine hn.mono ?_
      clear hn
      rintro e w1 ⟨rfl, ho1⟩
      have hf := fail_first r 3 w1 ho1.1.code ho1.1.frozen
      have hfin := Lib.hid (ho1.trans (ho1.1.failed (e := 3) (by decide)))
      clear ho1
      go_wp2_with fail
      refine hf.mono ?_
      clear hf
      rintro e w2 ⟨rfl, rfl⟩
      go_wp2
      go_ret
      exact ⟨rfl, hfin.out⟩
    · rw [if_neg hx]
      have hb : ((x : Int) == 1) = (x == 1) := by rw [Bool.eq_iff_iff, beq_iff_eq, beq_iff_eq]; omega
      generalize (x == 1) = bb at *
      go_enter Tryd.func124, Tryd.ntmps124
      go_wp2_with fail
      refine hn.mono ?_
      clear hn
      rintro e w1 ⟨rfl, ho1⟩
      go_wp2
      go_ret
      exact ⟨rfl, ho1⟩

set_option maxHeartbeats 400000 in
theorem Err_any (r : Nat) (st : RS) (w : World) (h : RdAt w r st) :
    Calls Tryd.prog 92 #[.pointer (some ⟨r, 0, none⟩)] w fun e w' => e = .returned (.int .i64 (st.code : Int)) ∧ w = w' := by
  have h1 := h.code
  clear h
  go_enter Tryd.func92, Tryd.ntmps92
  go_wp2
  go_ret
  exact ⟨rfl, rfl⟩

set_option maxHeartbeats 400000 in
theorem Left_any (r : Nat) (st : RS) (w : World) (h : RdAt w r st) :
    Calls Tryd.prog 54 #[.pointer (some ⟨r, 0, none⟩)] w fun e w' => e = .returned (.int .i64 (st.left.length : Int)) ∧ w = w' := by
  match st with
  | .ok l =>
    have hf := failed_no r w h.code
    obtain ⟨⟨v, hb, hr⟩, _⟩ := h
    obtain ⟨p, c, rfl, _⟩ := hr
    have h1 : w.cell? ⟨r, 1, none⟩ = some (.slice p l.length c) := hb.cell 1
    simp only [RS.left]
    clear hb
    go_enter Tryd.func54, Tryd.ntmps54
    go_wp2_with (go_at_call 87; refine hf.mono ?_; clear hf; rintro e w' ⟨rfl, rfl⟩)
    go_ret
    exact ⟨rfl, rfl⟩
  | .err e =>
    have hf := failed_yes r e h.2 w h.code
    simp only [RS.left]
    clear h
    go_enter Tryd.func54, Tryd.ntmps54
    go_wp2_with (go_at_call 87; refine hf.mono ?_; clear hf; rintro e w' ⟨rfl, rfl⟩)
    go_ret
    exact ⟨rfl, rfl⟩

/-- What Done tells. -/
def rdDone : RS → Nat
  | .ok [] => 0
  | .ok (_ :: _) => 3
  | .err e => e
set_option maxHeartbeats 400000 in
theorem RDone_any (r : Nat) (st : RS) (w : World) (h : RdAt w r st) :
    Calls Tryd.prog 55 #[.pointer (some ⟨r, 0, none⟩)] w fun e w' => e = .returned (.int .i64 (rdDone st : Int)) ∧ w = w' := by
  have he := Err_any r st w h
  have hl := Left_any r st w h
  match st with
  | .ok [] =>
    simp only [RS.left, RS.code, List.length_nil] at he hl
    simp only [rdDone]
    clear h
    go_enter Tryd.func55, Tryd.ntmps55
    go_wp2_with (first | (go_at_call 92; refine he.mono ?_; rintro e w' ⟨rfl, rfl⟩) | (go_at_call 54; refine hl.mono ?_; rintro e w' ⟨rfl, rfl⟩))
    go_ret
    exact ⟨rfl, rfl⟩
  | .ok (c :: l) =>
    simp only [RS.left, RS.code, List.length_cons] at he hl
    simp only [rdDone]
    clear h
    go_enter Tryd.func55, Tryd.ntmps55
    go_wp2_with (first | (go_at_call 92; refine he.mono ?_; rintro e w' ⟨rfl, rfl⟩) | (go_at_call 54; refine hl.mono ?_; rintro e w' ⟨rfl, rfl⟩))
    go_ret
    exact ⟨rfl, rfl⟩
  | .err e =>
    have hp := h.2
    have ht : ((e : Int) == 0) = false := by rw [beq_eq_false_iff_ne]; omega
    simp only [RS.left, RS.code] at he hl
    simp only [rdDone]
    clear h
    go_enter Tryd.func55, Tryd.ntmps55
    go_wp2_with (first | (go_at_call 92; refine he.mono ?_; rintro e w' ⟨rfl, rfl⟩) | (go_at_call 54; refine hl.mono ?_; rintro e w' ⟨rfl, rfl⟩))
    go_ret
    exact ⟨rfl, rfl⟩
end Go.Proofs.YtlgjbcmkhcgigaaDoor.Wire

namespace Go.Proofs.YtlgjbcmkhcgigaaDoor.Wire
open Go.RowKit

theorem map_self (l : List UInt8) : List.map ((fun n : Int => UInt8.ofNat n.toNat) ∘ fun c : UInt8 => (c.toNat : Int)) l = l := by
  induction l with
  | nil => rfl
  | cons c l ih => rw [List.map_cons, ih]; simp
/-- Bytes that read, turned into a text. -/
theorem text_rv {P : Program} {w : World} {G : Nat → Prop} {v : Value} {l : List UInt8} (src e dst : TypeId) (hs : P.underlying src = some (.slice e)) (he : P.underlying e = some (.int .u8)) (hd : P.underlying dst = some .string)
    (h : RV w G v l.length 1 (l.map bV)) : (convert src dst v).run P w = .ok (.string ⟨l.toArray⟩) w := by
  obtain ⟨p, c, rfl, hn, hm, hp, hl, hc⟩ := h
  cases p with
  | none =>
    have hcz := hp rfl
    have : l = [] := List.length_eq_zero_iff.1 (by omega)
    subst this
    exact run_convert_bytes_nil w src e hs he _ _ dst hd
  | some ad =>
    have hload : (loadCells ad l.length).run P w = .ok (((l.map fun c => (c.toNat : Int)).map (Value.int .u8)).toArray) w := by
      have hx := run_loadCells_list (P := P) w ad (l.map bV) (fun j u hu => by
        rcases hc with h0 | ⟨b, off, hb, _, _, hc⟩
        · have : l = [] := List.length_eq_zero_iff.1 h0
          subst this
          simp at hu
        · cases hb
          have hadd : (⟨b, off, none⟩ : Addr).add j = ⟨b, off + j, none⟩ := by unfold Addr.add; split <;> simp_all
          rw [hadd]; exact hc j u hu)
      rw [List.length_map] at hx
      rw [List.map_map]
      exact hx
    rw [run_convert_bytes_string w src dst e _ _ c hs he hd, run_bytesToString w _ _ c _ hload, foldl_push_bytes]
    congr 3
    simp only [ByteArray.empty, ByteArray.emptyWithCapacity, List.map_map]
    rw [map_self]
    simp
    rfl

end Go.Proofs.YtlgjbcmkhcgigaaDoor.Wire

namespace Go.Proofs.YtlgjbcmkhcgigaaDoor.Wire
open Go.RowKit

set_option maxHeartbeats 400000 in
theorem take_nil (n : Nat) (w : World) :
    Calls Tryd.prog 90 #[.pointer none, .int .u64 n] w fun e w' => e = .returned (.tuple #[.slice none 0 0, .bool false]) ∧ w = w' := by
  go_enter Tryd.func90, Tryd.ntmps90
  go_wp2
  go_ret2
  exact ⟨rfl, rfl⟩
set_option maxHeartbeats 400000 in
theorem RByte_nil (w : World) :
    Calls Tryd.prog 52 #[.pointer none] w fun e w' => e = .returned (.int .u8 0) ∧ w = w' := by
  go_enter Tryd.func52, Tryd.ntmps52
  go_wp2_with (first | (go_at_call 90; refine (take_nil 1 _).mono ?_; rintro e w1 ⟨rfl, rfl⟩))
  go_ret
  exact ⟨rfl, rfl⟩
set_option maxHeartbeats 400000 in
theorem Err_nil (w : World) :
    Calls Tryd.prog 92 #[.pointer none] w fun e w' => e = .returned (.int .i64 14) ∧ w = w' := by
  go_enter Tryd.func92, Tryd.ntmps92
  go_wp2
  go_ret
  exact ⟨rfl, rfl⟩
end Go.Proofs.YtlgjbcmkhcgigaaDoor.Wire
