/- The walk of WireOnce. -/
import Derived.Test.YtpdlfelmdnkjdaaL1
namespace Go.Proofs.Ytpdlfelmdnkjdaa
open Go.RowKit

theorem drop_cons {l : List UInt8} {i : Nat} {c : UInt8} {r : List UInt8} (h : l.drop i = c :: r) : i < l.length ∧ r = l.drop (i + 1) ∧ l.take (i + 1) = l.take i ++ [c] := by
  have hi : i < l.length := by
    rcases Nat.lt_or_ge i l.length with h1 | h1
    · exact h1
    · rw [List.drop_eq_nil_of_le h1] at h; cases h
  have h2 := List.drop_eq_getElem_cons hi
  rw [h] at h2
  injection h2 with h3 h4
  exact ⟨hi, h4, by rw [List.take_succ_eq_append_getElem hi, h3]⟩
/-- A number that was read is written as it stood there. -/
theorem numB_read (c : UInt8) (l : List UInt8) (h8 : ¬ 8 < c.toNat) (hl : ¬ l.length < c.toNat) (hz : ¬ (0 < c.toNat ∧ l.getD 0 0 = 0)) : numB (val (l.take c.toNat)) = c :: l.take c.toNat ∧ val (l.take c.toNat) < 18446744073709551616 := by
  have hlen : (l.take c.toNat).length = c.toNat := by rw [List.length_take]; omega
  have hlt := val_lt (l.take c.toNat)
  rw [hlen] at hlt
  have h2 : 256 ^ c.toNat ≤ 256 ^ 8 := Nat.pow_le_pow_right (by decide) (by omega)
  have h3 : (256 : Nat) ^ 8 = 18446744073709551616 := by decide
  have hx : val (l.take c.toNat) < 18446744073709551616 := by omega
  have hnb : nb (val (l.take c.toNat)) = c.toNat := by
    refine nb_uniq _ _ hx hlt fun hp => ?_
    cases l with
    | nil => simp at hl; omega
    | cons d l =>
      obtain ⟨k, hk⟩ : ∃ k, c.toNat = k + 1 := ⟨c.toNat - 1, by omega⟩
      have hd : 0 < d.toNat := by
        rcases Nat.eq_zero_or_pos d.toNat with e | e
        · exact absurd ⟨hp, by simp; exact UInt8.toNat_inj.1 (by simpa using e)⟩ hz
        · exact e
      rw [hk, List.take_succ_cons, val_cons, Nat.add_sub_cancel]
      have hl2 : (l.take k).length = k := by
        rw [hk, List.take_succ_cons, List.length_cons] at hlen; omega
      rw [hl2]
      calc 256 ^ k = 1 * 256 ^ k := by omega
        _ ≤ d.toNat * 256 ^ k := Nat.mul_le_mul_right _ hd
        _ ≤ _ := Nat.le_add_right _ _
  refine ⟨?_, hx⟩
  rw [numB, hnb]
  have hb := be_val (l.take c.toNat)
  rw [hlen] at hb
  rw [hb]
  simp
/-- A round that reads a number. -/
theorem once_step (bl : List UInt8) (h2 : bl.length ≤ 200) (i : Nat) (rest : List UInt8) (x : Nat) (h : rdNum (.ok (bl.drop i)) = (.ok rest, x)) :
    ∃ j, i < j ∧ j ≤ bl.length ∧ rest = bl.drop j ∧ x < 18446744073709551616 ∧ wAdd 200 (some (bl.take i)) (numB x) = some (bl.take j) := by
  rcases hd : bl.drop i with _ | ⟨c, l⟩
  · rw [hd] at h; cases h
  · rw [hd, rdNum_cons] at h
    split at h <;> rename_i h8
    · cases h
    split at h <;> rename_i hl
    · cases h
    split at h <;> rename_i hz
    · cases h
    injection h with hr hx
    injection hr with hr
    subst hr hx
    obtain ⟨hi, hl1, ht⟩ := drop_cons hd
    obtain ⟨hn, hx⟩ := numB_read c l h8 hl hz
    have hll : l.length = bl.length - (i + 1) := by rw [hl1, List.length_drop]
    refine ⟨i + 1 + c.toNat, by omega, by omega, by rw [hl1, List.drop_drop], hx, ?_⟩
    have htake : bl.take (i + 1 + c.toNat) = bl.take i ++ numB (val (l.take c.toNat)) := by
      rw [List.take_add, ht, hn, List.append_assoc, hl1]; rfl
    simp only [wAdd, Option.bind_some]
    have hlen : (bl.take (i + 1 + c.toNat)).length = i + 1 + c.toNat := by rw [List.length_take]; omega
    rw [htake, List.length_append] at hlen
    rw [if_neg (by omega), htake]

set_option maxHeartbeats 3200000 in
theorem Once_short (bl : List UInt8) (p : Option Addr) (nn c : Nat) (w : World) (hb2 : bl.length ≤ 200) (hr0 : RV w (fun k => k < w.heap.size) (.slice p nn c) bl.length 1 (bl.map bV)) (hnn : nn = bl.length) :
    Calls Try.prog 6 #[.slice p nn c] w fun e w' => e = .returned (.bool true) ∧ Below w.heap.size w w' := by
  subst hnn
  have hrd := Read_any w _ bl (by omega) _ hr0
  have HARG := Lib.hid hr0
  clear hr0
  go_enter Try.func6, Try.ntmps6
  go_wp2_with fail
  refine hrd.mono ?_
  clear hrd
  rintro e w1 ⟨⟨r, rfl, hr1, hrd⟩, hb1⟩
  have hnew := New_any 200 w1
  rw [show (200 : Int).toNat = 200 from rfl] at hnew
  have HB1 := Lib.hid hb1
  have HR1 := Lib.hid hrd
  have HRS := Lib.hid hr1
  clear hb1 hrd hr1
  go_wp2_with fail
  refine hnew.mono ?_
  clear hnew
  rintro e w2 ⟨rfl, hw2, hb2'⟩
  have HB2 := Lib.hid (below_pre HB1.out hb2')
  have hrd2 := HR1.out.below hb2' (Nat.le_refl _)
  have HRL := Lib.hid HR1.out.lt
  have hlf := Left_any r _ w2 hrd2
  have hI : ∃ v, WrAt w2 w1.heap.size w1.heap.size 200 v (some (bl.take 0)) := ⟨_, hw2⟩
  have HI := Lib.hid (show RdAt w2 r (.ok (bl.drop 0)) ∧ (∃ v, WrAt w2 w1.heap.size w1.heap.size 200 v (some (bl.take 0))) ∧ Below w.heap.size w w2 from ⟨hrd2, hI, HB2.out⟩)
  simp only [RS.left] at hlf
  clear hrd2 hI hw2 hb2'
  go_wp2_with fail
  refine hlf.mono ?_
  clear hlf
  rintro e w3 ⟨rfl, rfl⟩
  go_wp2_with fail
  go_loopw [5] (fun left wr => ∃ i : Nat, i ≤ bl.length ∧ left = .int .i64 ((bl.length - i : Nat) : Int) ∧ Hid (RdAt wr r (.ok (bl.drop i)) ∧ (∃ v, WrAt wr w1.heap.size w1.heap.size 200 v (some (bl.take i))) ∧ Below w.heap.size w wr)) (fun left _ => (intOf left).toNat)
  case atStart => exact ⟨0, by omega, by simp, HI⟩
  case round =>
    obtain ⟨i, hi, rfl, HJ⟩ := hrel
    by_cases hlt : i < bl.length
    · obtain ⟨hr, ⟨v, hw⟩, hb⟩ := HJ.out
      have hsz : w1.heap.size ≤ wr.heap.size := by have := hw.2.2.1.lt; omega
      have hpos : 0 < bl.length - i := by omega
      have hnum := RdNum_any r _ wr hr
      rcases hq : rdNum (.ok (bl.drop i)) with ⟨s1, x⟩
      rw [hq] at hnum
      cases s1 with
      | err e =>
        obtain rfl : x = 0 := by have := rdNum_zero (.ok (bl.drop i)) e (by rw [hq]); rw [hq] at this; exact this
        have HW := Lib.hid hw
        have HB := Lib.hid hb
        have HS := Lib.hid hsz
        clear hq hr hw hb HJ HI
        go_wp2_with fail
        refine hnum.mono ?_
        clear hnum
        rintro e' w4 ⟨rfl, ho⟩
        have hbw := ho.2.below (B := r) (Nat.le_of_lt (by have := HS.out; have := HRL.out; omega)) (fun k hk => by omega)
        have hf4 : WrAt w4 w1.heap.size w1.heap.size 200 v (some (bl.take i)) := HW.out.foot ho.2 (fun e => by have := HRL.out; omega) (fun k hk e => by have := HW.out.2.1 k hk; have := HRL.out; omega)
        have hwn := WNum_any w4 0 (by decide) (fun l h => by cases h; rw [List.length_take]; omega) (by decide) hf4
        have HO := Lib.hid ho
        have HF4 := Lib.hid hf4
        have HB4 := Lib.hid (HB.out.trans (ho.2.below HB.out.size (fun k hk => by have := HRS.out; omega)))
        clear ho hbw hf4
        go_wp2_with fail
        refine hwn.mono ?_
        clear hwn
        rintro e' w5 ⟨rfl, v5, hw5, hf5, hv5⟩
        have hb45 : Below w1.heap.size w4 w5 := hf5.below (by have := HF4.out.2.2.1.lt; omega) (fun k hk => by
          rcases hk with rfl | hk
          · exact Nat.le_refl _
          · exact HF4.out.2.1 k hk)
        have hr5 := HO.out.1.under hb45 HRL.out
        have HB5 := Lib.hid (HB4.out.trans (hb45.mono HB1.out.size))
        have her := Err_any r _ w5 hr5
        have hle := Left_any r _ w5 hr5
        have hep := hr5.2
        simp only [RS.code, RS.left, List.length_nil] at her hle
        have hne : ((e : Int) != 0) = true := by rw [bne_iff_ne]; omega
        clear hw5 hf5 hv5 hb45 hr5 hep
        go_wp2_with (first
          | (go_at_call 15; refine her.mono ?_; clear her; rintro e' w6 ⟨rfl, rfl⟩)
          | (go_at_call 16; refine hle.mono ?_; clear hle; rintro e' w6 ⟨rfl, rfl⟩)
          | (go_at_call 12; refine (awake_any _).mono ?_; rintro e' w7 ⟨rfl, hb7⟩))
        go_ret
        exact ⟨rfl, below_pre HB5.out hb7⟩
      | ok rest =>
        obtain ⟨j, hij, hj, rfl, hx, hadd⟩ := once_step bl hb2 i rest x hq
        have HW := Lib.hid hw
        have HB := Lib.hid hb
        have HX := Lib.hid hx
        have HA := Lib.hid hadd
        have HS := Lib.hid hsz
        clear hq hr hw hb HJ HI hx hadd
        go_wp2_with fail
        refine hnum.mono ?_
        clear hnum
        rintro e' w4 ⟨rfl, ho⟩
        have hf4 : WrAt w4 w1.heap.size w1.heap.size 200 v (some (bl.take i)) := HW.out.foot ho.2 (fun e => by have := HRL.out; omega) (fun k hk e => by have := HW.out.2.1 k hk; have := HRL.out; omega)
        have hwn := WNum_any w4 x HX.out (fun l h => by cases h; rw [List.length_take]; omega) (by decide) hf4
        rw [HA.out] at hwn
        have HO := Lib.hid ho
        have HF4 := Lib.hid hf4
        have HB4 := Lib.hid (HB.out.trans (ho.2.below HB.out.size (fun k hk => by have := HRS.out; omega)))
        clear ho hf4
        go_wp2_with fail
        refine hwn.mono ?_
        clear hwn
        rintro e' w5 ⟨rfl, v5, hw5, hf5, hv5⟩
        have hb45 : Below w1.heap.size w4 w5 := hf5.below (by have := HF4.out.2.2.1.lt; omega) (fun k hk => by
          rcases hk with rfl | hk
          · exact Nat.le_refl _
          · exact HF4.out.2.1 k hk)
        have hr5 := HO.out.1.under hb45 HRL.out
        have HB5 := Lib.hid (HB4.out.trans (hb45.mono HB1.out.size))
        have her := Err_any r _ w5 hr5
        have hle := Left_any r _ w5 hr5
        simp only [RS.code, RS.left, List.length_drop] at her hle
        have hfin : Hid (RdAt w5 r (.ok (bl.drop j)) ∧ (∃ v, WrAt w5 w1.heap.size w1.heap.size 200 v (some (bl.take j))) ∧ Below w.heap.size w w5) := Lib.hid ⟨hr5, ⟨v5, hw5⟩, HB5.out⟩
        have hge : decide (bl.length - i ≤ bl.length - j) = false := by simp; omega
        clear hw5 hf5 hv5 hb45 hr5
        go_wp2_with (first
          | (go_at_call 15; refine her.mono ?_; clear her; rintro e' w6 ⟨rfl, rfl⟩)
          | (go_at_call 16; refine hle.mono ?_; rintro e' w6 ⟨rfl, rfl⟩))
        go_roundw
        case rel => exact ⟨j, hj, rfl, hfin⟩
        case measure => simp [intOf]; omega
    · obtain rfl : i = bl.length := by omega
      rw [Nat.sub_self]
      obtain ⟨hr, ⟨v, hw⟩, hb⟩ := HJ.out
      rw [List.take_length] at hw
      rw [List.drop_length] at hr
      have hd := WDone_some wr bl (by omega) hw
      have HR := Lib.hid hr
      have HB := Lib.hid hb
      clear hr hw hb HJ HI
      go_wp2_with fail
      refine hd.mono ?_
      clear hd
      rintro e' w4 ⟨x, rfl, hx, hb4⟩
      have hcx := text_rv 25 5 9 Try.underlying25 Try.underlying5 Try.underlying9 (RV.of_own hx)
      have HB4 := Lib.hid (below_pre HB.out hb4)
      have hca := text_rv 25 5 9 Try.underlying25 Try.underlying5 Try.underlying9 (HARG.out.below HB4.out (fun k _ hk => hk))
      skip
      have hdn := RDone_any r _ w4 (HR.out.below hb4 (Nat.le_refl _))
      obtain ⟨px, cx, rfl, _⟩ := RV.of_own hx
      generalize (ByteArray.mk bl.toArray) = txt at hcx hca
      clear hx hb4
      simp only [rdDone] at hdn
      go_wp2_with (first
          | (go_at_call 17; refine hdn.mono ?_; clear hdn; rintro e' w6 ⟨rfl, rfl⟩)
          | (go_at_call 12; refine (awake_any _).mono ?_; rintro e' w7 ⟨rfl, hb7⟩))
      go_ret
      exact ⟨rfl, below_pre HB4.out hb7⟩

set_option maxHeartbeats 3200000 in
theorem Once_long (bl : List UInt8) (p : Option Addr) (nn c : Nat) (w : World) (hb2 : bl.length ≤ 200) (hc : c ≤ maxLen) (hnc : nn ≤ c) (hnn : 200 < nn) (hb3 : bl.length = 200) (hr0 : RV w (fun k => k < w.heap.size) (.slice p 200 c) 200 1 (bl.map bV)) :
    Calls Try.prog 6 #[.slice p nn c] w fun e w' => e = .returned (.bool true) ∧ Below w.heap.size w w' := by
  unfold maxLen at hc
  have hr00 : RV w (fun k => k < w.heap.size) (.slice p 200 c) bl.length 1 (bl.map bV) := by rw [hb3]; exact hr0
  have hrd := Read_any w _ bl (by omega) _ hr00
  have HARG := Lib.hid hr00
  clear hr0 hr00 hb3
  go_enter Try.func6, Try.ntmps6
  go_wp2_with fail
  refine hrd.mono ?_
  clear hrd
  rintro e w1 ⟨⟨r, rfl, hr1, hrd⟩, hb1⟩
  have hnew := New_any 200 w1
  rw [show (200 : Int).toNat = 200 from rfl] at hnew
  have HB1 := Lib.hid hb1
  have HR1 := Lib.hid hrd
  have HRS := Lib.hid hr1
  clear hb1 hrd hr1
  go_wp2_with fail
  refine hnew.mono ?_
  clear hnew
  rintro e w2 ⟨rfl, hw2, hb2'⟩
  have HB2 := Lib.hid (below_pre HB1.out hb2')
  have hrd2 := HR1.out.below hb2' (Nat.le_refl _)
  have HRL := Lib.hid HR1.out.lt
  have hlf := Left_any r _ w2 hrd2
  have hI : ∃ v, WrAt w2 w1.heap.size w1.heap.size 200 v (some (bl.take 0)) := ⟨_, hw2⟩
  have HI := Lib.hid (show RdAt w2 r (.ok (bl.drop 0)) ∧ (∃ v, WrAt w2 w1.heap.size w1.heap.size 200 v (some (bl.take 0))) ∧ Below w.heap.size w w2 from ⟨hrd2, hI, HB2.out⟩)
  simp only [RS.left] at hlf
  clear hrd2 hI hw2 hb2'
  go_wp2_with fail
  refine hlf.mono ?_
  clear hlf
  rintro e w3 ⟨rfl, rfl⟩
  go_wp2_with fail
  go_loopw [5] (fun left wr => ∃ i : Nat, i ≤ bl.length ∧ left = .int .i64 ((bl.length - i : Nat) : Int) ∧ Hid (RdAt wr r (.ok (bl.drop i)) ∧ (∃ v, WrAt wr w1.heap.size w1.heap.size 200 v (some (bl.take i))) ∧ Below w.heap.size w wr)) (fun left _ => (intOf left).toNat)
  case atStart => exact ⟨0, by omega, by simp, HI⟩
  case round =>
    obtain ⟨i, hi, rfl, HJ⟩ := hrel
    by_cases hlt : i < bl.length
    · obtain ⟨hr, ⟨v, hw⟩, hb⟩ := HJ.out
      have hsz : w1.heap.size ≤ wr.heap.size := by have := hw.2.2.1.lt; omega
      have hpos : 0 < bl.length - i := by omega
      have hnum := RdNum_any r _ wr hr
      rcases hq : rdNum (.ok (bl.drop i)) with ⟨s1, x⟩
      rw [hq] at hnum
      cases s1 with
      | err e =>
        obtain rfl : x = 0 := by have := rdNum_zero (.ok (bl.drop i)) e (by rw [hq]); rw [hq] at this; exact this
        have HW := Lib.hid hw
        have HB := Lib.hid hb
        have HS := Lib.hid hsz
        clear hq hr hw hb HJ HI
        go_wp2_with fail
        refine hnum.mono ?_
        clear hnum
        rintro e' w4 ⟨rfl, ho⟩
        have hbw := ho.2.below (B := r) (Nat.le_of_lt (by have := HS.out; have := HRL.out; omega)) (fun k hk => by omega)
        have hf4 : WrAt w4 w1.heap.size w1.heap.size 200 v (some (bl.take i)) := HW.out.foot ho.2 (fun e => by have := HRL.out; omega) (fun k hk e => by have := HW.out.2.1 k hk; have := HRL.out; omega)
        have hwn := WNum_any w4 0 (by decide) (fun l h => by cases h; rw [List.length_take]; omega) (by decide) hf4
        have HO := Lib.hid ho
        have HF4 := Lib.hid hf4
        have HB4 := Lib.hid (HB.out.trans (ho.2.below HB.out.size (fun k hk => by have := HRS.out; omega)))
        clear ho hbw hf4
        go_wp2_with fail
        refine hwn.mono ?_
        clear hwn
        rintro e' w5 ⟨rfl, v5, hw5, hf5, hv5⟩
        have hb45 : Below w1.heap.size w4 w5 := hf5.below (by have := HF4.out.2.2.1.lt; omega) (fun k hk => by
          rcases hk with rfl | hk
          · exact Nat.le_refl _
          · exact HF4.out.2.1 k hk)
        have hr5 := HO.out.1.under hb45 HRL.out
        have HB5 := Lib.hid (HB4.out.trans (hb45.mono HB1.out.size))
        have her := Err_any r _ w5 hr5
        have hle := Left_any r _ w5 hr5
        have hep := hr5.2
        simp only [RS.code, RS.left, List.length_nil] at her hle
        have hne : ((e : Int) != 0) = true := by rw [bne_iff_ne]; omega
        clear hw5 hf5 hv5 hb45 hr5 hep
        go_wp2_with (first
          | (go_at_call 15; refine her.mono ?_; clear her; rintro e' w6 ⟨rfl, rfl⟩)
          | (go_at_call 16; refine hle.mono ?_; clear hle; rintro e' w6 ⟨rfl, rfl⟩)
          | (go_at_call 12; refine (awake_any _).mono ?_; rintro e' w7 ⟨rfl, hb7⟩))
        go_ret
        exact ⟨rfl, below_pre HB5.out hb7⟩
      | ok rest =>
        obtain ⟨j, hij, hj, rfl, hx, hadd⟩ := once_step bl hb2 i rest x hq
        have HW := Lib.hid hw
        have HB := Lib.hid hb
        have HX := Lib.hid hx
        have HA := Lib.hid hadd
        have HS := Lib.hid hsz
        clear hq hr hw hb HJ HI hx hadd
        go_wp2_with fail
        refine hnum.mono ?_
        clear hnum
        rintro e' w4 ⟨rfl, ho⟩
        have hf4 : WrAt w4 w1.heap.size w1.heap.size 200 v (some (bl.take i)) := HW.out.foot ho.2 (fun e => by have := HRL.out; omega) (fun k hk e => by have := HW.out.2.1 k hk; have := HRL.out; omega)
        have hwn := WNum_any w4 x HX.out (fun l h => by cases h; rw [List.length_take]; omega) (by decide) hf4
        rw [HA.out] at hwn
        have HO := Lib.hid ho
        have HF4 := Lib.hid hf4
        have HB4 := Lib.hid (HB.out.trans (ho.2.below HB.out.size (fun k hk => by have := HRS.out; omega)))
        clear ho hf4
        go_wp2_with fail
        refine hwn.mono ?_
        clear hwn
        rintro e' w5 ⟨rfl, v5, hw5, hf5, hv5⟩
        have hb45 : Below w1.heap.size w4 w5 := hf5.below (by have := HF4.out.2.2.1.lt; omega) (fun k hk => by
          rcases hk with rfl | hk
          · exact Nat.le_refl _
          · exact HF4.out.2.1 k hk)
        have hr5 := HO.out.1.under hb45 HRL.out
        have HB5 := Lib.hid (HB4.out.trans (hb45.mono HB1.out.size))
        have her := Err_any r _ w5 hr5
        have hle := Left_any r _ w5 hr5
        simp only [RS.code, RS.left, List.length_drop] at her hle
        have hfin : Hid (RdAt w5 r (.ok (bl.drop j)) ∧ (∃ v, WrAt w5 w1.heap.size w1.heap.size 200 v (some (bl.take j))) ∧ Below w.heap.size w w5) := Lib.hid ⟨hr5, ⟨v5, hw5⟩, HB5.out⟩
        have hge : decide (bl.length - i ≤ bl.length - j) = false := by simp; omega
        clear hw5 hf5 hv5 hb45 hr5
        go_wp2_with (first
          | (go_at_call 15; refine her.mono ?_; clear her; rintro e' w6 ⟨rfl, rfl⟩)
          | (go_at_call 16; refine hle.mono ?_; rintro e' w6 ⟨rfl, rfl⟩))
        go_roundw
        case rel => exact ⟨j, hj, rfl, hfin⟩
        case measure => simp [intOf]; omega
    · obtain rfl : i = bl.length := by omega
      rw [Nat.sub_self]
      obtain ⟨hr, ⟨v, hw⟩, hb⟩ := HJ.out
      rw [List.take_length] at hw
      rw [List.drop_length] at hr
      have hd := WDone_some wr bl (by omega) hw
      have HR := Lib.hid hr
      have HB := Lib.hid hb
      clear hr hw hb HJ HI
      go_wp2_with fail
      refine hd.mono ?_
      clear hd
      rintro e' w4 ⟨x, rfl, hx, hb4⟩
      have hcx := text_rv 25 5 9 Try.underlying25 Try.underlying5 Try.underlying9 (RV.of_own hx)
      have HB4 := Lib.hid (below_pre HB.out hb4)
      have hca := text_rv 25 5 9 Try.underlying25 Try.underlying5 Try.underlying9 (HARG.out.below HB4.out (fun k _ hk => hk))
      skip
      have hdn := RDone_any r _ w4 (HR.out.below hb4 (Nat.le_refl _))
      obtain ⟨px, cx, rfl, _⟩ := RV.of_own hx
      generalize (ByteArray.mk bl.toArray) = txt at hcx hca
      clear hx hb4
      simp only [rdDone] at hdn
      go_wp2_with (first
          | (go_at_call 17; refine hdn.mono ?_; clear hdn; rintro e' w6 ⟨rfl, rfl⟩)
          | (go_at_call 12; refine (awake_any _).mono ?_; rintro e' w7 ⟨rfl, hb7⟩))
      go_ret
      exact ⟨rfl, below_pre HB4.out hb7⟩

theorem Once_walk (v : Value) (l : List UInt8) (w : World) (hr : RV w (fun k => k < w.heap.size) v l.length 1 (l.map bV)) :
    Calls Try.prog 6 #[v] w fun e w' => e = .returned (.bool true) ∧ Below w.heap.size w w' := by
  by_cases h : 200 < l.length
  · obtain ⟨p, c, rfl, hnc, hcm, hr6⟩ := hr.first 200 (by omega)
    have hlen : (l.take 200).length = 200 := by rw [List.length_take]; omega
    rw [Nat.mul_one, ← List.map_take] at hr6
    exact Once_long (l.take 200) p _ c w (by omega) hcm hnc h hlen hr6
  · obtain ⟨p, c, rfl, _⟩ := id hr
    exact Once_short l p _ c w (by omega) hr rfl
end Go.Proofs.Ytpdlfelmdnkjdaa
