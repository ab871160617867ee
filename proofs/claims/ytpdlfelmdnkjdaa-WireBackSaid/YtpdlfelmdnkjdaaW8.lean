/- The contracts of the reader's Bytes, and of the statements' own awake. -/
import Derived.Test.YtpdlfelmdnkjdaaW7
import Derived.Lib.SlBytesRow
namespace Go.Proofs.Ytpdlfelmdnkjdaa
open Go.RowKit

theorem own_nil {w w' : World} : w'.ownsRow w.heap.size 5 1 (.slice none 0 0) ([] : List UInt8).length (([] : List UInt8).map bV) := World.ownsRow_nil _ _ _ _

set_option maxHeartbeats 400000 in
theorem RBytes_err (r e : Nat) (st : RS) (most : Int) (hm : -9223372036854775808 ≤ most ∧ most ≤ 9223372036854775807) (w : World) (h : RdAt w r st) (hst : rdNum st = (.err e, 0)) :
    Calls Try.prog 22 #[.pointer (some ⟨r, 0, none⟩), .int .i64 most] w fun e' w' => (∃ v, e' = .returned v ∧ w'.ownsRow w.heap.size 5 1 v ([] : List UInt8).length (([] : List UInt8).map bV)) ∧ RdOut w w' r (.err e) := by
  have hn := RdNum_any r st w h
  rw [hst] at hn
  have HM := Lib.hid hm
  clear h hst hm
  by_cases hneg : most < 0
  · go_enter Try.func22, Try.ntmps22
    go_wp2_with fail
    refine hn.mono ?_
    clear hn
    rintro e' w1 ⟨rfl, ho1⟩
    have hf := fail_later r e ho1.1.pos 5 w1 ho1.1.code
    have HO := Lib.hid ho1
    clear ho1
    go_wp2_with fail
    refine hf.mono ?_
    clear hf
    rintro e' w2 ⟨rfl, rfl⟩
    go_wp2
    go_ret
    exact ⟨⟨_, rfl, own_nil⟩, HO.out⟩
  · obtain ⟨m, rfl⟩ := Int.eq_ofNat_of_zero_le (show 0 ≤ most by omega)
    have ht : decide (m < 0) = false := by simp
    have hm2 : (m : Int) ≤ 9223372036854775807 := HM.out.2
    go_enter Try.func22, Try.ntmps22
    go_wp2_with fail
    refine hn.mono ?_
    clear hn
    rintro e' w1 ⟨rfl, ho1⟩
    have hk := take_err r e 0 w1 ho1.1
    have hc := Clone_any w1 (.slice none 0 0) [] (by decide) (fun _ => False) (RV.nil _ _ _)
    have HO := Lib.hid ho1
    clear ho1
    go_wp2_with (first | (go_at_call 39; refine hk.mono ?_; clear hk; rintro e' w2 ⟨rfl, rfl⟩) | (go_at_call 33; refine hc.mono ?_; clear hc; rintro e' w2 ⟨v, rfl, hown, hb⟩))
    go_ret
    exact ⟨⟨_, rfl, own_mono hown HO.out.2.size⟩, HO.out.below hb⟩

set_option maxHeartbeats 400000 in
theorem RBytes_range (r x : Nat) (l : List UInt8) (st : RS) (most : Int) (hm : -9223372036854775808 ≤ most ∧ most ≤ 9223372036854775807) (w : World) (h : RdAt w r st) (hst : rdNum st = (.ok l, x)) (hx : most < 0 ∨ most < x) :
    Calls Try.prog 22 #[.pointer (some ⟨r, 0, none⟩), .int .i64 most] w fun e' w' => (∃ v, e' = .returned v ∧ w'.ownsRow w.heap.size 5 1 v ([] : List UInt8).length (([] : List UInt8).map bV)) ∧ RdOut w w' r (.err 5) := by
  have hn := RdNum_any r st w h
  rw [hst] at hn
  have HM := Lib.hid hm
  clear h hst hm
  by_cases hneg : most < 0
  · clear hx
    go_enter Try.func22, Try.ntmps22
    go_wp2_with fail
    refine hn.mono ?_
    clear hn
    rintro e' w1 ⟨rfl, ho1⟩
    have hf := fail_first r 5 w1 ho1.1.code ho1.1.frozen
    have hfin := Lib.hid (ho1.trans (ho1.1.failed (e := 5) (by decide)))
    clear ho1
    go_wp2_with fail
    refine hf.mono ?_
    clear hf
    rintro e' w2 ⟨rfl, rfl⟩
    go_wp2
    go_ret
    exact ⟨⟨_, rfl, own_nil⟩, hfin.out⟩
  · obtain ⟨m, rfl⟩ := Int.eq_ofNat_of_zero_le (show 0 ≤ most by omega)
    have ht : decide (m < x) = true := by simp; omega
    have hm2 : (m : Int) ≤ 9223372036854775807 := HM.out.2
    clear hx
    go_enter Try.func22, Try.ntmps22
    go_wp2_with fail
    refine hn.mono ?_
    clear hn
    rintro e' w1 ⟨rfl, ho1⟩
    have hf := fail_first r 5 w1 ho1.1.code ho1.1.frozen
    have hfin := Lib.hid (ho1.trans (ho1.1.failed (e := 5) (by decide)))
    clear ho1
    go_wp2_with fail
    refine hf.mono ?_
    clear hf
    rintro e' w2 ⟨rfl, rfl⟩
    go_wp2
    go_ret
    exact ⟨⟨_, rfl, own_nil⟩, hfin.out⟩

set_option maxHeartbeats 400000 in
theorem RBytes_short (r x : Nat) (l : List UInt8) (st : RS) (m : Nat) (hm : (m : Int) ≤ 9223372036854775807) (w : World) (h : RdAt w r st) (hst : rdNum st = (.ok l, x)) (hx : ¬ m < x) (hl : l.length < x) :
    Calls Try.prog 22 #[.pointer (some ⟨r, 0, none⟩), .int .i64 m] w fun e' w' => (∃ v, e' = .returned v ∧ w'.ownsRow w.heap.size 5 1 v ([] : List UInt8).length (([] : List UInt8).map bV)) ∧ RdOut w w' r (.err 2) := by
  have hn := RdNum_any r st w h
  rw [hst] at hn
  clear h hst
  have ht : decide (m < x) = false := by simp; omega
  clear hx
  go_enter Try.func22, Try.ntmps22
  go_wp2_with fail
  refine hn.mono ?_
  clear hn
  rintro e' w1 ⟨rfl, ho1⟩
  have hk := take_short r x l hl w1 ho1.1
  have HO := Lib.hid ho1
  clear ho1
  go_wp2_with fail
  refine hk.mono ?_
  clear hk
  rintro e' w2 ⟨rfl, ho2⟩
  have hc := Clone_any w2 (.slice none 0 0) [] (by decide) (fun _ => False) (RV.nil _ _ _)
  have HO2 := Lib.hid (HO.out.trans ho2)
  clear ho2
  go_wp2_with fail
  refine hc.mono ?_
  clear hc
  rintro e' w3 ⟨v, rfl, hown, hb⟩
  go_wp2
  go_ret
  exact ⟨⟨_, rfl, own_mono hown HO2.out.2.size⟩, HO2.out.below hb⟩

set_option maxHeartbeats 400000 in
theorem RBytes_ok (r x : Nat) (l : List UInt8) (st : RS) (m : Nat) (hm : (m : Int) ≤ 9223372036854775807) (w : World) (h : RdAt w r st) (hst : rdNum st = (.ok l, x)) (hx : ¬ m < x) (hl : ¬ l.length < x) :
    Calls Try.prog 22 #[.pointer (some ⟨r, 0, none⟩), .int .i64 m] w fun e' w' => (∃ v, e' = .returned v ∧ w'.ownsRow w.heap.size 5 1 v (l.take x).length ((l.take x).map bV)) ∧ RdOut w w' r (.ok (l.drop x)) := by
  have hn := RdNum_any r st w h
  rw [hst] at hn
  clear h hst
  have ht : decide (m < x) = false := by simp; omega
  clear hx
  go_enter Try.func22, Try.ntmps22
  go_wp2_with fail
  refine hn.mono ?_
  clear hn
  rintro e' w1 ⟨rfl, ho1⟩
  have hk := take_ok r x l (by omega) w1 ho1.1
  have hl4 := Lib.hid ho1.1.2
  have HO := Lib.hid ho1
  clear ho1
  go_wp2_with fail
  refine hk.mono ?_
  clear hk
  rintro e' w2 ⟨⟨s, rfl, hr⟩, ho2⟩
  have hlen : (l.take x).length = x := by rw [List.length_take]; omega
  have hc := Clone_any w2 s (l.take x) (by rw [hlen]; have := hl4.out; omega) _ (by rw [hlen]; exact hr)
  obtain ⟨p, c, rfl, _⟩ := hr
  have HO2 := Lib.hid (HO.out.trans ho2)
  clear ho2 hlen
  go_wp2_with fail
  refine hc.mono ?_
  clear hc
  rintro e' w3 ⟨v, rfl, hown, hb⟩
  go_wp2
  go_ret
  exact ⟨⟨_, rfl, own_mono hown HO2.out.2.size⟩, HO2.out.below hb⟩

theorem RdBytes_any (r : Nat) (st : RS) (most : Int) (hm : -9223372036854775808 ≤ most ∧ most ≤ 9223372036854775807) (w : World) (h : RdAt w r st) :
    Calls Try.prog 22 #[.pointer (some ⟨r, 0, none⟩), .int .i64 most] w fun e' w' => (∃ v, e' = .returned v ∧ w'.ownsRow w.heap.size 5 1 v (bytesOf most (rdNum st)).2.length ((bytesOf most (rdNum st)).2.map bV)) ∧ RdOut w w' r (bytesOf most (rdNum st)).1 := by
  have hz := rdNum_zero st
  rcases hq : rdNum st with ⟨s1, x⟩
  rw [hq] at hz
  match s1 with
  | .err e =>
    obtain rfl : x = 0 := hz e rfl
    exact RBytes_err r e st most hm w h hq
  | .ok l =>
    simp only [bytesOf]
    by_cases h1 : most < 0 ∨ most < x
    · rw [if_pos h1]; exact RBytes_range r x l st most hm w h hq h1
    · rw [if_neg h1]
      obtain ⟨m, rfl⟩ := Int.eq_ofNat_of_zero_le (show 0 ≤ most by omega)
      by_cases h2 : l.length < x
      · rw [if_pos h2]; exact RBytes_short r x l st m hm.2 w h hq (by omega) h2
      · rw [if_neg h2]; exact RBytes_ok r x l st m hm.2 w h hq (by omega) h2
end Go.Proofs.Ytpdlfelmdnkjdaa
