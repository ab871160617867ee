/- The contracts of package wire's Read and of the reader's Upto, Truth, Bytes, Left, Err and Done. -/
import Derived.Test.YtpdlfelmdnkjdaaW6
namespace Go.Proofs.Ytpdlfelmdnkjdaa
open Go.RowKit

theorem RdAt.pos {w : World} {r e : Nat} (h : RdAt w r (.err e)) : 0 < e := h.2
theorem RdAt.lt {w : World} {r : Nat} {st : RS} (h : RdAt w r st) : r < w.heap.size := World.block_lt_of_cell? w ⟨r, 0, none⟩ h.code
theorem RdAt.under {w w' : World} {r B : Nat} {st : RS} (h : RdAt w r st) (hb : Below B w w') (hB : r < B) : RdAt w' r st := by
  cases st with
  | ok l => obtain ⟨⟨v, hk, hr⟩, hl⟩ := h; exact ⟨⟨v, hk.below hb hB, hr.below hb (fun k _ (hk : k < r) => by omega)⟩, hl⟩
  | err e => obtain ⟨⟨v, hk⟩, hl⟩ := h; exact ⟨⟨v, hk.below hb hB⟩, hl⟩
theorem RdOut.below {w w1 w2 : World} {r : Nat} {s : RS} (h : RdOut w w1 r s) (hb : Below w1.heap.size w1 w2) : RdOut w w2 r s := ⟨h.1.below hb (Nat.le_refl _), h.2.trans (Foot.of_below _ hb)⟩
theorem rdNum_zero (st : RS) (e : Nat) (h : (rdNum st).1 = .err e) : (rdNum st).2 = 0 := by
  match st with
  | .ok [] => rfl
  | .err e => rfl
  | .ok (c :: l) =>
    rw [rdNum_cons] at h ⊢
    split at h <;> rename_i h1
    · rw [if_pos h1]
    · rw [if_neg h1]
      split at h <;> rename_i h2
      · rw [if_pos h2]
      · rw [if_neg h2]
        split at h <;> rename_i h3
        · rw [if_pos h3]
        · cases h
theorem rdByte_zero (st : RS) (e : Nat) (h : (rdByte st).1 = .err e) : (rdByte st).2 = 0 := by
  match st with
  | .ok [] => rfl
  | .err e => rfl
  | .ok (c :: l) => cases h

set_option maxHeartbeats 400000 in
theorem Read_any (w : World) (x : Value) (l : List UInt8) (hl : l.length ≤ 4000) (G : Nat → Prop) (hr : RV w G x l.length 1 (l.map bV)) :
    Calls Try.prog 13 #[x] w fun e w' => (∃ r, e = .returned (.pointer (some ⟨r, 0, none⟩)) ∧ w.heap.size ≤ r ∧ RdAt w' r (.ok l)) ∧ Below w.heap.size w w' := by
  have hc := Clone_any w x l (by omega) G hr
  obtain ⟨p, c, rfl, _⟩ := hr
  go_enter Try.func13, Try.ntmps13
  go_wp2_with fail
  refine hc.mono ?_
  clear hc
  rintro e w1 ⟨v, rfl, hown, hb⟩
  have hr := RV.of_own hown
  have hlt := hown.lt
  obtain ⟨p', c', rfl, _⟩ := RV.of_own hown
  have hfin : RdAt (w1.alloc (.cells #[.int .i64 0, .slice p' l.length c'] 65)) w1.heap.size (.ok l) := by
    refine ⟨⟨_, Blk.new _ _ _, ?_⟩, hl⟩
    exact (hr.alloc _).mono fun k _ hk => (hlt k hk).2
  have HF := Lib.hid hfin
  have hsz := hb.size
  clear hfin hr hlt hown
  go_wp2
  go_ret
  exact ⟨⟨_, rfl, hsz, HF.out⟩, hb.alloc hsz _⟩

set_option maxHeartbeats 400000 in
theorem RUpto_any (r : Nat) (st : RS) (most : Nat) (w : World) (h : RdAt w r st) :
    Calls Try.prog 28 #[.pointer (some ⟨r, 0, none⟩), .int .u64 most] w fun e w' => e = .returned (.int .u64 ((upto most (rdNum st)).2 : Int)) ∧ RdOut w w' r (upto most (rdNum st)).1 := by
  have hn := RdNum_any r st w h
  have hz := rdNum_zero st
  clear h
  generalize rdNum st = q at *
  obtain ⟨s1, x⟩ := q
  simp only at hn hz
  match s1 with
  | .err e =>
    obtain rfl := hz e rfl
    have ht : decide ((most : Int) < 0) = false := by simp
    simp only [upto]
    clear hz
    go_enter Try.func28, Try.ntmps28
    go_wp2_with fail
    refine hn.mono ?_
    clear hn
    rintro e w1 ⟨rfl, ho1⟩
    go_wp2
    go_ret
    exact ⟨rfl, ho1⟩
  | .ok l =>
    clear hz
    simp only [upto]
    by_cases hx : most < x
    · rw [if_pos hx]
      have ht : decide (most < x) = true := by simp; omega
      clear hx
      go_enter Try.func28, Try.ntmps28
      go_wp2_with fail
      refine hn.mono ?_
      clear hn
      rintro e w1 ⟨rfl, ho1⟩
      have hf := fail_first r 5 w1 ho1.1.code ho1.1.frozen
      have hfin := Lib.hid (ho1.trans (ho1.1.failed (e := 5) (by decide)))
      clear ho1
      go_wp2_with fail
      refine hf.mono ?_
      clear hf
      rintro e w2 ⟨rfl, rfl⟩
      go_wp2
      go_ret
      exact ⟨rfl, hfin.out⟩
    · rw [if_neg hx]
      have ht : decide (most < x) = false := by simp; omega
      clear hx
      go_enter Try.func28, Try.ntmps28
      go_wp2_with fail
      refine hn.mono ?_
      clear hn
      rintro e w1 ⟨rfl, ho1⟩
      go_wp2
      go_ret
      exact ⟨rfl, ho1⟩

set_option maxHeartbeats 400000 in
theorem RTruth_any' (r : Nat) (st : RS) (w : World) (h : RdAt w r st) :
    Calls Try.prog 21 #[.pointer (some ⟨r, 0, none⟩)] w fun e w' => e = .returned (.bool (truth (rdByte st)).2) ∧ RdOut w w' r (truth (rdByte st)).1 := by
  have hn := RByte_any r st w h
  have hz := rdByte_zero st
  have hlt := rdByte_snd st
  clear h
  generalize rdByte st = q at *
  obtain ⟨s1, x⟩ := q
  simp only at hn hz hlt
  match s1 with
  | .err e =>
    obtain rfl := hz e rfl
    simp only [truth]
    clear hz
    go_enter Try.func21, Try.ntmps21
    go_wp2_with fail
    refine hn.mono ?_
    clear hn
    rintro e w1 ⟨rfl, ho1⟩
    go_wp2
    go_ret
    exact ⟨rfl, ho1⟩
  | .ok l =>
    clear hz
    simp only [truth]
    by_cases hx : 1 < x
    · rw [if_pos hx]
      go_enter Try.func21, Try.ntmps21
      go_wp2_with fail
      refine hn.mono ?_
      clear hn
      rintro e w1 ⟨rfl, ho1⟩
      have hf := fail_first r 3 w1 ho1.1.code ho1.1.frozen
      have hfin := Lib.hid (ho1.trans (ho1.1.failed (e := 3) (by decide)))
      clear ho1
      go_wp2_with fail
      refine hf.mono ?_
      clear hf
      rintro e w2 ⟨rfl, rfl⟩
      go_wp2
      go_ret
      exact ⟨rfl, hfin.out⟩
    · rw [if_neg hx]
      have hb : ((x : Int) == 1) = (x == 1) := by rw [Bool.eq_iff_iff, beq_iff_eq, beq_iff_eq]; omega
      generalize (x == 1) = bb at *
      go_enter Try.func21, Try.ntmps21
      go_wp2_with fail
      refine hn.mono ?_
      clear hn
      rintro e w1 ⟨rfl, ho1⟩
      go_wp2
      go_ret
      exact ⟨rfl, ho1⟩

set_option maxHeartbeats 400000 in
theorem Err_any (r : Nat) (st : RS) (w : World) (h : RdAt w r st) :
    Calls Try.prog 15 #[.pointer (some ⟨r, 0, none⟩)] w fun e w' => e = .returned (.int .i64 (st.code : Int)) ∧ w = w' := by
  have h1 := h.code
  clear h
  go_enter Try.func15, Try.ntmps15
  go_wp2
  go_ret
  exact ⟨rfl, rfl⟩

set_option maxHeartbeats 400000 in
theorem Left_any (r : Nat) (st : RS) (w : World) (h : RdAt w r st) :
    Calls Try.prog 16 #[.pointer (some ⟨r, 0, none⟩)] w fun e w' => e = .returned (.int .i64 (st.left.length : Int)) ∧ w = w' := by
  match st with
  | .ok l =>
    have hf := failed_no r w h.code
    obtain ⟨⟨v, hb, hr⟩, _⟩ := h
    obtain ⟨p, c, rfl, _⟩ := hr
    have h1 : w.cell? ⟨r, 1, none⟩ = some (.slice p l.length c) := hb.cell 1
    simp only [RS.left]
    clear hb
    go_enter Try.func16, Try.ntmps16
    go_wp2_with (go_at_call 32; refine hf.mono ?_; clear hf; rintro e w' ⟨rfl, rfl⟩)
    go_ret
    exact ⟨rfl, rfl⟩
  | .err e =>
    have hf := failed_yes r e h.2 w h.code
    simp only [RS.left]
    clear h
    go_enter Try.func16, Try.ntmps16
    go_wp2_with (go_at_call 32; refine hf.mono ?_; clear hf; rintro e w' ⟨rfl, rfl⟩)
    go_ret
    exact ⟨rfl, rfl⟩

/-- What Done tells. -/
def rdDone : RS → Nat
  | .ok [] => 0
  | .ok (_ :: _) => 3
  | .err e => e
set_option maxHeartbeats 400000 in
theorem RDone_any (r : Nat) (st : RS) (w : World) (h : RdAt w r st) :
    Calls Try.prog 17 #[.pointer (some ⟨r, 0, none⟩)] w fun e w' => e = .returned (.int .i64 (rdDone st : Int)) ∧ w = w' := by
  have he := Err_any r st w h
  have hl := Left_any r st w h
  match st with
  | .ok [] =>
    simp only [RS.left, RS.code, List.length_nil] at he hl
    simp only [rdDone]
    clear h
    go_enter Try.func17, Try.ntmps17
    go_wp2_with (first | (go_at_call 15; refine he.mono ?_; rintro e w' ⟨rfl, rfl⟩) | (go_at_call 16; refine hl.mono ?_; rintro e w' ⟨rfl, rfl⟩))
    go_ret
    exact ⟨rfl, rfl⟩
  | .ok (c :: l) =>
    simp only [RS.left, RS.code, List.length_cons] at he hl
    simp only [rdDone]
    clear h
    go_enter Try.func17, Try.ntmps17
    go_wp2_with (first | (go_at_call 15; refine he.mono ?_; rintro e w' ⟨rfl, rfl⟩) | (go_at_call 16; refine hl.mono ?_; rintro e w' ⟨rfl, rfl⟩))
    go_ret
    exact ⟨rfl, rfl⟩
  | .err e =>
    have hp := h.2
    have ht : ((e : Int) == 0) = false := by rw [beq_eq_false_iff_ne]; omega
    simp only [RS.left, RS.code] at he hl
    simp only [rdDone]
    clear h
    go_enter Try.func17, Try.ntmps17
    go_wp2_with (first | (go_at_call 15; refine he.mono ?_; rintro e w' ⟨rfl, rfl⟩) | (go_at_call 16; refine hl.mono ?_; rintro e w' ⟨rfl, rfl⟩))
    go_ret
    exact ⟨rfl, rfl⟩
end Go.Proofs.Ytpdlfelmdnkjdaa
