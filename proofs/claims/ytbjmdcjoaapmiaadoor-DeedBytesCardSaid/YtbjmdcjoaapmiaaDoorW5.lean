/- The contracts of the reader's Read, take, Byte, Num, Upto, Truth, Bytes, Left, Err, Done. -/
import Derived.Test.YtbjmdcjoaapmiaaDoorW4
namespace Go.Proofs.YtbjmdcjoaapmiaaDoor.Wire
open Go.RowKit

/-- The reader at block r stands at st; its bytes lie below it. -/
def RdAt (w : World) (r : Nat) : RS → Prop
  | .ok l => (∃ v, Blk w r 88 #[.int .i64 0, v] ∧ RV w (fun k => k < r) v l.length 1 (l.map bV)) ∧ l.length ≤ 4000
  | .err e => (∃ v, Blk w r 88 #[.int .i64 (e : Int), v]) ∧ 0 < e
/-- A step of the reader's, behind which it stands at st. -/
def RdOut (w w' : World) (r : Nat) (st : RS) : Prop := RdAt w' r st ∧ Foot (fun k => k = r) w w'
theorem RdAt.out {w : World} {r : Nat} {st : RS} (h : RdAt w r st) : RdOut w w r st := ⟨h, Foot.refl _ _⟩
theorem RdOut.trans {w w1 w2 : World} {r : Nat} {s1 s2 : RS} (h : RdOut w w1 r s1) (k : RdOut w1 w2 r s2) : RdOut w w2 r s2 := ⟨k.1, h.2.trans k.2⟩
theorem RdAt.code {w : World} {r : Nat} {st : RS} (h : RdAt w r st) : w.cell? ⟨r, 0, none⟩ = some (.int .i64 (st.code : Int)) := by
  cases st with
  | ok l => obtain ⟨⟨v, hb, _⟩, _⟩ := h; exact hb.cell 0
  | err e => obtain ⟨⟨v, hb⟩, _⟩ := h; exact hb.cell 0
theorem RdAt.frozen {w : World} {r : Nat} {st : RS} (h : RdAt w r st) : w.frozen? ⟨r, 0, none⟩ = false := by
  cases st with
  | ok l => obtain ⟨⟨v, hb, _⟩, _⟩ := h; exact hb.frozen 0
  | err e => obtain ⟨⟨v, hb⟩, _⟩ := h; exact hb.frozen 0
theorem RdAt.failed {w : World} {r : Nat} {l : List UInt8} {e : Nat} (h : RdAt w r (.ok l)) (he : 0 < e) : RdOut w (w.setCell ⟨r, 0, none⟩ (.int .i64 (e : Int))) r (.err e) := by
  obtain ⟨⟨v, hb, _⟩, _⟩ := h
  exact ⟨⟨⟨v, hb.set 0 _⟩, he⟩, (Foot.refl (fun k => k = r) w).setCell (p := ⟨r, 0, none⟩) (.inl rfl) _⟩
theorem RdAt.below {w w' : World} {r B : Nat} {st : RS} (h : RdAt w r st) (hb : Below B w w') (hB : w.heap.size ≤ B) : RdAt w' r st := by
  cases st with
  | ok l => obtain ⟨⟨v, hk, hr⟩, hl⟩ := h; exact ⟨⟨v, hk.below hb (by have := hk.lt; omega), hr.below hb (fun k hk _ => by omega)⟩, hl⟩
  | err e => obtain ⟨⟨v, hk⟩, hl⟩ := h; exact ⟨⟨v, hk.below hb (by have := hk.lt; omega)⟩, hl⟩

theorem RV_rest {w : World} {G : Nat → Prop} {p : Option Addr} {n c sz : Nat} {xs : List Value} (h : RV w G (.slice p n c) n sz xs) (k : Nat) (hk : k ≤ n) :
    RV w G (.slice (if c = k then p else p.map (·.add (k * sz))) (n - k) (c - k)) (n - k) sz (xs.drop (k * sz)) := by
  obtain ⟨p', c', hv, h1, h2, h3, h4, h5⟩ := h
  cases hv
  refine ⟨_, _, rfl, by omega, by omega, ?_, by rw [List.length_drop, h4, Nat.sub_mul], ?_⟩
  · intro e
    split at e
    · have := h3 e; omega
    · have := h3 (by simpa using e); omega
  · by_cases hkn : n - k = 0
    · exact .inl hkn
    · obtain ⟨b, off, rfl, hb, hG, hc⟩ := h5.resolve_left (by omega)
      rw [if_neg (by omega)]
      refine .inr ⟨b, off + k * sz, ?_, hb, hG, fun j u hu => ?_⟩
      · simp only [Option.map_some, Option.some.injEq]
        unfold Addr.add; split <;> simp_all
      · rw [List.getElem?_drop] at hu
        rw [Nat.add_assoc]
        exact hc _ u hu

set_option maxHeartbeats 400000 in
theorem take_err (r e n : Nat) (w : World) (h : RdAt w r (.err e)) :
    Calls Tryd.prog 73 #[.pointer (some ⟨r, 0, none⟩), .int .u64 n] w fun e w' => e = .returned (.tuple #[.slice none 0 0, .bool false]) ∧ w = w' := by
  have hf := failed_yes r e h.2 w h.code
  clear h
  go_enter Tryd.func73, Tryd.ntmps73
  go_wp2_with (go_at_call 50; refine hf.mono ?_; clear hf; rintro e w' ⟨rfl, rfl⟩)
  go_ret2
  exact ⟨rfl, rfl⟩
set_option maxHeartbeats 400000 in
theorem take_short (r n : Nat) (l : List UInt8) (hn : l.length < n) (w : World) (h : RdAt w r (.ok l)) :
    Calls Tryd.prog 73 #[.pointer (some ⟨r, 0, none⟩), .int .u64 n] w fun e w' => e = .returned (.tuple #[.slice none 0 0, .bool false]) ∧ RdOut w w' r (.err 2) := by
  have hout := Lib.hid (h.failed (e := 2) (by decide))
  have hf := failed_no r w h.code
  have hff := fail_first r 2 w h.code h.frozen
  obtain ⟨⟨v, hb, hr⟩, h4⟩ := h
  obtain ⟨p, c, rfl, _⟩ := hr
  have h1 : w.cell? ⟨r, 1, none⟩ = some (.slice p l.length c) := hb.cell 1
  clear hb
  go_enter Tryd.func73, Tryd.ntmps73
  go_wp2_with (first | (go_at_call 50; refine hf.mono ?_; clear hf; rintro e w' ⟨rfl, rfl⟩) | (go_at_call 84; refine hff.mono ?_; clear hff; rintro e w' ⟨rfl, rfl⟩))
  go_ret2
  exact ⟨rfl, hout.out⟩
set_option maxHeartbeats 400000 in
theorem take_ok (r n : Nat) (l : List UInt8) (hn : n ≤ l.length) (w : World) (h : RdAt w r (.ok l)) :
    Calls Tryd.prog 73 #[.pointer (some ⟨r, 0, none⟩), .int .u64 n] w fun e w' => (∃ s, e = .returned (.tuple #[s, .bool true]) ∧ RV w' (fun k => k < r) s n 1 ((l.take n).map bV)) ∧ RdOut w w' r (.ok (l.drop n)) := by
  have hf := failed_no r w h.code
  obtain ⟨⟨v, hb, hr⟩, h4⟩ := h
  have HR := Lib.hid hr
  obtain ⟨p, c, rfl, hnc, hcm, _⟩ := hr
  unfold maxLen at hcm
  have h1 : w.cell? ⟨r, 1, none⟩ = some (.slice p l.length c) := hb.cell 1
  have h2 : w.frozen? ⟨r, 1, none⟩ = false := hb.frozen 1
  have HB := Lib.hid hb
  clear hb
  go_enter Tryd.func73, Tryd.ntmps73
  go_wp2_with (first | (go_at_call 50; refine hf.mono ?_; clear hf; rintro e w' ⟨rfl, rfl⟩))
  all_goals go_ret2
  all_goals
    refine ⟨⟨_, rfl, ?_⟩, ⟨⟨_, HB.out.set 1 _, ?_⟩, by rw [List.length_drop]; omega⟩, (Foot.refl (fun k => k = r) w).setCell (p := ⟨r, 1, none⟩) (.inl rfl) _⟩
  · obtain rfl : c = n := by assumption
    obtain ⟨p', c', hv, _, _, hr1⟩ := HR.out.first c (by omega)
    cases hv
    rw [Nat.mul_one] at hr1
    exact hr1.foot ((Foot.refl (fun k => k = r) w).setCell (p := ⟨r, 1, none⟩) (.inl rfl) _) (fun k (hk : k < r) (h : k = r) => by omega)
  · obtain rfl : c = n := by assumption
    have hr2 := RV_rest HR.out c (by omega)
    rw [if_pos rfl, Nat.mul_one, Nat.sub_self, ← List.map_drop] at hr2
    rw [List.length_drop]
    exact hr2.foot ((Foot.refl (fun k => k = r) w).setCell (p := ⟨r, 1, none⟩) (.inl rfl) _) (fun k (hk : k < r) (h : k = r) => by omega)
  · obtain ⟨p', c', hv, _, _, hr1⟩ := HR.out.first n (by omega)
    cases hv
    rw [Nat.mul_one] at hr1
    exact hr1.foot ((Foot.refl (fun k => k = r) w).setCell (p := ⟨r, 1, none⟩) (.inl rfl) _) (fun k (hk : k < r) (h : k = r) => by omega)
  · have hcn : ¬ c = n := by assumption
    have hr2 := RV_rest HR.out n (by omega)
    rw [if_neg hcn] at hr2
    simp only [Nat.mul_one] at hr2
    rw [← List.map_drop] at hr2
    rw [List.length_drop]
    exact hr2.foot ((Foot.refl (fun k => k = r) w).setCell (p := ⟨r, 1, none⟩) (.inl rfl) _) (fun k (hk : k < r) (h : k = r) => by omega)

theorem rdByte_snd (st : RS) : (rdByte st).2 < 256 := by
  match st with
  | .ok [] => exact (by decide : 0 < 256)
  | .ok (c :: l) => exact c.toNat_lt
  | .err e => exact (by decide : 0 < 256)

theorem RByte_any (r : Nat) (st : RS) (w : World) (h : RdAt w r st) :
    Calls Tryd.prog 52 #[.pointer (some ⟨r, 0, none⟩)] w fun e w' => e = .returned (.int .u8 ((rdByte st).2 : Int)) ∧ RdOut w w' r (rdByte st).1 := by
  match st with
  | .ok [] =>
    have ht := take_short r 1 [] (by decide) w h
    clear h
    unfold rdByte
    go_enter Tryd.func52, Tryd.ntmps52
    go_wp2_with (go_at_call 73; refine ht.mono ?_; clear ht; rintro e w' ⟨rfl, ho⟩)
    go_ret
    exact ⟨rfl, ho⟩
  | .ok (c :: l) =>
    have ht := take_ok r 1 (c :: l) (by simp) w h
    clear h
    unfold rdByte
    simp only [List.take_succ_cons, List.take_zero, List.drop_succ_cons, List.drop_zero] at ht ⊢
    go_enter Tryd.func52, Tryd.ntmps52
    go_wp2_with fail
    refine ht.mono ?_
    clear ht
    rintro e w' ⟨⟨s, rfl, hr⟩, ho⟩
    obtain ⟨p, cc, rfl, _, _, _, _, hc⟩ := hr
    obtain ⟨b, off, rfl, _, _, hc⟩ := hc.resolve_left (by decide)
    have h1 : w'.cell? ⟨b, off, none⟩ = some (.int .u8 (c.toNat : Int)) := hc 0 _ rfl
    clear hc
    go_wp2
    go_ret
    exact ⟨rfl, ho⟩
  | .err e =>
    have ht := take_err r e 1 w h
    unfold rdByte
    have ho := Lib.hid h.out
    clear h
    go_enter Tryd.func52, Tryd.ntmps52
    go_wp2_with (go_at_call 73; refine ht.mono ?_; clear ht; rintro e w' ⟨rfl, rfl⟩)
    go_ret
    exact ⟨rfl, ho.out⟩
end Go.Proofs.YtbjmdcjoaapmiaaDoor.Wire
