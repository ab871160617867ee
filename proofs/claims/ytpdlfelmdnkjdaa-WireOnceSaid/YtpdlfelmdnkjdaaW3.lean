/- The contracts of slices.Clone over bytes, of the writer's methods, of the reference's Truth and Bytes, and of the statements' own short, laid and write. -/
import Derived.Test.YtpdlfelmdnkjdaaW2
import Derived.WalkSpells
namespace Go.Proofs.Ytpdlfelmdnkjdaa
open Go.RowKit

set_option maxHeartbeats 400000 in
theorem Clone_any (w : World) (x : Value) (l : List UInt8) (hl : l.length ≤ 10000) (G : Nat → Prop) (hr : RV w G x l.length 1 (l.map bV)) :
    Calls Try.prog 33 #[x] w fun e w' => ∃ v, e = .returned v ∧ w'.ownsRow w.heap.size 5 1 v l.length (l.map bV) ∧ Below w.heap.size w w' := by
  obtain ⟨i0, hi, hz0, hz1, hz2⟩ := info_parts infoB
  have HR := Lib.hid hr
  have hnil : ∀ (W : World) (a : Option Addr) (n c n' c' : Nat), (binOp .eql 25 (.slice a n c) (.slice none n' c')).run Try.prog W = .ok (.bool a.isNone) W := fun W a n c n' c' => Lib.run_eql_slice_nil W _ _ a n c n' c' Try.underlying25
  obtain ⟨p, c, rfl, hnc, _, hp, _⟩ := hr
  cases p with
  | none =>
    obtain rfl := hp rfl
    have hn : l.length = 0 := by omega
    obtain rfl := List.length_eq_zero_iff.1 hn
    clear hn hp HR
    go_enter Try.func33, Try.ntmps33
    go_wp2
    go_ret
    exact ⟨_, rfl, World.ownsRow_nil _ _ _ _, Below.refl _ _⟩
  | some ad =>
    have h1 := World.ownsRow_lit (e := 5) (size := 1) w #[] 0 (Nat.le_refl _) (by decide) rfl
    have hr := HR.out.keep (w' := w.alloc (.cells #[] 5)) (by simp) (fun k hk _ => Below.heap_alloc _ _ _ hk)
    clear hp
    go_enter Try.func33, Try.ntmps33
    go_wp2_with (at_builtin; refine wpList_append_rv _ rfl _ _ 25 rfl w.heap.size 5 i0 (.int .u8 0) 1 1 Try.underlying25 hi hz0 hz1 hz2 rfl (by decide) (.slice (some ⟨w.heap.size, 0, none⟩) 0 0) _ _ rfl h1 _ _ _ _ rfl hr (all_one bV bV_one _) (by unfold maxLen; omega) (by omega) (by simp) ?_; clear h1 hr; intro v' w1 hown' hgrow _; rw [List.nil_append, Nat.zero_add] at hown')
    go_ret
    exact ⟨v', rfl, hown', ((Below.refl _ _).alloc (Nat.le_refl _) _).grown hgrow (by simp) (fun j hj => by cases hj; exact Nat.le_refl _)⟩

theorem RV.new {w : World} (c : UInt8) : RV (w.alloc (.cells #[.int .u8 (c.toNat : Int)] 5)) (fun b => w.heap.size ≤ b) (.slice (some ⟨w.heap.size, 0, none⟩) 1 1) ([c].length) 1 ([c].map bV) := by
  have h := RV.of_own (World.ownsRow_lit (e := 5) (size := 1) w #[.int .u8 (c.toNat : Int)] 1 (Nat.le_refl _) (by decide) rfl)
  exact h.mono fun k _ hk => by simp [Value.ownBlock] at hk; omega

section
variable {B b most : Nat} {v : Value} {st : Option (List UInt8)}
theorem WrAt.alloc {w : World} (h : WrAt w B b most v st) (o : Obj) : WrAt (w.alloc o) B b most v st := h.below ((Below.refl w.heap.size w).alloc (Nat.le_refl _) o) (Nat.le_refl _)
theorem below_alloc (w : World) (o : Obj) : Below w.heap.size w (w.alloc o) := (Below.refl _ _).alloc (Nat.le_refl _) _

set_option maxHeartbeats 400000 in
theorem WByte_any (w : World) (c : UInt8) (hl : ∀ l, st = some l → l.length ≤ 5000) (hmm : most ≤ maxLen) (h : WrAt w B b most v st) :
    Calls Try.prog 25 #[.pointer (some ⟨b, 0, none⟩), .int .u8 (c.toNat : Int)] w fun e w' => e = .returned (.tuple #[]) ∧ WrStep w w' B b most v (wAdd most st [c]) := by
  have ha := add_any _ [c] (by simp) _ _ (RV.new (w := w) c) hl hmm (h.alloc _)
  clear h hl hmm
  go_enter Try.func25, Try.ntmps25
  go_wp2_with (go_at_call 41; refine ha.mono ?_; clear ha; rintro e w' ⟨rfl, hs⟩)
  go_end0
  exact ⟨rfl, hs.pre (below_alloc _ _)⟩

set_option maxHeartbeats 400000 in
theorem WTruth_any (w : World) (t : Bool) (hl : ∀ l, st = some l → l.length ≤ 5000) (hmm : most ≤ maxLen) (h : WrAt w B b most v st) :
    Calls Try.prog 26 #[.pointer (some ⟨b, 0, none⟩), .bool t] w fun e w' => e = .returned (.tuple #[]) ∧ WrStep w w' B b most v (wAdd most st (truB t)) := by
  cases t
  · have ha := add_any _ [0] (by decide) _ _ (RV.new (w := w) 0) hl hmm (h.alloc _)
    clear h hl hmm
    go_enter Try.func26, Try.ntmps26
    go_wp2_with (go_at_call 41; refine ha.mono ?_; clear ha; rintro e w' ⟨rfl, hs⟩)
    go_end0
    exact ⟨rfl, hs.pre (below_alloc _ _)⟩
  · have ha := add_any _ [1] (by decide) _ _ (RV.new (w := w) 1) hl hmm (h.alloc _)
    clear h hl hmm
    go_enter Try.func26, Try.ntmps26
    go_wp2_with (go_at_call 41; refine ha.mono ?_; clear ha; rintro e w' ⟨rfl, hs⟩)
    go_end0
    exact ⟨rfl, hs.pre (below_alloc _ _)⟩

set_option maxHeartbeats 400000 in
theorem WNum_any (w : World) (x : Nat) (hx : x < 18446744073709551616) (hl : ∀ l, st = some l → l.length ≤ 5000) (hmm : most ≤ maxLen) (h : WrAt w B b most v st) :
    Calls Try.prog 24 #[.pointer (some ⟨b, 0, none⟩), .int .u64 x] w fun e w' => e = .returned (.tuple #[]) ∧ WrStep w w' B b most v (wAdd most st (numB x)) := by
  have hn := number_any x hx w
  have H := Lib.hid h
  have HL := Lib.hid hl
  have HM := Lib.hid hmm
  have H9 := Lib.hid (numB_len x hx)
  clear hx h hl hmm
  go_enter Try.func24, Try.ntmps24
  go_wp2_with fail
  refine hn.mono ?_
  clear hn
  rintro e w1 ⟨v1, rfl, hown, hb⟩
  have ha := add_any w1 (numB x) (by have := H9.out; omega) v1 _ (RV.of_own hown) HL.out HM.out (H.out.below hb (Nat.le_refl _))
  clear hown
  go_wp2_with (go_at_call 41; refine ha.mono ?_; clear ha; rintro e w' ⟨rfl, hs⟩)
  go_end0
  exact ⟨rfl, hs.pre hb⟩

theorem wAdd_len {l0 l1 : List UInt8} {bs : List UInt8} (h : wAdd most (some l0) bs = some l1) : l1.length = l0.length + bs.length := by
  simp only [wAdd, Option.bind_some] at h
  split at h
  · cases h
  · injection h with h; rw [← h, List.length_append]
theorem wAdd_small {n m : Nat} {bs : List UInt8} (hl : ∀ l, st = some l → l.length ≤ n) (hb : bs.length ≤ m) : ∀ l, wAdd most st bs = some l → l.length ≤ n + m := by
  intro l h
  cases st with
  | none => cases h
  | some l0 => rw [wAdd_len h]; have := hl l0 rfl; omega

set_option maxHeartbeats 400000 in
theorem WBytes_any (w : World) (l : List UInt8) (h6 : l.length ≤ 200) (x : Value) (hr : RV w (fun k => k ≠ b ∧ v.ownBlock ≠ some k) x l.length 1 (l.map bV)) (hl : ∀ l, st = some l → l.length ≤ 4900) (hmm : most ≤ maxLen) (h : WrAt w B b most v st) :
    Calls Try.prog 27 #[.pointer (some ⟨b, 0, none⟩), x] w fun e w' => e = .returned (.tuple #[]) ∧ WrStep w w' B b most v (wAdd most st (bytB l)) := by
  have hn := WNum_any w l.length (by omega) (fun k hk => by have := hl k hk; omega) hmm h
  have HL := Lib.hid (wAdd_small (most := most) hl (numB_len l.length (by omega)))
  have HM := Lib.hid hmm
  have HR := Lib.hid hr
  obtain ⟨p, c, rfl, _⟩ := hr
  clear h hl hmm
  go_enter Try.func27, Try.ntmps27
  go_wp2_with fail
  refine hn.mono ?_
  clear hn
  rintro e w1 ⟨rfl, v1, ha1, hf1, hv1⟩
  have hr1 := HR.out.foot hf1 (fun k hk h => h.elim hk.1 hk.2)
  have ha := add_any w1 l (by omega) _ _ hr1 (fun k hk => by have := HL.out k hk; omega) HM.out ha1
  have HF := Lib.hid hf1
  have HV := Lib.hid hv1
  clear hr1 hf1 hv1 ha1
  go_wp2_with fail
  refine ha.mono ?_
  clear ha
  rintro e w2 ⟨rfl, hs⟩
  go_wp2
  go_end0
  refine ⟨rfl, ?_⟩
  rw [bytB, ← wAdd_append]
  exact WrStep.seq HF.out HV.out hs
end

set_option maxHeartbeats 400000 in
theorem RTruth_any (t : Bool) (w : World) :
    Calls Try.prog 30 #[.bool t] w fun e w' => ∃ v, e = .returned v ∧ w'.ownsRow w.heap.size 5 1 v (truB t).length ((truB t).map bV) ∧ Below w.heap.size w w' := by
  have h1 := World.ownsRow_lit (e := 5) (size := 1) w #[.int .u8 1] 1 (Nat.le_refl _) (by decide) rfl
  have h0 := World.ownsRow_lit (e := 5) (size := 1) w #[.int .u8 0] 1 (Nat.le_refl _) (by decide) rfl
  have hb := fun o => below_alloc w o
  cases t
  · go_enter Try.func30, Try.ntmps30
    go_wp2
    go_ret
    exact ⟨_, rfl, h0, hb _⟩
  · go_enter Try.func30, Try.ntmps30
    go_wp2
    go_ret
    exact ⟨_, rfl, h1, hb _⟩

set_option maxHeartbeats 400000 in
theorem RBytes_any (w : World) (l : List UInt8) (h6 : l.length ≤ 4000) (x : Value) (G : Nat → Prop) (hr : RV w G x l.length 1 (l.map bV)) :
    Calls Try.prog 31 #[x] w fun e w' => ∃ v, e = .returned v ∧ w'.ownsRow w.heap.size 5 1 v (bytB l).length ((bytB l).map bV) ∧ Below w.heap.size w w' := by
  obtain ⟨i0, hi, hz0, hz1, hz2⟩ := info_parts infoB
  have hn := RNum_any l.length (by omega) w
  have h9 := numB_len l.length (by omega)
  have HR := Lib.hid hr
  obtain ⟨p, c, rfl, _⟩ := hr
  go_enter Try.func31, Try.ntmps31
  go_wp2_with fail
  refine hn.mono ?_
  clear hn
  rintro e w1 ⟨v1, rfl, hown, hb⟩
  have hr1 := HR.out.below hb (fun k hk _ => hk)
  go_wp2_with (at_builtin; refine wpList_append_rv _ rfl _ _ 25 rfl w.heap.size 5 i0 (.int .u8 0) 1 1 Try.underlying25 hi hz0 hz1 hz2 rfl (by decide) v1 _ _ rfl hown _ _ _ _ rfl hr1 (all_one bV bV_one _) (by unfold maxLen; omega) (by omega) hb.size ?_; clear hr1; intro v' w2 hown' hgrow _)
  go_ret
  refine ⟨v', rfl, ?_, hb.grown hgrow hb.size (fun k hk => (hown.lt k hk).1)⟩
  rw [bytB, List.length_append, List.map_append]
  exact hown'

/-- What is looked at of bytes. -/
def cut60 (l : List UInt8) : List UInt8 := l.take 60
theorem cut60_len (l : List UInt8) : (cut60 l).length ≤ 60 := by unfold cut60; rw [List.length_take]; omega

set_option maxHeartbeats 400000 in
theorem short_any (w : World) (l : List UInt8) (x : Value) (G : Nat → Prop) (hr : RV w G x l.length 1 (l.map bV)) :
    Calls Try.prog 23 #[x] w fun e w' => (∃ v, e = .returned v ∧ RV w G v (cut60 l).length 1 ((cut60 l).map bV)) ∧ w = w' := by
  have hlen := hr.len
  unfold maxLen at hlen
  by_cases h : 60 < l.length
  · obtain ⟨p, c, rfl, hc, hm, hr6⟩ := hr.first 60 (by omega)
    have h6 : (cut60 l).length = 60 := by unfold cut60; rw [List.length_take]; omega
    rw [h6]
    have hr7 : RV w G (.slice p 60 c) 60 1 ((cut60 l).map bV) := by rw [cut60, List.map_take]; exact hr6
    have HR := Lib.hid hr7
    clear hr hr6 hr7 h6
    unfold maxLen at hm
    go_enter Try.func23, Try.ntmps23
    go_wp2
    go_ret
    exact ⟨⟨_, rfl, HR.out⟩, rfl⟩
  · have h6 : cut60 l = l := List.take_of_length_le (by omega)
    rw [h6]
    have HR := Lib.hid hr
    obtain ⟨p, c, rfl, _⟩ := hr
    clear h6
    go_enter Try.func23, Try.ntmps23
    go_wp2
    go_ret
    exact ⟨⟨_, rfl, HR.out⟩, rfl⟩
end Go.Proofs.Ytpdlfelmdnkjdaa
