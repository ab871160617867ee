/- The contracts of slices.Clone over bytes, of the writer's methods, of the reference's Truth and Bytes, and of the statements' own short, laid and write. -/
import Derived.Test.YtbjmdcjoaapmiaaDoorW2
import Derived.WalkSpells
namespace Go.Proofs.YtbjmdcjoaapmiaaDoor.Wire
open Go.RowKit

set_option maxHeartbeats 400000 in
theorem Clone_any (w : World) (x : Value) (l : List UInt8) (hl : l.length ≤ 10000) (G : Nat → Prop) (hr : RV w G x l.length 1 (l.map bV)) :
    Calls Tryd.prog 51 #[x] w fun e w' => ∃ v, e = .returned v ∧ w'.ownsRow w.heap.size 5 1 v l.length (l.map bV) ∧ Below w.heap.size w w' := by
  obtain ⟨i0, hi, hz0, hz1, hz2⟩ := info_parts infoB
  have HR := Lib.hid hr
  have hnil : ∀ (W : World) (a : Option Addr) (n c n' c' : Nat), (binOp .eql 38 (.slice a n c) (.slice none n' c')).run Tryd.prog W = .ok (.bool a.isNone) W := fun W a n c n' c' => Lib.run_eql_slice_nil W _ _ a n c n' c' Tryd.underlying38
  obtain ⟨p, c, rfl, hnc, _, hp, _⟩ := hr
  cases p with
  | none =>
    obtain rfl := hp rfl
    have hn : l.length = 0 := by omega
    obtain rfl := List.length_eq_zero_iff.1 hn
    clear hn hp HR
    go_enter Tryd.func51, Tryd.ntmps51
    go_wp2
    go_ret
    exact ⟨_, rfl, World.ownsRow_nil _ _ _ _, Below.refl _ _⟩
  | some ad =>
    have h1 := World.ownsRow_lit (e := 5) (size := 1) w #[] 0 (Nat.le_refl _) (by decide) rfl
    have hr := HR.out.keep (w' := w.alloc (.cells #[] 5)) (by simp) (fun k hk _ => Below.heap_alloc _ _ _ hk)
    clear hp
    go_enter Tryd.func51, Tryd.ntmps51
    go_wp2_with (at_builtin; refine wpList_append_rv _ rfl _ _ 38 rfl w.heap.size 5 i0 (.int .u8 0) 1 1 Tryd.underlying38 hi hz0 hz1 hz2 rfl (by decide) (.slice (some ⟨w.heap.size, 0, none⟩) 0 0) _ _ rfl h1 _ _ _ _ rfl hr (all_one bV bV_one _) (by unfold maxLen; omega) (by omega) (by simp) ?_; clear h1 hr; intro v' w1 hown' hgrow _; rw [List.nil_append, Nat.zero_add] at hown')
    go_ret
    exact ⟨v', rfl, hown', ((Below.refl _ _).alloc (Nat.le_refl _) _).grown hgrow (by simp) (fun j hj => by cases hj; exact Nat.le_refl _)⟩

theorem RV.new {w : World} (c : UInt8) : RV (w.alloc (.cells #[.int .u8 (c.toNat : Int)] 5)) (fun b => w.heap.size ≤ b) (.slice (some ⟨w.heap.size, 0, none⟩) 1 1) ([c].length) 1 ([c].map bV) := by
  have h := RV.of_own (World.ownsRow_lit (e := 5) (size := 1) w #[.int .u8 (c.toNat : Int)] 1 (Nat.le_refl _) (by decide) rfl)
  exact h.mono fun k _ hk => by simp [Value.ownBlock] at hk; omega

section
variable {B b most : Nat} {v : Value} {st : Option (List UInt8)}
theorem WrAt.alloc {w : World} (h : WrAt w B b most v st) (o : Obj) : WrAt (w.alloc o) B b most v st := h.below ((Below.refl w.heap.size w).alloc (Nat.le_refl _) o) (Nat.le_refl _)
theorem below_alloc (w : World) (o : Obj) : Below w.heap.size w (w.alloc o) := (Below.refl _ _).alloc (Nat.le_refl _) _

set_option maxHeartbeats 400000 in
theorem WByte_any (w : World) (c : UInt8) (hl : ∀ l, st = some l → l.length ≤ 5000) (hmm : most ≤ maxLen) (h : WrAt w B b most v st) :
    Calls Tryd.prog 48 #[.pointer (some ⟨b, 0, none⟩), .int .u8 (c.toNat : Int)] w fun e w' => e = .returned (.tuple #[]) ∧ WrStep w w' B b most v (wAdd most st [c]) := by
  have ha := add_any _ [c] (by simp) _ _ (RV.new (w := w) c) hl hmm (h.alloc _)
  clear h hl hmm
  go_enter Tryd.func48, Tryd.ntmps48
  go_wp2_with (go_at_call 70; refine ha.mono ?_; clear ha; rintro e w' ⟨rfl, hs⟩)
  go_end0
  exact ⟨rfl, hs.pre (below_alloc _ _)⟩

set_option maxHeartbeats 400000 in
theorem WTruth_any (w : World) (t : Bool) (hl : ∀ l, st = some l → l.length ≤ 5000) (hmm : most ≤ maxLen) (h : WrAt w B b most v st) :
    Calls Tryd.prog 71 #[.pointer (some ⟨b, 0, none⟩), .bool t] w fun e w' => e = .returned (.tuple #[]) ∧ WrStep w w' B b most v (wAdd most st (truB t)) := by
  cases t
  · have ha := add_any _ [0] (by decide) _ _ (RV.new (w := w) 0) hl hmm (h.alloc _)
    clear h hl hmm
    go_enter Tryd.func71, Tryd.ntmps71
    go_wp2_with (go_at_call 70; refine ha.mono ?_; clear ha; rintro e w' ⟨rfl, hs⟩)
    go_end0
    exact ⟨rfl, hs.pre (below_alloc _ _)⟩
  · have ha := add_any _ [1] (by decide) _ _ (RV.new (w := w) 1) hl hmm (h.alloc _)
    clear h hl hmm
    go_enter Tryd.func71, Tryd.ntmps71
    go_wp2_with (go_at_call 70; refine ha.mono ?_; clear ha; rintro e w' ⟨rfl, hs⟩)
    go_end0
    exact ⟨rfl, hs.pre (below_alloc _ _)⟩

set_option maxHeartbeats 400000 in
theorem WNum_any (w : World) (x : Nat) (hx : x < 18446744073709551616) (hl : ∀ l, st = some l → l.length ≤ 5000) (hmm : most ≤ maxLen) (h : WrAt w B b most v st) :
    Calls Tryd.prog 72 #[.pointer (some ⟨b, 0, none⟩), .int .u64 x] w fun e w' => e = .returned (.tuple #[]) ∧ WrStep w w' B b most v (wAdd most st (numB x)) := by
  have hn := number_any x hx w
  have H := Lib.hid h
  have HL := Lib.hid hl
  have HM := Lib.hid hmm
  have H9 := Lib.hid (numB_len x hx)
  clear hx h hl hmm
  go_enter Tryd.func72, Tryd.ntmps72
  go_wp2_with fail
  refine hn.mono ?_
  clear hn
  rintro e w1 ⟨v1, rfl, hown, hb⟩
  have ha := add_any w1 (numB x) (by have := H9.out; omega) v1 _ (RV.of_own hown) HL.out HM.out (H.out.below hb (Nat.le_refl _))
  clear hown
  go_wp2_with (go_at_call 70; refine ha.mono ?_; clear ha; rintro e w' ⟨rfl, hs⟩)
  go_end0
  exact ⟨rfl, hs.pre hb⟩

theorem wAdd_len {l0 l1 : List UInt8} {bs : List UInt8} (h : wAdd most (some l0) bs = some l1) : l1.length = l0.length + bs.length := by
  simp only [wAdd, Option.bind_some] at h
  split at h
  · cases h
  · injection h with h; rw [← h, List.length_append]
theorem wAdd_small {n m : Nat} {bs : List UInt8} (hl : ∀ l, st = some l → l.length ≤ n) (hb : bs.length ≤ m) : ∀ l, wAdd most st bs = some l → l.length ≤ n + m := by
  intro l h
  cases st with
  | none => cases h
  | some l0 => rw [wAdd_len h]; have := hl l0 rfl; omega

end

set_option maxHeartbeats 400000 in
theorem RTruth_any (t : Bool) (w : World) :
    Calls Tryd.prog 56 #[.bool t] w fun e w' => ∃ v, e = .returned v ∧ w'.ownsRow w.heap.size 5 1 v (truB t).length ((truB t).map bV) ∧ Below w.heap.size w w' := by
  have h1 := World.ownsRow_lit (e := 5) (size := 1) w #[.int .u8 1] 1 (Nat.le_refl _) (by decide) rfl
  have h0 := World.ownsRow_lit (e := 5) (size := 1) w #[.int .u8 0] 1 (Nat.le_refl _) (by decide) rfl
  have hb := fun o => below_alloc w o
  cases t
  · go_enter Tryd.func56, Tryd.ntmps56
    go_wp2
    go_ret
    exact ⟨_, rfl, h0, hb _⟩
  · go_enter Tryd.func56, Tryd.ntmps56
    go_wp2
    go_ret
    exact ⟨_, rfl, h1, hb _⟩

end Go.Proofs.YtbjmdcjoaapmiaaDoor.Wire
