/- The contracts of package wire's fault, New and add, and what a writer stands at. -/
import Derived.Test.YtbjmdcjoaapmiaaDoorW1
import Derived.Deep.QuietTactic
import Derived.BigQuiet
namespace Go.Proofs.YtbjmdcjoaapmiaaDoor.Wire
open Go.RowKit

theorem failed_no (b : Nat) (w : World) (h : w.cell? ⟨b, 0, none⟩ = some (.int .i64 0)) :
    Calls Tryd.prog 50 #[.pointer (some ⟨b, 0, none⟩)] w fun e w' => e = .returned (.bool false) ∧ w = w' := by
  go_enter Tryd.func50, Tryd.ntmps50
  go_wp2
  go_ret
  exact ⟨rfl, rfl⟩
theorem failed_yes (b e : Nat) (he : 0 < e) (w : World) (h : w.cell? ⟨b, 0, none⟩ = some (.int .i64 e)) :
    Calls Tryd.prog 50 #[.pointer (some ⟨b, 0, none⟩)] w fun e w' => e = .returned (.bool true) ∧ w = w' := by
  have hne : ((e : Int) != 0) = true := by rw [bne_iff_ne]; omega
  clear he
  go_enter Tryd.func50, Tryd.ntmps50
  go_wp2
  go_ret
  exact ⟨rfl, rfl⟩
theorem fail_first (b : Nat) (x : Int) (w : World) (h : w.cell? ⟨b, 0, none⟩ = some (.int .i64 0)) (hf : w.frozen? ⟨b, 0, none⟩ = false) :
    Calls Tryd.prog 84 #[.pointer (some ⟨b, 0, none⟩), .int .i64 x] w fun e w' => e = .returned (.tuple #[]) ∧ w' = w.setCell ⟨b, 0, none⟩ (.int .i64 x) := by
  go_enter Tryd.func84, Tryd.ntmps84
  go_wp2
  go_end0
  exact ⟨rfl, rfl⟩
theorem fail_later (b e : Nat) (he : 0 < e) (x : Int) (w : World) (h : w.cell? ⟨b, 0, none⟩ = some (.int .i64 e)) :
    Calls Tryd.prog 84 #[.pointer (some ⟨b, 0, none⟩), .int .i64 x] w fun e w' => e = .returned (.tuple #[]) ∧ w = w' := by
  have hne : ((e : Int) == 0) = false := by rw [beq_eq_false_iff_ne]; omega
  clear he
  go_enter Tryd.func84, Tryd.ntmps84
  go_wp2
  go_end0
  exact ⟨rfl, rfl⟩

/-- What a writer holds behind bytes that were added: nothing, once they were too many. -/
def wAdd (most : Nat) (st : Option (List UInt8)) (bs : List UInt8) : Option (List UInt8) := st.bind fun l => if most < l.length + bs.length then none else some (l ++ bs)
theorem wAdd_append (most : Nat) (st : Option (List UInt8)) (a b : List UInt8) : wAdd most (wAdd most st a) b = wAdd most st (a ++ b) := by
  cases st with
  | none => rfl
  | some l =>
    simp only [wAdd, Option.bind_some, List.length_append]
    by_cases h : most < l.length + a.length
    · rw [if_pos h, if_pos (by omega)]; rfl
    · rw [if_neg h]
      simp only [Option.bind_some, List.length_append, List.append_assoc, Nat.add_assoc]

/-- The writer at block b, whose row is v, holds st. -/
def WrAt (w : World) (B b most : Nat) (v : Value) (st : Option (List UInt8)) : Prop :=
  B ≤ b ∧ (∀ k, v.ownBlock = some k → B ≤ k) ∧ match st with
  | some l => Blk w b 83 #[.int .i64 0, .int .i64 (most : Int), v] ∧ w.ownsRow B 5 1 v l.length (l.map bV) ∧ l.length ≤ most
  | none => Blk w b 83 #[.int .i64 4, .int .i64 (most : Int), v]
/-- A step of the writer's, behind which it holds st. -/
def WrStep (w w' : World) (B b most : Nat) (v : Value) (st : Option (List UInt8)) : Prop :=
  ∃ v', WrAt w' B b most v' st ∧ Foot (fun k => k = b ∨ v.ownBlock = some k) w w' ∧ (v'.ownBlock = v.ownBlock ∨ ∀ k, v'.ownBlock = some k → w.heap.size ≤ k)

section
variable {w w' w1 w2 : World} {B b most : Nat} {v : Value} {st st2 : Option (List UInt8)}
theorem WrAt.below {B' : Nat} (h : WrAt w B b most v st) (hb : Below B' w w') (hB : w.heap.size ≤ B') : WrAt w' B b most v st := by
  refine ⟨h.1, h.2.1, ?_⟩
  have h3 := h.2.2
  cases st with
  | none => exact h3.below hb (by have := h3.lt; omega)
  | some l => exact ⟨h3.1.below hb (by have := h3.1.lt; omega), (Foot.of_below (fun _ => False) (hb.mono hB)).own h3.2.1 (fun _ _ => id), h3.2.2⟩
theorem WrStep.pre {w0 : World} (hb : Below w0.heap.size w0 w) (h : WrStep w w' B b most v st) : WrStep w0 w' B b most v st := by
  obtain ⟨v', h1, h2, h3⟩ := h
  refine ⟨v', h1, (Foot.of_below _ hb).trans h2, h3.imp id fun h k hk => by have := h k hk; have := hb.size; omega⟩
theorem WrStep.seq {v1 : Value} (h2 : Foot (fun k => k = b ∨ v.ownBlock = some k) w w1) (h3 : v1.ownBlock = v.ownBlock ∨ ∀ k, v1.ownBlock = some k → w.heap.size ≤ k) (k : WrStep w1 w2 B b most v1 st2) : WrStep w w2 B b most v st2 := by
  obtain ⟨v2, k1, k2, k3⟩ := k
  refine ⟨v2, k1, h2.then_ k2 ?_, ?_⟩
  · intro x hx
    rcases hx with rfl | hx
    · exact .inl (.inl rfl)
    · rcases h3 with e | e
      · exact .inl (.inr (e ▸ hx))
      · exact .inr (e x hx)
  · have hs := h2.size
    rcases k3 with e | e
    · rw [e]; exact h3
    · exact .inr fun k hk => by have := e k hk; omega
theorem WrAt.same (h : WrAt w B b most v st) : WrStep w w B b most v st := ⟨v, h, Foot.refl _ _, .inl rfl⟩
end

set_option maxHeartbeats 400000 in
theorem New_any (n : Int) (w : World) :
    Calls Tryd.prog 19 #[.int .i64 n] w fun e w' => e = .returned (.pointer (some ⟨w.heap.size, 0, none⟩)) ∧ WrAt w' w.heap.size w.heap.size n.toNat (.slice none 0 0) (some []) ∧ Below w.heap.size w w' := by
  have key : ∀ m : Int, m = (n.toNat : Int) → WrAt (w.alloc (.cells #[.int .i64 0, .int .i64 m, .slice none 0 0] 83)) w.heap.size w.heap.size n.toNat (.slice none 0 0) (some []) := by
    rintro m rfl
    exact ⟨Nat.le_refl _, (fun k h => by cases h), Blk.new _ _ _, World.ownsRow_nil _ _ _ _, Nat.zero_le _⟩
  have K := Lib.hid key
  clear key
  by_cases h : 0 ≤ n
  · go_enter Tryd.func19, Tryd.ntmps19
    go_wp2
    go_ret
    exact ⟨rfl, K.out _ (by omega), (Below.refl _ _).alloc (Nat.le_refl _) _⟩
  · go_enter Tryd.func19, Tryd.ntmps19
    go_wp2
    go_ret
    exact ⟨rfl, K.out _ (by omega), (Below.refl _ _).alloc (Nat.le_refl _) _⟩

set_option maxHeartbeats 400000 in
theorem add_full {B b most : Nat} {v : Value} (w : World) (bs : List UInt8) (x : Value) (h : WrAt w B b most v none) :
    Calls Tryd.prog 70 #[.pointer (some ⟨b, 0, none⟩), x] w fun e w' => e = .returned (.tuple #[]) ∧ WrStep w w' B b most v (wAdd most none bs) := by
  have hs := Lib.hid h.same
  have hf := failed_yes b 4 (by decide) w (h.2.2.cell 0)
  clear h
  go_enter Tryd.func70, Tryd.ntmps70
  go_wp2_with (go_at_call 50; refine hf.mono ?_; clear hf; rintro e w' ⟨rfl, rfl⟩)
  refine bodyPost_ret (results_none rfl _ _ _) rfl ?_
  exact ⟨rfl, hs.out⟩

set_option maxHeartbeats 400000 in
theorem add_over {B b most : Nat} {v : Value} (w : World) (bs : List UInt8) (x : Value) (G : Nat → Prop) (hr : RV w G x bs.length 1 (bs.map bV)) (l : List UInt8) (hl : l.length ≤ 5000) (hm : most < l.length + bs.length) (hmm : most ≤ maxLen) (h : WrAt w B b most v (some l)) :
    Calls Tryd.prog 70 #[.pointer (some ⟨b, 0, none⟩), x] w fun e w' => e = .returned (.tuple #[]) ∧ WrStep w w' B b most v (wAdd most (some l) bs) := by
  unfold maxLen at hmm
  obtain ⟨hB, hvB, hblk, hown, hlm⟩ := h
  obtain ⟨p, c, rfl, _⟩ := RV.of_own hown
  obtain ⟨px, cx, rfl, _⟩ := hr
  have hf := failed_no b w (hblk.cell 0)
  have h1 : w.cell? ⟨b, 0, none⟩ = some (.int .i64 0) := hblk.cell 0
  have h2 : w.cell? ⟨b, 1, none⟩ = some (.int .i64 (most : Int)) := hblk.cell 1
  have h3 : w.cell? ⟨b, 2, none⟩ = some (.slice p l.length c) := hblk.cell 2
  have h4 : w.frozen? ⟨b, 0, none⟩ = false := hblk.frozen 0
  have hff := fun n => fail_first b 4 (w.drewN n) h1 h4
  have hfin : ∀ n, WrStep w ((w.drewN n).setCell ⟨b, 0, none⟩ (.int .i64 4)) B b most (.slice p l.length c) (wAdd most (some l) bs) := by
    intro n
    refine ⟨_, ?_, ((Foot.refl _ _).drewN n).setCell (.inl (.inl rfl)) _, .inl rfl⟩
    simp only [wAdd, Option.bind_some, if_pos hm]
    exact ⟨hB, hvB, Blk.set hblk 0 _⟩
  have HF := Lib.hid hfin
  have hdec : decide ((bs.length : Int) > (most : Int) - (l.length : Int)) = true := by simp; omega
  clear hfin hblk hown hvB hm
  go_enter Tryd.func70, Tryd.ntmps70
  go_wp2_with (go_at_call 50; refine hf.mono ?_; clear hf; rintro e w' ⟨rfl, rfl⟩)
  go_quiet (fail)
  go_wp2_with (go_at_call 84; refine (hff _).mono ?_; clear hff; rintro e w1 ⟨rfl, rfl⟩)
  refine bodyPost_ret (results_none rfl _ _ _) rfl ?_
  exact ⟨rfl, HF.out _⟩

set_option maxHeartbeats 400000 in
theorem add_fits {B b most : Nat} {v : Value} (w : World) (bs : List UInt8) (hbs : bs.length ≤ 300) (x : Value) (G : Nat → Prop) (hr : RV w G x bs.length 1 (bs.map bV)) (l : List UInt8) (hl : l.length ≤ 5000) (hm : ¬ most < l.length + bs.length) (hmm : most ≤ maxLen) (h : WrAt w B b most v (some l)) :
    Calls Tryd.prog 70 #[.pointer (some ⟨b, 0, none⟩), x] w fun e w' => e = .returned (.tuple #[]) ∧ WrStep w w' B b most v (wAdd most (some l) bs) := by
  unfold maxLen at hmm
  obtain ⟨i0, hi, hz0, hz1, hz2⟩ := info_parts infoB
  obtain ⟨hB, hvB, hblk, hown, hlm⟩ := h
  obtain ⟨p, c, rfl, _⟩ := RV.of_own hown
  have HR := Lib.hid hr
  obtain ⟨px, cx, rfl, _⟩ := hr
  have hf := failed_no b w (hblk.cell 0)
  have h1 : w.cell? ⟨b, 0, none⟩ = some (.int .i64 0) := hblk.cell 0
  have h2 : w.cell? ⟨b, 1, none⟩ = some (.int .i64 (most : Int)) := hblk.cell 1
  have h3 : w.cell? ⟨b, 2, none⟩ = some (.slice p l.length c) := hblk.cell 2
  have hdec : decide ((bs.length : Int) > (most : Int) - (l.length : Int)) = false := by simp; omega
  have hne := own_ne_blk hown hblk (by decide)
  have hbw := hblk.lt
  have HK := Lib.hid hblk
  clear hblk
  go_enter Tryd.func70, Tryd.ntmps70
  go_wp2_with (go_at_call 50; refine hf.mono ?_; clear hf; rintro e w' ⟨rfl, rfl⟩)
  go_quiet (fail)
  have hO : ∀ n, (w.drewN n).ownsRow B 5 1 (.slice p l.length c) l.length (l.map bV) := fun n => hown
  have hR : ∀ n, RV (w.drewN n) G (.slice px bs.length cx) bs.length 1 (bs.map bV) := fun n => HR.out
  have hBw : ∀ n, B ≤ (w.drewN n).heap.size := fun n => by show B ≤ w.heap.size; omega
  go_wp2_with (at_builtin; refine wpList_append_rv _ rfl _ _ 38 rfl B 5 i0 (.int .u8 0) 1 1 Tryd.underlying38 hi hz0 hz1 hz2 rfl (by decide) (.slice p l.length c) _ _ rfl (hO _) G (.slice px bs.length cx) _ _ rfl (hR _) (all_one bV bV_one _) (by unfold maxLen; omega) (by omega) (hBw _) ?_; clear hO hR hBw; intro v' w1 hown' hgrow hat; obtain ⟨p', c', rfl, _⟩ := RV.of_own hown'; have hb1 : Blk w1 b _ _ := (hgrow.block b hbw (fun e => hne e.symm)).trans HK.out; have h4 := hb1.cell 2; have h5 := hb1.frozen 2; simp only [List.getElem?_toArray, List.getElem?_cons_succ, List.getElem?_cons_zero] at h4)
  go_end0
  have hfoot : Foot (fun k => k = b ∨ (Value.slice p l.length c).ownBlock = some k) w w1 := ((Foot.refl _ w).drewN _).then_ (Foot.of_grown hgrow) (fun x hx => .inl (.inr hx))
  have hne1 : (Value.slice p' (l.length + bs.length) c').ownBlock ≠ some b := by
    rcases hat with e | e
    · rw [e]; exact hne
    · rw [e]; intro h; injection h with h; have h' : w.heap.size = b := h; omega
  refine ⟨rfl, .slice p' (l.length + bs.length) c', ⟨hB, ?_, ?_⟩, hfoot.setCell (.inl (.inl rfl)) _, ?_⟩
  · intro k hk
    rcases hat with e | e
    · exact hvB k (e ▸ hk)
    · rw [e] at hk; injection hk with hk; subst hk; show B ≤ w.heap.size; omega
  · simp only [wAdd, Option.bind_some, if_neg hm]
    refine ⟨hb1.set 2 _, ?_, by rw [List.length_append]; omega⟩
    rw [List.length_append, List.map_append]
    exact ((Foot.refl (fun k => k = b) w1).setCell (.inl rfl) _).own hown' (fun k hk e => hne1 (by rw [hk, e]))
  · rcases hat with e | e
    · exact .inl e
    · exact .inr fun k hk => by rw [e] at hk; injection hk with hk; subst hk; exact Nat.le_refl _

theorem add_any {B b most : Nat} {v : Value} {st : Option (List UInt8)} (w : World) (bs : List UInt8) (hbs : bs.length ≤ 300) (x : Value) (G : Nat → Prop) (hr : RV w G x bs.length 1 (bs.map bV)) (hl : ∀ l, st = some l → l.length ≤ 5000) (hmm : most ≤ maxLen) (h : WrAt w B b most v st) :
    Calls Tryd.prog 70 #[.pointer (some ⟨b, 0, none⟩), x] w fun e w' => e = .returned (.tuple #[]) ∧ WrStep w w' B b most v (wAdd most st bs) := by
  cases st with
  | none => exact add_full w bs x h
  | some l =>
    by_cases hm : most < l.length + bs.length
    · exact add_over w bs x G hr l (hl l rfl) hm hmm h
    · exact add_fits w bs hbs x G hr l (hl l rfl) hm hmm h
end Go.Proofs.YtbjmdcjoaapmiaaDoor.Wire
