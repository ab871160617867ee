/- The contracts of the reference's GetUpto, GetTruth, GetBytes and Done. -/
import Derived.Test.YtpdlfelmdnkjdaaR2
namespace Go.Proofs.Ytpdlfelmdnkjdaa
open Go.RowKit

section
variable {w w' : World} {G : Nat → Prop} {v : Value} {st : RS}
theorem RsV.later (h : RsV w G v st) (hb : Below w.heap.size w w') : RsV w' G v st := by
  cases st with
  | ok l => obtain ⟨⟨sl, hv, hr⟩, hl⟩ := h; exact ⟨⟨sl, hv, hr.below hb (fun k hk _ => hk)⟩, hl⟩
  | err e => exact h
theorem RsV.back (h : RsV w' G v st) (hb : Below w.heap.size w w') (hG : ∀ k, G k → k < w.heap.size) : RsV w G v st := by
  cases st with
  | ok l => obtain ⟨⟨sl, hv, hr⟩, hl⟩ := h; exact ⟨⟨sl, hv, hr.back hb (Nat.le_refl _) hG⟩, hl⟩
  | err e => exact h
theorem RsV.same {v' : Value} (h : RsV w G v st) (e : v = v') : RsV w G v' st := e ▸ h
end

set_option maxHeartbeats 800000 in
theorem GetUpto_err (p : Option Addr) (n c : Nat) (y : Int) (st : RS) (most : Nat) (G : Nat → Prop) (w : World) (hv : RsV w G (.agg #[.slice p n c, .int .i64 y]) st) (e : Nat) (he : 0 < e)
    (HG : Hid (∀ W, w.heap.size ≤ W.heap.size → RsV W G (.agg #[.slice p n c, .int .i64 y]) st → Calls Try.prog 35 #[.agg #[.slice p n c, .int .i64 y]] W fun e' w' => GetOut W w' G e' (.err e) (.int .u64 0))) :
    Calls Try.prog 38 #[.agg #[.slice p n c, .int .i64 y], .int .u64 most] w fun e' w' => GetOut w w' G e' (.err e) (.int .u64 0) := by
  have ht : ((e : Int) == 0) = false := by rw [beq_eq_false_iff_ne]; omega
  have ht2 : ((e : Int) != 0) = true := by rw [bne_iff_ne]; omega
  have hfr := Fr.new w (.slice p n c) (.int .i64 y) (.slice none 0 0) (.int .i64 0)
  have hg := HG.out _ hfr.below.size (hv.later hfr.below)
  clear hv
  go_enter Try.func38, Try.ntmps38
  go_wp2_with fail
  refine hg.mono ?_
  clear hg
  rintro e' w1 ⟨⟨v', rfl, rfl, _⟩, hb1⟩
  have hfr1 := (hfr.later hb1).put (.slice none 0 0) (.int .i64 (e : Int))
  obtain ⟨c0, c1, d0, d1, ga0, ga1, g0, g1⟩ := (hfr.later hb1).cells
  obtain ⟨a0, a1, r0, r1, fa0, fa1, f0, f1⟩ := hfr1.cells
  have HF := Lib.hid hfr1
  have HE := Lib.hid he
  clear hfr hfr1 hb1 he
  go_wp2
  exact bodyPost_ret (v := .tuple #[.agg #[.slice none 0 0, .int .i64 (e : Int)], .int .u64 0]) (by simp [results, Try.results38, go_sem, r0, r1, f0, f1]) rfl ⟨⟨_, rfl, rfl, HE.out⟩, HF.out.out _ _⟩

set_option maxHeartbeats 800000 in
theorem GetUpto_over (p : Option Addr) (n c : Nat) (y : Int) (st : RS) (most : Nat) (G : Nat → Prop) (w : World) (hv : RsV w G (.agg #[.slice p n c, .int .i64 y]) st) (l : List UInt8) (x : Nat) (hx : most < x)
    (HG : Hid (∀ W, w.heap.size ≤ W.heap.size → RsV W G (.agg #[.slice p n c, .int .i64 y]) st → Calls Try.prog 35 #[.agg #[.slice p n c, .int .i64 y]] W fun e' w' => GetOut W w' G e' (.ok l) (.int .u64 (x : Int)))) :
    Calls Try.prog 38 #[.agg #[.slice p n c, .int .i64 y], .int .u64 most] w fun e' w' => GetOut w w' G e' (.err 5) (.int .u64 0) := by
  have hd : decide (most < x) = true := by simp; omega
  clear hx
  have hfr := Fr.new w (.slice p n c) (.int .i64 y) (.slice none 0 0) (.int .i64 0)
  have hg := HG.out _ hfr.below.size (hv.later hfr.below)
  clear hv
  go_enter Try.func38, Try.ntmps38
  go_wp2_with fail
  refine hg.mono ?_
  clear hg
  rintro e' w1 ⟨⟨v', rfl, ⟨sl, rfl, hrl⟩, hl4⟩, hb1⟩
  obtain ⟨q, cq, rfl, _⟩ := hrl
  have hfr1 := (hfr.later hb1).put (.slice q l.length cq) (.int .i64 0)
  obtain ⟨c0, c1, d0, d1, ga0, ga1, g0, g1⟩ := (hfr.later hb1).cells
  obtain ⟨a0, a1, r0, r1, fa0, fa1, f0, f1⟩ := hfr1.cells
  have HF := Lib.hid hfr1
  have hff := Rfail_ok q l.length cq 5
  clear hfr hfr1 hb1
  go_wp2_with fail
  refine (hff _).mono ?_
  clear hff
  rintro e' w2 ⟨rfl, hb2⟩
  have hfr2 := HF.out.later hb2
  clear a0 a1 r0 r1 fa0 fa1 f0 f1
  obtain ⟨a0, a1, r0, r1, fa0, fa1, f0, f1⟩ := hfr2.cells
  have HF2 := Lib.hid hfr2
  clear hfr2 hb2
  go_wp2
  exact bodyPost_ret (v := .tuple #[.agg #[.slice none 0 0, .int .i64 5], .int .u64 0]) (by simp [results, Try.results38, go_sem, r0, r1, f0, f1]) rfl ⟨⟨_, rfl, rfl, by decide⟩, HF2.out.out _ _⟩

set_option maxHeartbeats 800000 in
theorem GetUpto_fine (p : Option Addr) (n c : Nat) (y : Int) (st : RS) (most : Nat) (G : Nat → Prop) (w : World) (hG : ∀ k, G k → k < w.heap.size) (hv : RsV w G (.agg #[.slice p n c, .int .i64 y]) st) (l : List UInt8) (x : Nat) (hx : ¬ most < x)
    (HG : Hid (∀ W, w.heap.size ≤ W.heap.size → RsV W G (.agg #[.slice p n c, .int .i64 y]) st → Calls Try.prog 35 #[.agg #[.slice p n c, .int .i64 y]] W fun e' w' => GetOut W w' G e' (.ok l) (.int .u64 (x : Int)))) :
    Calls Try.prog 38 #[.agg #[.slice p n c, .int .i64 y], .int .u64 most] w fun e' w' => GetOut w w' G e' (.ok l) (.int .u64 (x : Int)) := by
  have hd : decide (most < x) = false := by simp; omega
  clear hx
  have hfr := Fr.new w (.slice p n c) (.int .i64 y) (.slice none 0 0) (.int .i64 0)
  have hg := HG.out _ hfr.below.size (hv.later hfr.below)
  clear hv
  go_enter Try.func38, Try.ntmps38
  go_wp2_with fail
  refine hg.mono ?_
  clear hg
  rintro e' w1 ⟨⟨v', rfl, hv1⟩, hb1⟩
  have HV := Lib.hid (hv1.back (below_alloc2 w _ _) hG)
  obtain ⟨⟨sl, rfl, hrl⟩, hl4⟩ := hv1
  obtain ⟨q, cq, rfl, _⟩ := hrl
  have hfr1 := (hfr.later hb1).put (.slice q l.length cq) (.int .i64 0)
  obtain ⟨c0, c1, d0, d1, ga0, ga1, g0, g1⟩ := (hfr.later hb1).cells
  obtain ⟨a0, a1, r0, r1, fa0, fa1, f0, f1⟩ := hfr1.cells
  have HF := Lib.hid hfr1
  clear hfr hfr1 hb1
  go_wp2
  exact bodyPost_ret (v := .tuple #[.agg #[.slice q l.length cq, .int .i64 0], .int .u64 (x : Int)]) (by simp [results, Try.results38, go_sem, r0, r1, f0, f1]) rfl ⟨⟨_, rfl, HV.out⟩, HF.out.out _ _⟩

set_option maxHeartbeats 800000 in
theorem GetTruth_err (p : Option Addr) (n c : Nat) (y : Int) (st : RS) (G : Nat → Prop) (w : World) (hv : RsV w G (.agg #[.slice p n c, .int .i64 y]) st) (e : Nat) (he : 0 < e)
    (HG : Hid (∀ W, w.heap.size ≤ W.heap.size → RsV W G (.agg #[.slice p n c, .int .i64 y]) st → Calls Try.prog 34 #[.agg #[.slice p n c, .int .i64 y]] W fun e' w' => GetOut W w' G e' (.err e) (.int .u8 0))) :
    Calls Try.prog 36 #[.agg #[.slice p n c, .int .i64 y]] w fun e' w' => GetOut w w' G e' (.err e) (.bool false) := by
  have ht : ((e : Int) == 0) = false := by rw [beq_eq_false_iff_ne]; omega
  have ht2 : ((e : Int) != 0) = true := by rw [bne_iff_ne]; omega
  have hfr := Fr.new w (.slice p n c) (.int .i64 y) (.slice none 0 0) (.int .i64 0)
  have hg := HG.out _ hfr.below.size (hv.later hfr.below)
  clear hv
  go_enter Try.func36, Try.ntmps36
  go_wp2_with fail
  refine hg.mono ?_
  clear hg
  rintro e' w1 ⟨⟨v', rfl, rfl, _⟩, hb1⟩
  have hfr1 := (hfr.later hb1).put (.slice none 0 0) (.int .i64 (e : Int))
  obtain ⟨c0, c1, d0, d1, ga0, ga1, g0, g1⟩ := (hfr.later hb1).cells
  obtain ⟨a0, a1, r0, r1, fa0, fa1, f0, f1⟩ := hfr1.cells
  have HF := Lib.hid hfr1
  have HE := Lib.hid he
  clear hfr hfr1 hb1 he
  go_wp2
  exact bodyPost_ret (v := .tuple #[.agg #[.slice none 0 0, .int .i64 (e : Int)], .bool false]) (by simp [results, Try.results36, go_sem, r0, r1, f0, f1]) rfl ⟨⟨_, rfl, rfl, HE.out⟩, HF.out.out _ _⟩

set_option maxHeartbeats 800000 in
theorem GetTruth_over (p : Option Addr) (n c : Nat) (y : Int) (st : RS) (G : Nat → Prop) (w : World) (hv : RsV w G (.agg #[.slice p n c, .int .i64 y]) st) (l : List UInt8) (x : Nat) (hx : 1 < x)
    (HG : Hid (∀ W, w.heap.size ≤ W.heap.size → RsV W G (.agg #[.slice p n c, .int .i64 y]) st → Calls Try.prog 34 #[.agg #[.slice p n c, .int .i64 y]] W fun e' w' => GetOut W w' G e' (.ok l) (.int .u8 (x : Int)))) :
    Calls Try.prog 36 #[.agg #[.slice p n c, .int .i64 y]] w fun e' w' => GetOut w w' G e' (.err 3) (.bool false) := by
  have hfr := Fr.new w (.slice p n c) (.int .i64 y) (.slice none 0 0) (.int .i64 0)
  have hg := HG.out _ hfr.below.size (hv.later hfr.below)
  clear hv
  go_enter Try.func36, Try.ntmps36
  go_wp2_with fail
  refine hg.mono ?_
  clear hg
  rintro e' w1 ⟨⟨v', rfl, ⟨sl, rfl, hrl⟩, hl4⟩, hb1⟩
  obtain ⟨q, cq, rfl, _⟩ := hrl
  have hfr1 := (hfr.later hb1).put (.slice q l.length cq) (.int .i64 0)
  obtain ⟨c0, c1, d0, d1, ga0, ga1, g0, g1⟩ := (hfr.later hb1).cells
  obtain ⟨a0, a1, r0, r1, fa0, fa1, f0, f1⟩ := hfr1.cells
  have HF := Lib.hid hfr1
  have hff := Rfail_ok q l.length cq 3
  clear hfr hfr1 hb1
  go_wp2_with fail
  refine (hff _).mono ?_
  clear hff
  rintro e' w2 ⟨rfl, hb2⟩
  have hfr2 := HF.out.later hb2
  clear a0 a1 r0 r1 fa0 fa1 f0 f1
  obtain ⟨a0, a1, r0, r1, fa0, fa1, f0, f1⟩ := hfr2.cells
  have HF2 := Lib.hid hfr2
  clear hfr2 hb2
  go_wp2
  exact bodyPost_ret (v := .tuple #[.agg #[.slice none 0 0, .int .i64 3], .bool false]) (by simp [results, Try.results36, go_sem, r0, r1, f0, f1]) rfl ⟨⟨_, rfl, rfl, by decide⟩, HF2.out.out _ _⟩

set_option maxHeartbeats 800000 in
theorem GetTruth_fine (p : Option Addr) (n c : Nat) (y : Int) (st : RS) (G : Nat → Prop) (w : World) (hG : ∀ k, G k → k < w.heap.size) (hv : RsV w G (.agg #[.slice p n c, .int .i64 y]) st) (l : List UInt8) (x : Nat) (hx : ¬ 1 < x)
    (HG : Hid (∀ W, w.heap.size ≤ W.heap.size → RsV W G (.agg #[.slice p n c, .int .i64 y]) st → Calls Try.prog 34 #[.agg #[.slice p n c, .int .i64 y]] W fun e' w' => GetOut W w' G e' (.ok l) (.int .u8 (x : Int)))) :
    Calls Try.prog 36 #[.agg #[.slice p n c, .int .i64 y]] w fun e' w' => GetOut w w' G e' (.ok l) (.bool (x == 1)) := by
  have hb : ((x : Int) == 1) = (x == 1) := by rw [Bool.eq_iff_iff, beq_iff_eq, beq_iff_eq]; omega
  generalize (x == 1) = bb at *
  have hfr := Fr.new w (.slice p n c) (.int .i64 y) (.slice none 0 0) (.int .i64 0)
  have hg := HG.out _ hfr.below.size (hv.later hfr.below)
  clear hv
  go_enter Try.func36, Try.ntmps36
  go_wp2_with fail
  refine hg.mono ?_
  clear hg
  rintro e' w1 ⟨⟨v', rfl, hv1⟩, hb1⟩
  have HV := Lib.hid (hv1.back (below_alloc2 w _ _) hG)
  obtain ⟨⟨sl, rfl, hrl⟩, hl4⟩ := hv1
  obtain ⟨q, cq, rfl, _⟩ := hrl
  have hfr1 := (hfr.later hb1).put (.slice q l.length cq) (.int .i64 0)
  obtain ⟨c0, c1, d0, d1, ga0, ga1, g0, g1⟩ := (hfr.later hb1).cells
  obtain ⟨a0, a1, r0, r1, fa0, fa1, f0, f1⟩ := hfr1.cells
  have HF := Lib.hid hfr1
  clear hfr hfr1 hb1
  go_wp2
  exact bodyPost_ret (v := .tuple #[.agg #[.slice q l.length cq, .int .i64 0], .bool bb]) (by simp [results, Try.results36, go_sem, r0, r1, f0, f1]) rfl ⟨⟨_, rfl, HV.out⟩, HF.out.out _ _⟩

def RS.Pos : RS → Prop
  | .ok _ => True
  | .err e => 0 < e
theorem RsV.pos {w : World} {G : Nat → Prop} {v : Value} {st : RS} (h : RsV w G v st) : st.Pos := by
  cases st with
  | ok l => trivial
  | err e => exact h.2
theorem rdByte_pos (st : RS) (h : st.Pos) : ∀ e, (rdByte st).1 = .err e → 0 < e := by
  intro e he
  match st with
  | .ok [] => injection he with he; subst he; decide
  | .ok (c :: l) => cases he
  | .err e => injection he with he; subst he; exact h
theorem rdNum_pos (st : RS) (h : st.Pos) : ∀ e, (rdNum st).1 = .err e → 0 < e := by
  intro e he
  match st with
  | .ok [] => injection he with he; subst he; decide
  | .err e => injection he with he; subst he; exact h
  | .ok (c :: l) =>
    rw [rdNum_cons] at he
    split at he
    · injection he with he; subst he; decide
    split at he
    · injection he with he; subst he; decide
    split at he
    · injection he with he; subst he; decide
    · cases he

theorem GetUpto_any (v : Value) (st : RS) (most : Nat) (G : Nat → Prop) (w : World) (hG : ∀ k, G k → k < w.heap.size) (h : RsV w G v st) :
    Calls Try.prog 38 #[v, .int .u64 most] w fun e w' => GetOut w w' G e (upto most (rdNum st)).1 (.int .u64 ((upto most (rdNum st)).2 : Int)) := by
  obtain ⟨p, n, c, rfl⟩ := h.shape
  have hg : ∀ W, w.heap.size ≤ W.heap.size → RsV W G (.agg #[.slice p n c, .int .i64 (st.code : Int)]) st → Calls Try.prog 35 #[.agg #[.slice p n c, .int .i64 (st.code : Int)]] W fun e w' => GetOut W w' G e (rdNum st).1 (.int .u64 ((rdNum st).2 : Int)) := fun W hW hv => GetNum_any _ st G W (fun k hk => Nat.lt_of_lt_of_le (hG k hk) hW) hv
  have hz := rdNum_zero st
  have hpos := rdNum_pos st h.pos
  rcases hq : rdNum st with ⟨s1, x⟩
  rw [hq] at hz hg hpos
  match s1 with
  | .err e =>
    obtain rfl : x = 0 := hz e rfl
    exact GetUpto_err p n c _ st most G w h e (hpos e rfl) (Lib.hid hg)
  | .ok l =>
    simp only [upto]
    by_cases hx : most < x
    · rw [if_pos hx]; exact GetUpto_over p n c _ st most G w h l x hx (Lib.hid hg)
    · rw [if_neg hx]; exact GetUpto_fine p n c _ st most G w hG h l x hx (Lib.hid hg)
theorem GetTruth_any (v : Value) (st : RS) (G : Nat → Prop) (w : World) (hG : ∀ k, G k → k < w.heap.size) (h : RsV w G v st) :
    Calls Try.prog 36 #[v] w fun e w' => GetOut w w' G e (truth (rdByte st)).1 (.bool (truth (rdByte st)).2) := by
  obtain ⟨p, n, c, rfl⟩ := h.shape
  have hg : ∀ W, w.heap.size ≤ W.heap.size → RsV W G (.agg #[.slice p n c, .int .i64 (st.code : Int)]) st → Calls Try.prog 34 #[.agg #[.slice p n c, .int .i64 (st.code : Int)]] W fun e w' => GetOut W w' G e (rdByte st).1 (.int .u8 ((rdByte st).2 : Int)) := fun W hW hv => GetByte_any _ st G W hv
  have hz := rdByte_zero st
  have hpos := rdByte_pos st h.pos
  rcases hq : rdByte st with ⟨s1, x⟩
  rw [hq] at hz hg hpos
  match s1 with
  | .err e =>
    obtain rfl : x = 0 := hz e rfl
    exact GetTruth_err p n c _ st G w h e (hpos e rfl) (Lib.hid hg)
  | .ok l =>
    simp only [truth]
    by_cases hx : 1 < x
    · rw [if_pos hx]; exact GetTruth_over p n c _ st G w h l x hx (Lib.hid hg)
    · rw [if_neg hx]; exact GetTruth_fine p n c _ st G w hG h l x hx (Lib.hid hg)

/-- GetBytes: a state, and bytes that lie where the state's lie. -/
def GetBOut (w w' : World) (G : Nat → Prop) (e : Ending) (st : RS) (l : List UInt8) : Prop := (∃ v s, e = .returned (.tuple #[v, s]) ∧ RsV w G v st ∧ RV w G s l.length 1 (l.map bV)) ∧ Below w.heap.size w w'
theorem GetOut.bytes {w w' : World} {G : Nat → Prop} {e : Ending} {st : RS} (h : GetOut w w' G e st (.slice none 0 0)) : GetBOut w w' G e st [] := by
  obtain ⟨⟨v, he, hv⟩, hb⟩ := h
  exact ⟨⟨v, _, he, hv, RV.nil _ _ _⟩, hb⟩

set_option maxHeartbeats 800000 in
theorem GetBytes_err (p : Option Addr) (n c : Nat) (y : Int) (st : RS) (most : Int) (G : Nat → Prop) (w : World) (hv : RsV w G (.agg #[.slice p n c, .int .i64 y]) st) (e : Nat) (he : 0 < e)
    (HG : Hid (∀ W, w.heap.size ≤ W.heap.size → RsV W G (.agg #[.slice p n c, .int .i64 y]) st → Calls Try.prog 35 #[.agg #[.slice p n c, .int .i64 y]] W fun e' w' => GetOut W w' G e' (.err e) (.int .u64 0))) :
    Calls Try.prog 37 #[.agg #[.slice p n c, .int .i64 y], .int .i64 most] w fun e' w' => GetOut w w' G e' (.err e) (.slice none 0 0) := by
  have ht : ((e : Int) == 0) = false := by rw [beq_eq_false_iff_ne]; omega
  have ht2 : ((e : Int) != 0) = true := by rw [bne_iff_ne]; omega
  have hfr := Fr.new w (.slice p n c) (.int .i64 y) (.slice none 0 0) (.int .i64 0)
  have hg := HG.out _ hfr.below.size (hv.later hfr.below)
  clear hv
  go_enter Try.func37, Try.ntmps37
  go_wp2_with fail
  refine hg.mono ?_
  clear hg
  rintro e' w1 ⟨⟨v', rfl, rfl, _⟩, hb1⟩
  have hfr1 := (hfr.later hb1).put (.slice none 0 0) (.int .i64 (e : Int))
  obtain ⟨c0, c1, d0, d1, ga0, ga1, g0, g1⟩ := (hfr.later hb1).cells
  obtain ⟨a0, a1, r0, r1, fa0, fa1, f0, f1⟩ := hfr1.cells
  have HF := Lib.hid hfr1
  have HE := Lib.hid he
  clear hfr hfr1 hb1 he
  go_wp2
  exact bodyPost_ret (v := .tuple #[.agg #[.slice none 0 0, .int .i64 (e : Int)], .slice none 0 0]) (by simp [results, Try.results37, go_sem, r0, r1, f0, f1]) rfl ⟨⟨_, rfl, rfl, HE.out⟩, HF.out.out _ _⟩

set_option maxHeartbeats 800000 in
theorem GetBytes_neg (p : Option Addr) (n c : Nat) (y : Int) (st : RS) (most : Int) (G : Nat → Prop) (w : World) (hv : RsV w G (.agg #[.slice p n c, .int .i64 y]) st) (l : List UInt8) (x : Nat) (hx : most < 0)
    (HG : Hid (∀ W, w.heap.size ≤ W.heap.size → RsV W G (.agg #[.slice p n c, .int .i64 y]) st → Calls Try.prog 35 #[.agg #[.slice p n c, .int .i64 y]] W fun e' w' => GetOut W w' G e' (.ok l) (.int .u64 (x : Int)))) :
    Calls Try.prog 37 #[.agg #[.slice p n c, .int .i64 y], .int .i64 most] w fun e' w' => GetOut w w' G e' (.err 5) (.slice none 0 0) := by
  have hfr := Fr.new w (.slice p n c) (.int .i64 y) (.slice none 0 0) (.int .i64 0)
  have hg := HG.out _ hfr.below.size (hv.later hfr.below)
  clear hv
  go_enter Try.func37, Try.ntmps37
  go_wp2_with fail
  refine hg.mono ?_
  clear hg
  rintro e' w1 ⟨⟨v', rfl, ⟨sl, rfl, hrl⟩, hl4⟩, hb1⟩
  obtain ⟨q, cq, rfl, _⟩ := hrl
  have hfr1 := (hfr.later hb1).put (.slice q l.length cq) (.int .i64 0)
  obtain ⟨c0, c1, d0, d1, ga0, ga1, g0, g1⟩ := (hfr.later hb1).cells
  obtain ⟨a0, a1, r0, r1, fa0, fa1, f0, f1⟩ := hfr1.cells
  have HF := Lib.hid hfr1
  have hff := Rfail_ok q l.length cq 5
  clear hfr hfr1 hb1
  go_wp2_with fail
  refine (hff _).mono ?_
  clear hff
  rintro e' w2 ⟨rfl, hb2⟩
  have hfr2 := HF.out.later hb2
  clear a0 a1 r0 r1 fa0 fa1 f0 f1
  obtain ⟨a0, a1, r0, r1, fa0, fa1, f0, f1⟩ := hfr2.cells
  have HF2 := Lib.hid hfr2
  clear hfr2 hb2
  go_wp2
  exact bodyPost_ret (v := .tuple #[.agg #[.slice none 0 0, .int .i64 5], .slice none 0 0]) (by simp [results, Try.results37, go_sem, r0, r1, f0, f1]) rfl ⟨⟨_, rfl, rfl, by decide⟩, HF2.out.out _ _⟩

set_option maxHeartbeats 800000 in
theorem GetBytes_over (p : Option Addr) (n c : Nat) (y : Int) (st : RS) (m : Nat) (G : Nat → Prop) (w : World) (hv : RsV w G (.agg #[.slice p n c, .int .i64 y]) st) (l : List UInt8) (x : Nat) (hmm : (m : Int) ≤ 9223372036854775807) (hx : m < x)
    (HG : Hid (∀ W, w.heap.size ≤ W.heap.size → RsV W G (.agg #[.slice p n c, .int .i64 y]) st → Calls Try.prog 35 #[.agg #[.slice p n c, .int .i64 y]] W fun e' w' => GetOut W w' G e' (.ok l) (.int .u64 (x : Int)))) :
    Calls Try.prog 37 #[.agg #[.slice p n c, .int .i64 y], .int .i64 (m : Int)] w fun e' w' => GetOut w w' G e' (.err 5) (.slice none 0 0) := by
  have hd : decide (m < x) = true := by simp; omega
  clear hx
  have hfr := Fr.new w (.slice p n c) (.int .i64 y) (.slice none 0 0) (.int .i64 0)
  have hg := HG.out _ hfr.below.size (hv.later hfr.below)
  clear hv
  go_enter Try.func37, Try.ntmps37
  go_wp2_with fail
  refine hg.mono ?_
  clear hg
  rintro e' w1 ⟨⟨v', rfl, ⟨sl, rfl, hrl⟩, hl4⟩, hb1⟩
  obtain ⟨q, cq, rfl, _⟩ := hrl
  have hfr1 := (hfr.later hb1).put (.slice q l.length cq) (.int .i64 0)
  obtain ⟨c0, c1, d0, d1, ga0, ga1, g0, g1⟩ := (hfr.later hb1).cells
  obtain ⟨a0, a1, r0, r1, fa0, fa1, f0, f1⟩ := hfr1.cells
  have HF := Lib.hid hfr1
  have hff := Rfail_ok q l.length cq 5
  clear hfr hfr1 hb1
  go_wp2_with fail
  refine (hff _).mono ?_
  clear hff
  rintro e' w2 ⟨rfl, hb2⟩
  have hfr2 := HF.out.later hb2
  clear a0 a1 r0 r1 fa0 fa1 f0 f1
  obtain ⟨a0, a1, r0, r1, fa0, fa1, f0, f1⟩ := hfr2.cells
  have HF2 := Lib.hid hfr2
  clear hfr2 hb2
  go_wp2
  exact bodyPost_ret (v := .tuple #[.agg #[.slice none 0 0, .int .i64 5], .slice none 0 0]) (by simp [results, Try.results37, go_sem, r0, r1, f0, f1]) rfl ⟨⟨_, rfl, rfl, by decide⟩, HF2.out.out _ _⟩

set_option maxHeartbeats 800000 in
theorem GetBytes_short (p : Option Addr) (n c : Nat) (y : Int) (st : RS) (m : Nat) (G : Nat → Prop) (w : World) (hv : RsV w G (.agg #[.slice p n c, .int .i64 y]) st) (l : List UInt8) (x : Nat) (hmm : (m : Int) ≤ 9223372036854775807) (hx : ¬ m < x) (hl : l.length < x)
    (HG : Hid (∀ W, w.heap.size ≤ W.heap.size → RsV W G (.agg #[.slice p n c, .int .i64 y]) st → Calls Try.prog 35 #[.agg #[.slice p n c, .int .i64 y]] W fun e' w' => GetOut W w' G e' (.ok l) (.int .u64 (x : Int)))) :
    Calls Try.prog 37 #[.agg #[.slice p n c, .int .i64 y], .int .i64 (m : Int)] w fun e' w' => GetOut w w' G e' (.err 2) (.slice none 0 0) := by
  have hd : decide (m < x) = false := by simp; omega
  have hd2 : decide (l.length < x) = true := by simp; omega
  clear hx
  have hfr := Fr.new w (.slice p n c) (.int .i64 y) (.slice none 0 0) (.int .i64 0)
  have hg := HG.out _ hfr.below.size (hv.later hfr.below)
  clear hv
  go_enter Try.func37, Try.ntmps37
  go_wp2_with fail
  refine hg.mono ?_
  clear hg
  rintro e' w1 ⟨⟨v', rfl, ⟨sl, rfl, hrl⟩, hl4⟩, hb1⟩
  obtain ⟨q, cq, rfl, _⟩ := hrl
  have hfr1 := (hfr.later hb1).put (.slice q l.length cq) (.int .i64 0)
  obtain ⟨c0, c1, d0, d1, ga0, ga1, g0, g1⟩ := (hfr.later hb1).cells
  obtain ⟨a0, a1, r0, r1, fa0, fa1, f0, f1⟩ := hfr1.cells
  have HF := Lib.hid hfr1
  have hff := Rfail_ok q l.length cq 2
  clear hfr hfr1 hb1
  go_wp2_with fail
  refine (hff _).mono ?_
  clear hff
  rintro e' w2 ⟨rfl, hb2⟩
  have hfr2 := HF.out.later hb2
  clear a0 a1 r0 r1 fa0 fa1 f0 f1
  obtain ⟨a0, a1, r0, r1, fa0, fa1, f0, f1⟩ := hfr2.cells
  have HF2 := Lib.hid hfr2
  clear hfr2 hb2
  go_wp2
  exact bodyPost_ret (v := .tuple #[.agg #[.slice none 0 0, .int .i64 2], .slice none 0 0]) (by simp [results, Try.results37, go_sem, r0, r1, f0, f1]) rfl ⟨⟨_, rfl, rfl, by decide⟩, HF2.out.out _ _⟩

set_option maxHeartbeats 800000 in
theorem GetBytes_fine (p : Option Addr) (n c : Nat) (y : Int) (st : RS) (m : Nat) (G : Nat → Prop) (w : World) (hG : ∀ k, G k → k < w.heap.size) (hv : RsV w G (.agg #[.slice p n c, .int .i64 y]) st) (l : List UInt8) (x : Nat) (hmm : (m : Int) ≤ 9223372036854775807) (hx : ¬ m < x) (hl : ¬ l.length < x)
    (HG : Hid (∀ W, w.heap.size ≤ W.heap.size → RsV W G (.agg #[.slice p n c, .int .i64 y]) st → Calls Try.prog 35 #[.agg #[.slice p n c, .int .i64 y]] W fun e' w' => GetOut W w' G e' (.ok l) (.int .u64 (x : Int)))) :
    Calls Try.prog 37 #[.agg #[.slice p n c, .int .i64 y], .int .i64 (m : Int)] w fun e' w' => GetBOut w w' G e' (.ok (l.drop x)) (l.take x) := by
  have hd : decide (m < x) = false := by simp; omega
  have hd2 : decide (l.length < x) = false := by simp; omega
  clear hx
  have hfr := Fr.new w (.slice p n c) (.int .i64 y) (.slice none 0 0) (.int .i64 0)
  have hg := HG.out _ hfr.below.size (hv.later hfr.below)
  clear hv
  go_enter Try.func37, Try.ntmps37
  go_wp2_with fail
  refine hg.mono ?_
  clear hg
  rintro e' w1 ⟨⟨v', rfl, hv1⟩, hb1⟩
  have HV := Lib.hid (hv1.back (below_alloc2 w _ _) hG)
  obtain ⟨⟨sl, rfl, hrl⟩, hl4⟩ := hv1
  have hrb := hrl.back (below_alloc2 w _ _) (Nat.le_refl _) hG
  obtain ⟨q, cq, rfl, hlq, hmq, _⟩ := hrl
  unfold maxLen at hmq
  have hr1 := hrb.rest x (by omega)
  obtain ⟨q', cq', hv', _, _, hr2⟩ := hrb.first x (by omega)
  cases hv'
  rw [Nat.mul_one, ← List.map_drop] at hr1
  rw [Nat.mul_one, ← List.map_take] at hr2
  have hlt : (l.take x).length = x := by rw [List.length_take]; omega
  have HT : Hid (RV w G (.slice q x cq) (l.take x).length 1 ((l.take x).map bV)) := by rw [hlt]; exact Lib.hid hr2
  have hfr1 := (hfr.later hb1).put (.slice q l.length cq) (.int .i64 0)
  obtain ⟨c0, c1, d0, d1, ga0, ga1, g0, g1⟩ := (hfr.later hb1).cells
  obtain ⟨a0, a1, r0, r1, fa0, fa1, f0, f1⟩ := hfr1.cells
  have HF := Lib.hid hfr1
  have HL4 := Lib.hid hl4
  clear hfr hfr1 hb1 hr2 hlt hl4
  by_cases hcq : cq = x
  · subst hcq
    rw [if_pos rfl, show l.length - cq = 0 by omega] at hr1
    have HD : Hid (RV w G (.slice q 0 0) (l.drop cq).length 1 ((l.drop cq).map bV)) := by rw [List.length_drop, show l.length - cq = 0 by omega]; simpa using Lib.hid hr1
    clear hr1
    go_wp2
    go_region
    all_goals go_wp2
    all_goals exact bodyPost_ret (v := .tuple #[.agg #[.slice q 0 0, .int .i64 0], .slice q cq cq]) (by simp [results, Try.results37, go_sem, r0, r1, f0, f1]) rfl ⟨⟨_, _, rfl, ⟨⟨_, rfl, HD.out⟩, by rw [List.length_drop]; have := HL4.out; omega⟩, HT.out⟩, (HF.out.out _ _).drew⟩
  · rw [if_neg hcq] at hr1
    have HD : Hid (RV w G (.slice (q.map (fun a => a.add x)) (l.length - x) (cq - x)) (l.drop x).length 1 ((l.drop x).map bV)) := by rw [List.length_drop]; simpa using Lib.hid hr1
    clear hr1
    go_wp2
    go_region
    all_goals go_wp2
    all_goals exact bodyPost_ret (v := .tuple #[.agg #[.slice (q.map (fun a => a.add x)) (l.length - x) (cq - x), .int .i64 0], .slice q x cq]) (by simp [results, Try.results37, go_sem, r0, r1, f0, f1]) rfl ⟨⟨_, _, rfl, ⟨⟨_, rfl, HD.out⟩, by rw [List.length_drop]; have := HL4.out; omega⟩, HT.out⟩, (HF.out.out _ _).drew⟩

theorem GetBytes_any (v : Value) (st : RS) (most : Int) (hm : most ≤ 9223372036854775807) (G : Nat → Prop) (w : World) (hG : ∀ k, G k → k < w.heap.size) (h : RsV w G v st) :
    Calls Try.prog 37 #[v, .int .i64 most] w fun e w' => GetBOut w w' G e (bytesOf most (rdNum st)).1 (bytesOf most (rdNum st)).2 := by
  obtain ⟨p, n, c, rfl⟩ := h.shape
  have hg : ∀ W, w.heap.size ≤ W.heap.size → RsV W G (.agg #[.slice p n c, .int .i64 (st.code : Int)]) st → Calls Try.prog 35 #[.agg #[.slice p n c, .int .i64 (st.code : Int)]] W fun e w' => GetOut W w' G e (rdNum st).1 (.int .u64 ((rdNum st).2 : Int)) := fun W hW hv => GetNum_any _ st G W (fun k hk => Nat.lt_of_lt_of_le (hG k hk) hW) hv
  have hz := rdNum_zero st
  have hpos := rdNum_pos st h.pos
  rcases hq : rdNum st with ⟨s1, x⟩
  rw [hq] at hz hg hpos
  match s1 with
  | .err e =>
    obtain rfl : x = 0 := hz e rfl
    exact (GetBytes_err p n c _ st most G w h e (hpos e rfl) (Lib.hid hg)).mono fun _ _ => GetOut.bytes
  | .ok l =>
    simp only [bytesOf]
    by_cases h1 : most < 0
    · rw [if_pos (.inl h1)]; exact (GetBytes_neg p n c _ st most G w h l x h1 (Lib.hid hg)).mono fun _ _ => GetOut.bytes
    · obtain ⟨m, rfl⟩ := Int.eq_ofNat_of_zero_le (show 0 ≤ most by omega)
      by_cases h2 : m < x
      · rw [if_pos (.inr (by omega))]; exact (GetBytes_over p n c _ st m G w h l x hm h2 (Lib.hid hg)).mono fun _ _ => GetOut.bytes
      · rw [if_neg (by omega)]
        by_cases h3 : l.length < x
        · rw [if_pos h3]; exact (GetBytes_short p n c _ st m G w h l x hm h2 h3 (Lib.hid hg)).mono fun _ _ => GetOut.bytes
        · rw [if_neg h3]; exact GetBytes_fine p n c _ st m G w hG h l x hm h2 h3 (Lib.hid hg)

set_option maxHeartbeats 400000 in
theorem RefDone_any (v : Value) (st : RS) (G : Nat → Prop) (w : World) (h : RsV w G v st) :
    Calls Try.prog 18 #[v] w fun e w' => e = .returned (.int .i64 (rdDone st : Int)) ∧ Below w.heap.size w w' := by
  have hb := Lib.hid (below_alloc w)
  match st with
  | .ok [] =>
    obtain ⟨⟨sl, rfl, hr⟩, _⟩ := h
    obtain ⟨p, c, rfl, _⟩ := hr
    simp only [rdDone]
    go_enter Try.func18, Try.ntmps18
    go_wp2
    go_ret
    exact ⟨rfl, hb.out _⟩
  | .ok (c :: l) =>
    obtain ⟨⟨sl, rfl, hr⟩, _⟩ := h
    obtain ⟨p, c, rfl, _⟩ := hr
    simp only [rdDone]
    go_enter Try.func18, Try.ntmps18
    go_wp2
    go_ret
    exact ⟨rfl, hb.out _⟩
  | .err e =>
    obtain ⟨rfl, he⟩ := h
    have ht : ((e : Int) == 0) = false := by rw [beq_eq_false_iff_ne]; omega
    simp only [rdDone]
    clear he
    go_enter Try.func18, Try.ntmps18
    go_wp2
    go_ret
    exact ⟨rfl, hb.out _⟩
end Go.Proofs.Ytpdlfelmdnkjdaa
