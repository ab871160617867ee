/- The contract of the statements' own read. -/
import Derived.Test.YtpdlfelmdnkjdaaR3
import Derived.Test.YtpdlfelmdnkjdaaL3
import Derived.Deep.RegionWith
namespace Go.Proofs.Ytpdlfelmdnkjdaa
open Go.RowKit

/-- What a thing asks of a reader, and where it stands behind it. -/
def stepR (t : Thg) (st : RS) : RS :=
  if t.kind % 5 = 0 then (rdByte st).1 else if t.kind % 5 = 1 then (rdNum st).1 else if t.kind % 5 = 2 then (truth (rdByte st)).1 else if t.kind % 5 = 3 then (bytesOf t.most (rdNum st)).1 else (upto t.x (rdNum st)).1
/-- Behind read: both stand at st, and it says true. -/
def ReadOut (w w' : World) (r : Nat) (G : Nat → Prop) (e : Ending) (st : RS) : Prop := (∃ v, e = .returned (.tuple #[v, .bool true]) ∧ RsV w' G v st) ∧ RdOut w w' r st

theorem RsV.foot {S : Nat → Prop} {w w' : World} {G : Nat → Prop} {v : Value} {st : RS} (h : RsV w G v st) (hf : Foot S w w') (hd : ∀ k, G k → ¬ S k) : RsV w' G v st := by
  cases st with
  | ok l => obtain ⟨⟨sl, hv, hr⟩, hl⟩ := h; exact ⟨⟨sl, hv, hr.foot hf hd⟩, hl⟩
  | err e => exact h
theorem RdAt.foot {S : Nat → Prop} {w w' : World} {r : Nat} {st : RS} (h : RdAt w r st) (hf : Foot S w w') (hd : ∀ k, k ≤ r → ¬ S k) : RdAt w' r st := by
  cases st with
  | ok l => obtain ⟨⟨v, hk, hr⟩, hl⟩ := h; exact ⟨⟨v, hk.foot hf (hd r (Nat.le_refl _)), hr.foot hf (fun k (hk : k < r) => hd k (by omega))⟩, hl⟩
  | err e => obtain ⟨⟨v, hk⟩, hl⟩ := h; exact ⟨⟨v, hk.foot hf (hd r (Nat.le_refl _))⟩, hl⟩

theorem put_far {W : World} {a i N : Nat} {v : Value} (h : W.cell? ⟨a, i, none⟩ = some v) (hne : a ≠ N) (x y : Value) : ((W.setCell ⟨N, 0, none⟩ x).setCell ⟨N, 1, none⟩ y).cell? ⟨a, i, none⟩ = some v :=
  ((((Foot.refl (fun k => k = N) W).setCell (p := ⟨N, 0, none⟩) (.inl rfl) x).setCell (p := ⟨N, 1, none⟩) (.inl rfl) y).cell (p := ⟨a, i, none⟩) (World.block_lt_of_cell? W ⟨a, i, none⟩ h) hne).trans h
theorem read_close {w W W5 : World} {r N : Nat} {G : Nat → Prop} {st : RS} {v : Value} (hW : Below w.heap.size w W) (hr : r < w.heap.size) (hG : ∀ k, G k → k < r) (hv : RsV W G v st) (ho : RdOut W.drew W5 r st) (hN : w.heap.size ≤ N) (x y : Value) :
    RsV ((W5.setCell ⟨N, 0, none⟩ x).setCell ⟨N, 1, none⟩ y) G v st ∧ RdOut w ((W5.setCell ⟨N, 0, none⟩ x).setCell ⟨N, 1, none⟩ y) r st := by
  have hf : Foot (fun k => k = N) W5 ((W5.setCell ⟨N, 0, none⟩ x).setCell ⟨N, 1, none⟩ y) := ((Foot.refl (fun k => k = N) W5).setCell (p := ⟨N, 0, none⟩) (.inl rfl) x).setCell (p := ⟨N, 1, none⟩) (.inl rfl) y
  have hv1 : RsV W5 G v st := hv.foot (w' := W5) (S := fun k => k = r) ⟨ho.2.os, ho.2.tape, ho.2.output, ho.2.size, ho.2.block⟩ (fun k hk e => by have := hG k hk; omega)
  refine ⟨hv1.foot hf (fun k hk e => by have := hG k hk; omega), ho.1.foot hf (fun k hk e => by omega), ?_⟩
  have h1 : Foot (fun k => k = r) w W5 := (Foot.of_below _ hW).trans ⟨ho.2.os, ho.2.tape, ho.2.output, ho.2.size, ho.2.block⟩
  exact (h1.setCell (p := ⟨N, 0, none⟩) (.inr hN) x).setCell (p := ⟨N, 1, none⟩) (.inr hN) y

set_option maxHeartbeats 1600000 in
theorem read_0 (r : Nat) (p : Option Addr) (n c : Nat) (y : Int) (st : RS) (kind x : Nat) (pb : Option Addr) (nb cb : Nat) (most : Int) (hk : kind < 256) (h5 : kind % 5 = 0) (G : Nat → Prop) (w : World)
    (hG : ∀ k, G k → k < r) (hv : RsV w G (.agg #[.slice p n c, .int .i64 y]) st) (hr : RdAt w r st) :
    Calls Try.prog 14 #[.pointer (some ⟨r, 0, none⟩), .agg #[.slice p n c, .int .i64 y], .agg #[.int .u8 (kind : Int), .int .u64 (x : Int), .slice pb nb cb, .int .i64 most]] w fun e w' => ReadOut w w' r G e (rdByte st).1 := by
  have t0 : ((kind : Int) % 5 == 0) = true := by rw [beq_iff_eq]; omega
  have hb0 := below_pre (below_alloc2 w (.cells #[.slice p n c, .int .i64 y] 39) (.cells #[.int .u8 (kind : Int), .int .u64 (x : Int), .slice pb nb cb, .int .i64 most] 29)) (below_alloc _ (.cells #[.slice none 0 0, .int .i64 0] 39))
  have hrl := hr.lt
  have hN2 := Blk.new ((w.alloc (.cells #[.slice p n c, .int .i64 y] 39)).alloc (.cells #[.int .u8 (kind : Int), .int .u64 (x : Int), .slice pb nb cb, .int .i64 most] 29)) 39 #[.slice none 0 0, .int .i64 0]
  have hN1 := (Blk.new (w.alloc (.cells #[.slice p n c, .int .i64 y] 39)) 29 #[.int .u8 (kind : Int), .int .u64 (x : Int), .slice pb nb cb, .int .i64 most]).alloc (.cells #[.slice none 0 0, .int .i64 0] 39)
  simp only [World.size_alloc] at hN2 hN1
  have hg := GetByte_any _ st G _ (hv.later hb0)
  have HR := Lib.hid hr
  have HRL := Lib.hid hrl
  have HGG := Lib.hid hG
  clear h5 hv hr hG
  go_enter Try.func14, Try.ntmps14
  go_wp2_with fail
  refine hg.mono ?_
  clear hg
  rintro e w1 ⟨⟨v1, rfl, hv1⟩, hb1⟩
  obtain ⟨p1, n1, c1, rfl⟩ := hv1.shape
  obtain ⟨hc, hf⟩ := old_cells hb1
  generalize hst : (rdByte st).1 = st1 at *
  have HST := Lib.hid hst
  clear hst
  have hb3 := (below_pre hb0 hb1).alloc (by have := hb0.size; have := hb1.size; omega) (.cells #[.slice p1 n1 c1, .int .i64 (st1.code : Int)] 39)
  have hN2' := (hN2.below hb1 hN2.lt).alloc (.cells #[.slice p1 n1 c1, .int .i64 (st1.code : Int)] 39)
  have hN1' := (hN1.below hb1 hN1.lt).alloc (.cells #[.slice p1 n1 c1, .int .i64 (st1.code : Int)] 39)
  have hN3 := Blk.new w1 39 #[.slice p1 n1 c1, .int .i64 (st1.code : Int)]
  have hne3 : w1.heap.size ≠ r := by have := hb0.size; have := hb1.size; omega
  have hv3 := (hv1.later hb1).later (below_alloc w1 (.cells #[.slice p1 n1 c1, .int .i64 (st1.code : Int)] 39))
  have HR3 := Lib.hid (HR.out.below hb3 (Nat.le_refl _))
  have HCL := Lib.hid (fun W5 (ho : RdOut (w1.alloc (.cells #[.slice p1 n1 c1, .int .i64 (st1.code : Int)] 39)).drew W5 r st1) => read_close hb3 HRL.out HGG.out hv3 ho (show w.heap.size ≤ w.heap.size + 1 + 1 by omega) (.slice p1 n1 c1) (.int .i64 (st1.code : Int)))
  have s0 := hN3.cell 0
  have s1 := hN3.cell 1
  simp only [List.getElem?_toArray, List.getElem?_cons_succ, List.getElem?_cons_zero] at s0 s1
  have HN2 := Lib.hid hN2'
  have HN3 := Lib.hid hN3
  have HN1 := Lib.hid hN1'
  have HRN := Lib.hid (show w.heap.size + 1 + 1 ≠ r by have := HRL.out; omega)
  have HRN1 := Lib.hid (show w.heap.size + 1 ≠ r by have := HRL.out; omega)
  have HNE := Lib.hid hne3
  have HN32 := Lib.hid (show w1.heap.size ≠ w.heap.size + 1 + 1 by have h := hN2.lt; simp at h; have := hb1.size; simp at this; omega)
  clear hb1 hb3 hN2 hN1 hN2' hN1' hN3 hv1 hv3 hb0 hne3 hrl
  generalize hsx : (rdByte st).2 = xx at *
  have HBY : Hid (∀ W, RdAt W r st → Calls Try.prog 19 #[.pointer (some ⟨r, 0, none⟩)] W (fun e w' => e = .returned (.int .u8 (xx : Int)) ∧ RdOut W w' r st1)) := Lib.hid (fun W h => by have hq := RByte_any r _ W h; rw [HST.out, hsx] at hq; exact hq)
  clear hsx
  go_wp2
  go_region_held3 (fun w' => w'.cell? ⟨w1.heap.size, 0, none⟩ = some (.slice p1 n1 c1) ∧ w'.cell? ⟨w1.heap.size, 1, none⟩ = some (.int .i64 (st1.code : Int)))
    (first | go_keep | (exact ⟨(ho.2.cell (p := ⟨w1.heap.size, 0, none⟩) HN3.out.lt HNE.out).trans s0, (ho.2.cell (p := ⟨w1.heap.size, 1, none⟩) HN3.out.lt HNE.out).trans s1⟩) | (exact ⟨put_far ((ho.2.cell (p := ⟨w1.heap.size, 0, none⟩) HN3.out.lt HNE.out).trans s0) HN32.out _ _, put_far ((ho.2.cell (p := ⟨w1.heap.size, 1, none⟩) HN3.out.lt HNE.out).trans s1) HN32.out _ _⟩))
    ((go_at_call 19; refine (HBY.out _ HR3.out.drew).mono ?_; rintro e w5 ⟨rfl, ho⟩; have q0 := (HN2.out.foot (S := fun k => k = r) (w' := w5) ⟨ho.2.os, ho.2.tape, ho.2.output, ho.2.size, ho.2.block⟩ HRN.out).cell 0; have q1 := (HN2.out.foot (S := fun k => k = r) (w' := w5) ⟨ho.2.os, ho.2.tape, ho.2.output, ho.2.size, ho.2.block⟩ HRN.out).cell 1; have q2 := (HN2.out.foot (S := fun k => k = r) (w' := w5) ⟨ho.2.os, ho.2.tape, ho.2.output, ho.2.size, ho.2.block⟩ HRN.out).frozen 0; have q3 := (HN2.out.foot (S := fun k => k = r) (w' := w5) ⟨ho.2.os, ho.2.tape, ho.2.output, ho.2.size, ho.2.block⟩ HRN.out).frozen 1; simp only [List.getElem?_toArray, List.getElem?_cons_succ, List.getElem?_cons_zero] at q0 q1))
  all_goals go_wp2
  all_goals exact bodyPost_ret (v := .tuple #[.agg #[.slice p1 n1 c1, .int .i64 (st1.code : Int)], .bool true]) (by simp [results, Try.results14, go_sem, q0, q1, q2, q3]) rfl ⟨⟨_, rfl, by rw [HST.out]; exact (HCL.out _ ho).1⟩, by rw [HST.out]; exact (HCL.out _ ho).2⟩

set_option maxHeartbeats 1600000 in
theorem read_1 (r : Nat) (p : Option Addr) (n c : Nat) (y : Int) (st : RS) (kind x : Nat) (pb : Option Addr) (nb cb : Nat) (most : Int) (hk : kind < 256) (h5 : kind % 5 = 1) (G : Nat → Prop) (w : World)
    (hG : ∀ k, G k → k < r) (hv : RsV w G (.agg #[.slice p n c, .int .i64 y]) st) (hr : RdAt w r st) :
    Calls Try.prog 14 #[.pointer (some ⟨r, 0, none⟩), .agg #[.slice p n c, .int .i64 y], .agg #[.int .u8 (kind : Int), .int .u64 (x : Int), .slice pb nb cb, .int .i64 most]] w fun e w' => ReadOut w w' r G e (rdNum st).1 := by
  have t0 : ((kind : Int) % 5 == 0) = false := by rw [beq_eq_false_iff_ne]; omega
  have t1 : ((kind : Int) % 5 == 1) = true := by rw [beq_iff_eq]; omega
  have hb0 := below_pre (below_alloc2 w (.cells #[.slice p n c, .int .i64 y] 39) (.cells #[.int .u8 (kind : Int), .int .u64 (x : Int), .slice pb nb cb, .int .i64 most] 29)) (below_alloc _ (.cells #[.slice none 0 0, .int .i64 0] 39))
  have hrl := hr.lt
  have hN2 := Blk.new ((w.alloc (.cells #[.slice p n c, .int .i64 y] 39)).alloc (.cells #[.int .u8 (kind : Int), .int .u64 (x : Int), .slice pb nb cb, .int .i64 most] 29)) 39 #[.slice none 0 0, .int .i64 0]
  have hN1 := (Blk.new (w.alloc (.cells #[.slice p n c, .int .i64 y] 39)) 29 #[.int .u8 (kind : Int), .int .u64 (x : Int), .slice pb nb cb, .int .i64 most]).alloc (.cells #[.slice none 0 0, .int .i64 0] 39)
  simp only [World.size_alloc] at hN2 hN1
  have hg := GetNum_any _ st G _ (fun k hk => by have := hG k hk; have := hb0.size; omega) (hv.later hb0)
  have HR := Lib.hid hr
  have HRL := Lib.hid hrl
  have HGG := Lib.hid hG
  clear h5 hv hr hG
  go_enter Try.func14, Try.ntmps14
  go_wp2_with fail
  refine hg.mono ?_
  clear hg
  rintro e w1 ⟨⟨v1, rfl, hv1⟩, hb1⟩
  obtain ⟨p1, n1, c1, rfl⟩ := hv1.shape
  obtain ⟨hc, hf⟩ := old_cells hb1
  generalize hst : (rdNum st).1 = st1 at *
  have HST := Lib.hid hst
  clear hst
  have hb3 := (below_pre hb0 hb1).alloc (by have := hb0.size; have := hb1.size; omega) (.cells #[.slice p1 n1 c1, .int .i64 (st1.code : Int)] 39)
  have hN2' := (hN2.below hb1 hN2.lt).alloc (.cells #[.slice p1 n1 c1, .int .i64 (st1.code : Int)] 39)
  have hN1' := (hN1.below hb1 hN1.lt).alloc (.cells #[.slice p1 n1 c1, .int .i64 (st1.code : Int)] 39)
  have hN3 := Blk.new w1 39 #[.slice p1 n1 c1, .int .i64 (st1.code : Int)]
  have hne3 : w1.heap.size ≠ r := by have := hb0.size; have := hb1.size; omega
  have hv3 := (hv1.later hb1).later (below_alloc w1 (.cells #[.slice p1 n1 c1, .int .i64 (st1.code : Int)] 39))
  have HR3 := Lib.hid (HR.out.below hb3 (Nat.le_refl _))
  have HCL := Lib.hid (fun W5 (ho : RdOut (w1.alloc (.cells #[.slice p1 n1 c1, .int .i64 (st1.code : Int)] 39)).drew W5 r st1) => read_close hb3 HRL.out HGG.out hv3 ho (show w.heap.size ≤ w.heap.size + 1 + 1 by omega) (.slice p1 n1 c1) (.int .i64 (st1.code : Int)))
  have s0 := hN3.cell 0
  have s1 := hN3.cell 1
  simp only [List.getElem?_toArray, List.getElem?_cons_succ, List.getElem?_cons_zero] at s0 s1
  have HN2 := Lib.hid hN2'
  have HN3 := Lib.hid hN3
  have HN1 := Lib.hid hN1'
  have HRN := Lib.hid (show w.heap.size + 1 + 1 ≠ r by have := HRL.out; omega)
  have HRN1 := Lib.hid (show w.heap.size + 1 ≠ r by have := HRL.out; omega)
  have HNE := Lib.hid hne3
  have HN32 := Lib.hid (show w1.heap.size ≠ w.heap.size + 1 + 1 by have h := hN2.lt; simp at h; have := hb1.size; simp at this; omega)
  clear hb1 hb3 hN2 hN1 hN2' hN1' hN3 hv1 hv3 hb0 hne3 hrl
  generalize hsx : (rdNum st).2 = xx at *
  have HBY : Hid (∀ W, RdAt W r st → Calls Try.prog 20 #[.pointer (some ⟨r, 0, none⟩)] W (fun e w' => e = .returned (.int .u64 (xx : Int)) ∧ RdOut W w' r st1)) := Lib.hid (fun W h => by have hq := RdNum_any r _ W h; rw [HST.out, hsx] at hq; exact hq)
  clear hsx
  go_wp2
  go_region_held3 (fun w' => w'.cell? ⟨w1.heap.size, 0, none⟩ = some (.slice p1 n1 c1) ∧ w'.cell? ⟨w1.heap.size, 1, none⟩ = some (.int .i64 (st1.code : Int)))
    (first | go_keep | (exact ⟨(ho.2.cell (p := ⟨w1.heap.size, 0, none⟩) HN3.out.lt HNE.out).trans s0, (ho.2.cell (p := ⟨w1.heap.size, 1, none⟩) HN3.out.lt HNE.out).trans s1⟩) | (exact ⟨put_far ((ho.2.cell (p := ⟨w1.heap.size, 0, none⟩) HN3.out.lt HNE.out).trans s0) HN32.out _ _, put_far ((ho.2.cell (p := ⟨w1.heap.size, 1, none⟩) HN3.out.lt HNE.out).trans s1) HN32.out _ _⟩))
    ((go_at_call 20; refine (HBY.out _ HR3.out.drew).mono ?_; rintro e w5 ⟨rfl, ho⟩; have q0 := (HN2.out.foot (S := fun k => k = r) (w' := w5) ⟨ho.2.os, ho.2.tape, ho.2.output, ho.2.size, ho.2.block⟩ HRN.out).cell 0; have q1 := (HN2.out.foot (S := fun k => k = r) (w' := w5) ⟨ho.2.os, ho.2.tape, ho.2.output, ho.2.size, ho.2.block⟩ HRN.out).cell 1; have q2 := (HN2.out.foot (S := fun k => k = r) (w' := w5) ⟨ho.2.os, ho.2.tape, ho.2.output, ho.2.size, ho.2.block⟩ HRN.out).frozen 0; have q3 := (HN2.out.foot (S := fun k => k = r) (w' := w5) ⟨ho.2.os, ho.2.tape, ho.2.output, ho.2.size, ho.2.block⟩ HRN.out).frozen 1; simp only [List.getElem?_toArray, List.getElem?_cons_succ, List.getElem?_cons_zero] at q0 q1))
  all_goals go_wp2
  all_goals exact bodyPost_ret (v := .tuple #[.agg #[.slice p1 n1 c1, .int .i64 (st1.code : Int)], .bool true]) (by simp [results, Try.results14, go_sem, q0, q1, q2, q3]) rfl ⟨⟨_, rfl, by rw [HST.out]; exact (HCL.out _ ho).1⟩, by rw [HST.out]; exact (HCL.out _ ho).2⟩

set_option maxHeartbeats 1600000 in
theorem read_2 (r : Nat) (p : Option Addr) (n c : Nat) (y : Int) (st : RS) (kind x : Nat) (pb : Option Addr) (nb cb : Nat) (most : Int) (hk : kind < 256) (h5 : kind % 5 = 2) (G : Nat → Prop) (w : World)
    (hG : ∀ k, G k → k < r) (hv : RsV w G (.agg #[.slice p n c, .int .i64 y]) st) (hr : RdAt w r st) :
    Calls Try.prog 14 #[.pointer (some ⟨r, 0, none⟩), .agg #[.slice p n c, .int .i64 y], .agg #[.int .u8 (kind : Int), .int .u64 (x : Int), .slice pb nb cb, .int .i64 most]] w fun e w' => ReadOut w w' r G e (truth (rdByte st)).1 := by
  have t0 : ((kind : Int) % 5 == 0) = false := by rw [beq_eq_false_iff_ne]; omega
  have t1 : ((kind : Int) % 5 == 1) = false := by rw [beq_eq_false_iff_ne]; omega
  have t2 : ((kind : Int) % 5 == 2) = true := by rw [beq_iff_eq]; omega
  have hb0 := below_pre (below_alloc2 w (.cells #[.slice p n c, .int .i64 y] 39) (.cells #[.int .u8 (kind : Int), .int .u64 (x : Int), .slice pb nb cb, .int .i64 most] 29)) (below_alloc _ (.cells #[.slice none 0 0, .int .i64 0] 39))
  have hrl := hr.lt
  have hN2 := Blk.new ((w.alloc (.cells #[.slice p n c, .int .i64 y] 39)).alloc (.cells #[.int .u8 (kind : Int), .int .u64 (x : Int), .slice pb nb cb, .int .i64 most] 29)) 39 #[.slice none 0 0, .int .i64 0]
  have hN1 := (Blk.new (w.alloc (.cells #[.slice p n c, .int .i64 y] 39)) 29 #[.int .u8 (kind : Int), .int .u64 (x : Int), .slice pb nb cb, .int .i64 most]).alloc (.cells #[.slice none 0 0, .int .i64 0] 39)
  simp only [World.size_alloc] at hN2 hN1
  have hg := GetTruth_any _ st G _ (fun k hk => by have := hG k hk; have := hb0.size; omega) (hv.later hb0)
  have HR := Lib.hid hr
  have HRL := Lib.hid hrl
  have HGG := Lib.hid hG
  clear h5 hv hr hG
  go_enter Try.func14, Try.ntmps14
  go_wp2_with fail
  refine hg.mono ?_
  clear hg
  rintro e w1 ⟨⟨v1, rfl, hv1⟩, hb1⟩
  obtain ⟨p1, n1, c1, rfl⟩ := hv1.shape
  obtain ⟨hc, hf⟩ := old_cells hb1
  generalize hst : (truth (rdByte st)).1 = st1 at *
  have HST := Lib.hid hst
  clear hst
  have hb3 := (below_pre hb0 hb1).alloc (by have := hb0.size; have := hb1.size; omega) (.cells #[.slice p1 n1 c1, .int .i64 (st1.code : Int)] 39)
  have hN2' := (hN2.below hb1 hN2.lt).alloc (.cells #[.slice p1 n1 c1, .int .i64 (st1.code : Int)] 39)
  have hN1' := (hN1.below hb1 hN1.lt).alloc (.cells #[.slice p1 n1 c1, .int .i64 (st1.code : Int)] 39)
  have hN3 := Blk.new w1 39 #[.slice p1 n1 c1, .int .i64 (st1.code : Int)]
  have hne3 : w1.heap.size ≠ r := by have := hb0.size; have := hb1.size; omega
  have hv3 := (hv1.later hb1).later (below_alloc w1 (.cells #[.slice p1 n1 c1, .int .i64 (st1.code : Int)] 39))
  have HR3 := Lib.hid (HR.out.below hb3 (Nat.le_refl _))
  have HCL := Lib.hid (fun W5 (ho : RdOut (w1.alloc (.cells #[.slice p1 n1 c1, .int .i64 (st1.code : Int)] 39)).drew W5 r st1) => read_close hb3 HRL.out HGG.out hv3 ho (show w.heap.size ≤ w.heap.size + 1 + 1 by omega) (.slice p1 n1 c1) (.int .i64 (st1.code : Int)))
  have s0 := hN3.cell 0
  have s1 := hN3.cell 1
  simp only [List.getElem?_toArray, List.getElem?_cons_succ, List.getElem?_cons_zero] at s0 s1
  have HN2 := Lib.hid hN2'
  have HN3 := Lib.hid hN3
  have HN1 := Lib.hid hN1'
  have HRN := Lib.hid (show w.heap.size + 1 + 1 ≠ r by have := HRL.out; omega)
  have HRN1 := Lib.hid (show w.heap.size + 1 ≠ r by have := HRL.out; omega)
  have HNE := Lib.hid hne3
  have HN32 := Lib.hid (show w1.heap.size ≠ w.heap.size + 1 + 1 by have h := hN2.lt; simp at h; have := hb1.size; simp at this; omega)
  clear hb1 hb3 hN2 hN1 hN2' hN1' hN3 hv1 hv3 hb0 hne3 hrl
  generalize hsx : (truth (rdByte st)).2 = xx at *
  have HBY : Hid (∀ W, RdAt W r st → Calls Try.prog 21 #[.pointer (some ⟨r, 0, none⟩)] W (fun e w' => e = .returned (.bool xx) ∧ RdOut W w' r st1)) := Lib.hid (fun W h => by have hq := RTruth_any' r _ W h; rw [HST.out, hsx] at hq; exact hq)
  clear hsx
  go_wp2
  go_region_held3 (fun w' => w'.cell? ⟨w1.heap.size, 0, none⟩ = some (.slice p1 n1 c1) ∧ w'.cell? ⟨w1.heap.size, 1, none⟩ = some (.int .i64 (st1.code : Int)))
    (first | go_keep | (exact ⟨(ho.2.cell (p := ⟨w1.heap.size, 0, none⟩) HN3.out.lt HNE.out).trans s0, (ho.2.cell (p := ⟨w1.heap.size, 1, none⟩) HN3.out.lt HNE.out).trans s1⟩) | (exact ⟨put_far ((ho.2.cell (p := ⟨w1.heap.size, 0, none⟩) HN3.out.lt HNE.out).trans s0) HN32.out _ _, put_far ((ho.2.cell (p := ⟨w1.heap.size, 1, none⟩) HN3.out.lt HNE.out).trans s1) HN32.out _ _⟩))
    ((go_at_call 21; refine (HBY.out _ HR3.out.drew).mono ?_; rintro e w5 ⟨rfl, ho⟩; have q0 := (HN2.out.foot (S := fun k => k = r) (w' := w5) ⟨ho.2.os, ho.2.tape, ho.2.output, ho.2.size, ho.2.block⟩ HRN.out).cell 0; have q1 := (HN2.out.foot (S := fun k => k = r) (w' := w5) ⟨ho.2.os, ho.2.tape, ho.2.output, ho.2.size, ho.2.block⟩ HRN.out).cell 1; have q2 := (HN2.out.foot (S := fun k => k = r) (w' := w5) ⟨ho.2.os, ho.2.tape, ho.2.output, ho.2.size, ho.2.block⟩ HRN.out).frozen 0; have q3 := (HN2.out.foot (S := fun k => k = r) (w' := w5) ⟨ho.2.os, ho.2.tape, ho.2.output, ho.2.size, ho.2.block⟩ HRN.out).frozen 1; simp only [List.getElem?_toArray, List.getElem?_cons_succ, List.getElem?_cons_zero] at q0 q1))
  all_goals go_wp2
  all_goals exact bodyPost_ret (v := .tuple #[.agg #[.slice p1 n1 c1, .int .i64 (st1.code : Int)], .bool true]) (by simp [results, Try.results14, go_sem, q0, q1, q2, q3]) rfl ⟨⟨_, rfl, by rw [HST.out]; exact (HCL.out _ ho).1⟩, by rw [HST.out]; exact (HCL.out _ ho).2⟩

set_option maxHeartbeats 1600000 in
theorem read_4 (r : Nat) (p : Option Addr) (n c : Nat) (y : Int) (st : RS) (kind x : Nat) (pb : Option Addr) (nb cb : Nat) (most : Int) (hk : kind < 256) (h5 : kind % 5 = 4) (G : Nat → Prop) (w : World)
    (hG : ∀ k, G k → k < r) (hv : RsV w G (.agg #[.slice p n c, .int .i64 y]) st) (hr : RdAt w r st) :
    Calls Try.prog 14 #[.pointer (some ⟨r, 0, none⟩), .agg #[.slice p n c, .int .i64 y], .agg #[.int .u8 (kind : Int), .int .u64 (x : Int), .slice pb nb cb, .int .i64 most]] w fun e w' => ReadOut w w' r G e (upto x (rdNum st)).1 := by
  have t0 : ((kind : Int) % 5 == 0) = false := by rw [beq_eq_false_iff_ne]; omega
  have t1 : ((kind : Int) % 5 == 1) = false := by rw [beq_eq_false_iff_ne]; omega
  have t2 : ((kind : Int) % 5 == 2) = false := by rw [beq_eq_false_iff_ne]; omega
  have t3 : ((kind : Int) % 5 == 3) = false := by rw [beq_eq_false_iff_ne]; omega
  have hb0 := below_pre (below_alloc2 w (.cells #[.slice p n c, .int .i64 y] 39) (.cells #[.int .u8 (kind : Int), .int .u64 (x : Int), .slice pb nb cb, .int .i64 most] 29)) (below_alloc _ (.cells #[.slice none 0 0, .int .i64 0] 39))
  have hrl := hr.lt
  have hN2 := Blk.new ((w.alloc (.cells #[.slice p n c, .int .i64 y] 39)).alloc (.cells #[.int .u8 (kind : Int), .int .u64 (x : Int), .slice pb nb cb, .int .i64 most] 29)) 39 #[.slice none 0 0, .int .i64 0]
  have hN1 := (Blk.new (w.alloc (.cells #[.slice p n c, .int .i64 y] 39)) 29 #[.int .u8 (kind : Int), .int .u64 (x : Int), .slice pb nb cb, .int .i64 most]).alloc (.cells #[.slice none 0 0, .int .i64 0] 39)
  simp only [World.size_alloc] at hN2 hN1
  have hg := GetUpto_any _ st x G _ (fun k hk => by have := hG k hk; have := hb0.size; omega) (hv.later hb0)
  have HR := Lib.hid hr
  have HRL := Lib.hid hrl
  have HGG := Lib.hid hG
  clear h5 hv hr hG
  go_enter Try.func14, Try.ntmps14
  go_wp2_with fail
  refine hg.mono ?_
  clear hg
  rintro e w1 ⟨⟨v1, rfl, hv1⟩, hb1⟩
  obtain ⟨p1, n1, c1, rfl⟩ := hv1.shape
  obtain ⟨hc, hf⟩ := old_cells hb1
  generalize hst : (upto x (rdNum st)).1 = st1 at *
  have HST := Lib.hid hst
  clear hst
  have hb3 := (below_pre hb0 hb1).alloc (by have := hb0.size; have := hb1.size; omega) (.cells #[.slice p1 n1 c1, .int .i64 (st1.code : Int)] 39)
  have hN2' := (hN2.below hb1 hN2.lt).alloc (.cells #[.slice p1 n1 c1, .int .i64 (st1.code : Int)] 39)
  have hN1' := (hN1.below hb1 hN1.lt).alloc (.cells #[.slice p1 n1 c1, .int .i64 (st1.code : Int)] 39)
  have hN3 := Blk.new w1 39 #[.slice p1 n1 c1, .int .i64 (st1.code : Int)]
  have hne3 : w1.heap.size ≠ r := by have := hb0.size; have := hb1.size; omega
  have hv3 := (hv1.later hb1).later (below_alloc w1 (.cells #[.slice p1 n1 c1, .int .i64 (st1.code : Int)] 39))
  have HR3 := Lib.hid (HR.out.below hb3 (Nat.le_refl _))
  have HCL := Lib.hid (fun W5 (ho : RdOut (w1.alloc (.cells #[.slice p1 n1 c1, .int .i64 (st1.code : Int)] 39)).drew W5 r st1) => read_close hb3 HRL.out HGG.out hv3 ho (show w.heap.size ≤ w.heap.size + 1 + 1 by omega) (.slice p1 n1 c1) (.int .i64 (st1.code : Int)))
  have s0 := hN3.cell 0
  have s1 := hN3.cell 1
  simp only [List.getElem?_toArray, List.getElem?_cons_succ, List.getElem?_cons_zero] at s0 s1
  have HN2 := Lib.hid hN2'
  have HN3 := Lib.hid hN3
  have HN1 := Lib.hid hN1'
  have HRN := Lib.hid (show w.heap.size + 1 + 1 ≠ r by have := HRL.out; omega)
  have HRN1 := Lib.hid (show w.heap.size + 1 ≠ r by have := HRL.out; omega)
  have HNE := Lib.hid hne3
  have HN32 := Lib.hid (show w1.heap.size ≠ w.heap.size + 1 + 1 by have h := hN2.lt; simp at h; have := hb1.size; simp at this; omega)
  clear hb1 hb3 hN2 hN1 hN2' hN1' hN3 hv1 hv3 hb0 hne3 hrl
  generalize hsx : (upto x (rdNum st)).2 = xx at *
  have HBY : Hid (∀ W, RdAt W r st → Calls Try.prog 28 #[.pointer (some ⟨r, 0, none⟩), .int .u64 x] W (fun e w' => e = .returned (.int .u64 (xx : Int)) ∧ RdOut W w' r st1)) := Lib.hid (fun W h => by have hq := RUpto_any r _ x W h; rw [HST.out, hsx] at hq; exact hq)
  clear hsx
  have z1 := HN1.out.cell 1
  simp only [List.getElem?_toArray, List.getElem?_cons_succ, List.getElem?_cons_zero] at z1
  have HN12 := Lib.hid (show w.heap.size + 1 ≠ w.heap.size + 1 + 1 by omega)
  go_wp2
  go_region_held3 (fun w' => w'.cell? ⟨w1.heap.size, 0, none⟩ = some (.slice p1 n1 c1) ∧ w'.cell? ⟨w1.heap.size, 1, none⟩ = some (.int .i64 (st1.code : Int)) ∧ w'.cell? ⟨w.heap.size + 1, 1, none⟩ = some (.int .u64 (x : Int)))
    (first | (exact ⟨(ho.2.cell (p := ⟨w1.heap.size, 0, none⟩) HN3.out.lt HNE.out).trans s0, (ho.2.cell (p := ⟨w1.heap.size, 1, none⟩) HN3.out.lt HNE.out).trans s1, (ho.2.cell (p := ⟨w.heap.size + 1, 1, none⟩) HN1.out.lt HRN1.out).trans z1⟩) | (exact ⟨put_far ((ho.2.cell (p := ⟨w1.heap.size, 0, none⟩) HN3.out.lt HNE.out).trans s0) HN32.out _ _, put_far ((ho.2.cell (p := ⟨w1.heap.size, 1, none⟩) HN3.out.lt HNE.out).trans s1) HN32.out _ _, put_far ((ho.2.cell (p := ⟨w.heap.size + 1, 1, none⟩) HN1.out.lt HRN1.out).trans z1) HN12.out _ _⟩) | go_keep)
    ((go_at_call 28; refine (HBY.out _ HR3.out.drew).mono ?_; rintro e w5 ⟨rfl, ho⟩; have q0 := (HN2.out.foot (S := fun k => k = r) (w' := w5) ⟨ho.2.os, ho.2.tape, ho.2.output, ho.2.size, ho.2.block⟩ HRN.out).cell 0; have q1 := (HN2.out.foot (S := fun k => k = r) (w' := w5) ⟨ho.2.os, ho.2.tape, ho.2.output, ho.2.size, ho.2.block⟩ HRN.out).cell 1; have q2 := (HN2.out.foot (S := fun k => k = r) (w' := w5) ⟨ho.2.os, ho.2.tape, ho.2.output, ho.2.size, ho.2.block⟩ HRN.out).frozen 0; have q3 := (HN2.out.foot (S := fun k => k = r) (w' := w5) ⟨ho.2.os, ho.2.tape, ho.2.output, ho.2.size, ho.2.block⟩ HRN.out).frozen 1; simp only [List.getElem?_toArray, List.getElem?_cons_succ, List.getElem?_cons_zero] at q0 q1))
  all_goals go_wp2
  all_goals exact bodyPost_ret (v := .tuple #[.agg #[.slice p1 n1 c1, .int .i64 (st1.code : Int)], .bool true]) (by simp [results, Try.results14, go_sem, q0, q1, q2, q3]) rfl ⟨⟨_, rfl, by rw [HST.out]; exact (HCL.out _ ho).1⟩, by rw [HST.out]; exact (HCL.out _ ho).2⟩

set_option maxHeartbeats 1600000 in
theorem read_3 (r : Nat) (p : Option Addr) (n c : Nat) (y : Int) (st : RS) (kind x : Nat) (pb : Option Addr) (nb cb : Nat) (most : Int) (hk : kind < 256) (h5 : kind % 5 = 3) (hm : -9223372036854775808 ≤ most ∧ most ≤ 9223372036854775807) (G : Nat → Prop) (w : World)
    (hG : ∀ k, G k → k < r) (hv : RsV w G (.agg #[.slice p n c, .int .i64 y]) st) (hr : RdAt w r st) :
    Calls Try.prog 14 #[.pointer (some ⟨r, 0, none⟩), .agg #[.slice p n c, .int .i64 y], .agg #[.int .u8 (kind : Int), .int .u64 (x : Int), .slice pb nb cb, .int .i64 most]] w fun e w' => ReadOut w w' r G e (bytesOf most (rdNum st)).1 := by
  have t0 : ((kind : Int) % 5 == 0) = false := by rw [beq_eq_false_iff_ne]; omega
  have t1 : ((kind : Int) % 5 == 1) = false := by rw [beq_eq_false_iff_ne]; omega
  have t2 : ((kind : Int) % 5 == 2) = false := by rw [beq_eq_false_iff_ne]; omega
  have t3 : ((kind : Int) % 5 == 3) = true := by rw [beq_iff_eq]; omega
  have hb0 := below_pre (below_alloc2 w (.cells #[.slice p n c, .int .i64 y] 39) (.cells #[.int .u8 (kind : Int), .int .u64 (x : Int), .slice pb nb cb, .int .i64 most] 29)) (below_alloc _ (.cells #[.slice none 0 0, .int .i64 0] 39))
  have hrl := hr.lt
  have hN2 := Blk.new ((w.alloc (.cells #[.slice p n c, .int .i64 y] 39)).alloc (.cells #[.int .u8 (kind : Int), .int .u64 (x : Int), .slice pb nb cb, .int .i64 most] 29)) 39 #[.slice none 0 0, .int .i64 0]
  have hN1 := (Blk.new (w.alloc (.cells #[.slice p n c, .int .i64 y] 39)) 29 #[.int .u8 (kind : Int), .int .u64 (x : Int), .slice pb nb cb, .int .i64 most]).alloc (.cells #[.slice none 0 0, .int .i64 0] 39)
  simp only [World.size_alloc] at hN2 hN1
  have hg := GetBytes_any _ st most hm.2 G _ (fun k hk => by have := hG k hk; have := hb0.size; omega) (hv.later hb0)
  have HR := Lib.hid hr
  have HRL := Lib.hid hrl
  have HGG := Lib.hid hG
  clear h5 hv hr hG
  go_enter Try.func14, Try.ntmps14
  go_wp2_with fail
  refine hg.mono ?_
  clear hg
  rintro e w1 ⟨⟨v1, xs, rfl, hv1, hxs⟩, hb1⟩
  obtain ⟨p1, n1, c1, rfl⟩ := hv1.shape
  obtain ⟨hc, hf⟩ := old_cells hb1
  generalize hst : (bytesOf most (rdNum st)).1 = st1 at *
  have HST := Lib.hid hst
  clear hst
  have hb3 := (below_pre hb0 hb1).alloc (by have := hb0.size; have := hb1.size; omega) (.cells #[.slice p1 n1 c1, .int .i64 (st1.code : Int)] 39)
  have hN2' := (hN2.below hb1 hN2.lt).alloc (.cells #[.slice p1 n1 c1, .int .i64 (st1.code : Int)] 39)
  have hN1' := (hN1.below hb1 hN1.lt).alloc (.cells #[.slice p1 n1 c1, .int .i64 (st1.code : Int)] 39)
  have hN3 := Blk.new w1 39 #[.slice p1 n1 c1, .int .i64 (st1.code : Int)]
  have hne3 : w1.heap.size ≠ r := by have := hb0.size; have := hb1.size; omega
  have hv3 := (hv1.later hb1).later (below_alloc w1 (.cells #[.slice p1 n1 c1, .int .i64 (st1.code : Int)] 39))
  have HR3 := Lib.hid (HR.out.below hb3 (Nat.le_refl _))
  have HCL := Lib.hid (fun W5 (ho : RdOut (w1.alloc (.cells #[.slice p1 n1 c1, .int .i64 (st1.code : Int)] 39)).drew W5 r st1) => read_close hb3 HRL.out HGG.out hv3 ho (show w.heap.size ≤ w.heap.size + 1 + 1 by omega) (.slice p1 n1 c1) (.int .i64 (st1.code : Int)))
  have s0 := hN3.cell 0
  have s1 := hN3.cell 1
  simp only [List.getElem?_toArray, List.getElem?_cons_succ, List.getElem?_cons_zero] at s0 s1
  have hxs3 := (hxs.below hb1 (fun k hk _ => hk)) |>.alloc (.cells #[.slice p1 n1 c1, .int .i64 (st1.code : Int)] 39)
  have HN2 := Lib.hid hN2'
  have HN3 := Lib.hid hN3
  have HN1 := Lib.hid hN1'
  have HRN := Lib.hid (show w.heap.size + 1 + 1 ≠ r by have := HRL.out; omega)
  have HRN1 := Lib.hid (show w.heap.size + 1 ≠ r by have := HRL.out; omega)
  have HNE := Lib.hid hne3
  have HN32 := Lib.hid (show w1.heap.size ≠ w.heap.size + 1 + 1 by have h := hN2.lt; simp at h; have := hb1.size; simp at this; omega)
  clear hb1 hb3 hN2 hN1 hN2' hN1' hN3 hv1 hv3 hb0 hne3 hrl
  generalize hsx : (bytesOf most (rdNum st)).2 = l at *
  have HBY : Hid (∀ W, RdAt W r st → Calls Try.prog 22 #[.pointer (some ⟨r, 0, none⟩), .int .i64 most] W (fun e w' => (∃ v, e = .returned v ∧ w'.ownsRow W.heap.size 5 1 v l.length (l.map bV)) ∧ RdOut W w' r st1)) := Lib.hid (fun W h => by have hq := RdBytes_any r _ most hm W h; rw [HST.out, hsx] at hq; exact hq)
  clear hsx
  have z1 := HN1.out.cell 3
  simp only [List.getElem?_toArray, List.getElem?_cons_succ, List.getElem?_cons_zero] at z1
  have HN12 := Lib.hid (show w.heap.size + 1 ≠ w.heap.size + 1 + 1 by omega)
  generalize htxt : (ByteArray.mk l.toArray) = txt
  have HTX := Lib.hid htxt
  have HX3 := Lib.hid hxs3
  obtain ⟨px, cx, rfl, _⟩ := hxs3
  have hcv0 := text_rv 25 5 9 Try.underlying25 Try.underlying5 Try.underlying9 (RV.drew HX3.out)
  rw [HTX.out] at hcv0
  have HX5 : Hid (∀ w5, RdOut (w1.alloc (.cells #[.slice p1 n1 c1, .int .i64 (st1.code : Int)] 39)).drew w5 r st1 → RV w5 G (.slice px l.length cx) l.length 1 (l.map bV)) := Lib.hid (fun w5 ho => HX3.out.foot (S := fun k => k = r) (w' := w5) ⟨ho.2.os, ho.2.tape, ho.2.output, ho.2.size, ho.2.block⟩ (fun k hk (e : k = r) => by have := HGG.out k hk; omega))
  have HXF : Hid (∀ w5 x y, RdOut (w1.alloc (.cells #[.slice p1 n1 c1, .int .i64 (st1.code : Int)] 39)).drew w5 r st1 → RV ((w5.setCell ⟨w.heap.size + 1 + 1, 0, none⟩ x).setCell ⟨w.heap.size + 1 + 1, 1, none⟩ y) G (.slice px l.length cx) l.length 1 (l.map bV)) := Lib.hid (fun w5 x y ho => (HX5.out w5 ho).foot (((Foot.refl (fun k => k = w.heap.size + 1 + 1) w5).setCell (p := ⟨w.heap.size + 1 + 1, 0, none⟩) (.inl rfl) x).setCell (p := ⟨w.heap.size + 1 + 1, 1, none⟩) (.inl rfl) y) (fun k hk (e : k = w.heap.size + 1 + 1) => by have := HGG.out k hk; have := HRL.out; omega))
  clear htxt
  go_wp2
  go_region_with ((go_at_call 22; refine (HBY.out _ HR3.out.drew).mono ?_; rintro e w5 ⟨⟨v5, rfl, hown5⟩, ho⟩; have q0 := (HN2.out.foot (S := fun k => k = r) (w' := w5) ⟨ho.2.os, ho.2.tape, ho.2.output, ho.2.size, ho.2.block⟩ HRN.out).cell 0; have q1 := (HN2.out.foot (S := fun k => k = r) (w' := w5) ⟨ho.2.os, ho.2.tape, ho.2.output, ho.2.size, ho.2.block⟩ HRN.out).cell 1; have q2 := (HN2.out.foot (S := fun k => k = r) (w' := w5) ⟨ho.2.os, ho.2.tape, ho.2.output, ho.2.size, ho.2.block⟩ HRN.out).frozen 0; have q3 := (HN2.out.foot (S := fun k => k = r) (w' := w5) ⟨ho.2.os, ho.2.tape, ho.2.output, ho.2.size, ho.2.block⟩ HRN.out).frozen 1; simp only [List.getElem?_toArray, List.getElem?_cons_succ, List.getElem?_cons_zero] at q0 q1; have u0 := (ho.2.cell (p := ⟨w1.heap.size, 0, none⟩) HN3.out.lt HNE.out).trans s0; have u1 := (ho.2.cell (p := ⟨w1.heap.size, 1, none⟩) HN3.out.lt HNE.out).trans s1; have hcB5 := text_rv 25 5 9 Try.underlying25 Try.underlying5 Try.underlying9 (HX5.out _ ho); have hcB6 := text_rv 25 5 9 Try.underlying25 Try.underlying5 Try.underlying9 (HXF.out w5 (.slice p1 n1 c1) (.int .i64 (st1.code : Int)) ho); have hcA := text_rv 25 5 9 Try.underlying25 Try.underlying5 Try.underlying9 (RV.of_own hown5); have hlt5 := hown5.lt; have hcA2 := text_rv 25 5 9 Try.underlying25 Try.underlying5 Try.underlying9 ((RV.of_own hown5).foot (((Foot.refl (fun k => k = w.heap.size + 1 + 1) w5).setCell (p := ⟨w.heap.size + 1 + 1, 0, none⟩) (.inl rfl) (.slice p1 n1 c1)).setCell (p := ⟨w.heap.size + 1 + 1, 1, none⟩) (.inl rfl) (.int .i64 (st1.code : Int))) (fun k hk (e : k = w.heap.size + 1 + 1) => by have h1 := (hlt5 k hk).1; have h2 := HN2.out.lt; simp at h1 h2; have := HN32.out; omega)); clear hlt5; rw [HTX.out] at hcA hcA2 hcB5 hcB6; obtain ⟨p5, c5, rfl, _⟩ := RV.of_own hown5; clear hown5))
  all_goals go_wp2
  all_goals exact bodyPost_ret (v := .tuple #[.agg #[.slice p1 n1 c1, .int .i64 (st1.code : Int)], .bool true]) (by simp [results, Try.results14, go_sem, q0, q1, q2, q3]) rfl ⟨⟨_, rfl, by rw [HST.out]; exact (HCL.out _ ho).1⟩, by rw [HST.out]; exact (HCL.out _ ho).2⟩
end Go.Proofs.Ytpdlfelmdnkjdaa
