/- The contracts of the reference's reading: fail and GetByte. -/
import Derived.Test.YtpdlfelmdnkjdaaW9
import Derived.Laws.ResultCell
namespace Go.Proofs.Ytpdlfelmdnkjdaa
open Go.RowKit

theorem below_alloc2 (w : World) (a b : Obj) : Below w.heap.size w ((w.alloc a).alloc b) := below_pre (below_alloc w a) (below_alloc _ b)

set_option maxHeartbeats 400000 in
theorem Rfail_ok (p : Option Addr) (n c : Nat) (x : Int) (w : World) :
    Calls Try.prog 43 #[.agg #[.slice p n c, .int .i64 0], .int .i64 x] w fun e w' => e = .returned (.agg #[.slice none 0 0, .int .i64 x]) ∧ Below w.heap.size w w' := by
  have hb := below_alloc2 w
  go_enter Try.func43, Try.ntmps43
  go_wp2
  exact bodyPost_ret (v := .agg #[.slice none 0 0, .int .i64 x]) (by simp [results, Try.results43, go_sem]) rfl ⟨rfl, hb _ _⟩
set_option maxHeartbeats 400000 in
theorem Rfail_err (e : Nat) (he : 0 < e) (x : Int) (w : World) :
    Calls Try.prog 43 #[.agg #[.slice none 0 0, .int .i64 e], .int .i64 x] w fun e' w' => e' = .returned (.agg #[.slice none 0 0, .int .i64 e]) ∧ Below w.heap.size w w' := by
  have ht : ((e : Int) == 0) = false := by rw [beq_eq_false_iff_ne]; omega
  have hb := below_alloc2 w
  clear he
  go_enter Try.func43, Try.ntmps43
  go_wp2
  exact bodyPost_ret (v := .agg #[.slice none 0 0, .int .i64 e]) (by simp [results, Try.results43, go_sem]) rfl ⟨rfl, hb _ _⟩

/-- Behind a call that makes memory alone, what was there reads as it did. -/
theorem old_cells {W w1 : World} (hb : Below W.heap.size W w1) : (∀ b o, b < W.heap.size → w1.cell? ⟨b, o, none⟩ = W.cell? ⟨b, o, none⟩) ∧ (∀ b o, b < W.heap.size → w1.frozen? ⟨b, o, none⟩ = W.frozen? ⟨b, o, none⟩) :=
  ⟨fun b o h => hb.cell (p := ⟨b, o, none⟩) h, fun b o h => hb.frozen (p := ⟨b, o, none⟩) h⟩
theorem below_res {w w1 : World} {a b : Obj} (hb : Below ((w.alloc a).alloc b).heap.size ((w.alloc a).alloc b) w1) (x y : Value) : Below w.heap.size w ((w1.setCell ⟨w.heap.size + 1, 0, none⟩ x).setCell ⟨w.heap.size + 1, 1, none⟩ y) :=
  ((below_pre (below_alloc2 w a b) hb).setCell (p := ⟨w.heap.size + 1, 0, none⟩) (by show w.heap.size ≤ w.heap.size + 1; omega) x).setCell (p := ⟨w.heap.size + 1, 1, none⟩) (by show w.heap.size ≤ w.heap.size + 1; omega) y

/-- A state of the reference, as a value. -/
def RsV (w : World) (G : Nat → Prop) (v : Value) : RS → Prop
  | .ok l => (∃ sl, v = .agg #[sl, .int .i64 0] ∧ RV w G sl l.length 1 (l.map bV)) ∧ l.length ≤ 4000
  | .err e => v = .agg #[.slice none 0 0, .int .i64 (e : Int)] ∧ 0 < e
theorem RsV.nil {w : World} {G : Nat → Prop} {e : Nat} (he : 0 < e) : RsV w G (.agg #[.slice none 0 0, .int .i64 (e : Int)]) (.err e) := ⟨rfl, he⟩
theorem RsV.below {w w' : World} {B : Nat} {v : Value} {st : RS} (h : RsV w (fun k => k < B) v st) (hb : Below B w w') : RsV w' (fun k => k < B) v st := by
  cases st with
  | ok l => obtain ⟨⟨sl, hv, hr⟩, hl⟩ := h; exact ⟨⟨sl, hv, hr.below hb (fun k _ hk => hk)⟩, hl⟩
  | err e => exact h

set_option maxHeartbeats 800000 in
theorem GetByte_err (e : Nat) (he : 0 < e) (w : World) :
    Calls Try.prog 34 #[.agg #[.slice none 0 0, .int .i64 e]] w fun e' w' => e' = .returned (.tuple #[.agg #[.slice none 0 0, .int .i64 e], .int .u8 0]) ∧ Below w.heap.size w w' := by
  have ht : ((e : Int) != 0) = true := by rw [bne_iff_ne]; omega
  have hb := Lib.hid (below_alloc2 w)
  have hf := Rfail_err e he 2
  clear he
  go_enter Try.func34, Try.ntmps34
  go_wp2_with fail
  refine (hf _).mono ?_
  clear hf
  rintro e' w1 ⟨rfl, hb1⟩
  have HR := Lib.hid (fun x y => below_res hb1 x y)
  obtain ⟨hc, hf⟩ := old_cells hb1
  have hz : w.heap.size + 1 < w1.heap.size := by have := hb1.size; simp at this; omega
  clear hb1
  go_wp2
  exact bodyPost_ret (v := .tuple #[.agg #[.slice none 0 0, .int .i64 e], .int .u8 0]) (by simp [results, Try.results34, go_sem, hc, hz]) rfl ⟨rfl, HR.out _ _⟩

set_option maxHeartbeats 800000 in
theorem GetByte_nil (p : Option Addr) (c : Nat) (w : World) :
    Calls Try.prog 34 #[.agg #[.slice p 0 c, .int .i64 0]] w fun e' w' => e' = .returned (.tuple #[.agg #[.slice none 0 0, .int .i64 2], .int .u8 0]) ∧ Below w.heap.size w w' := by
  have hf := Rfail_ok p 0 c 2
  go_enter Try.func34, Try.ntmps34
  go_wp2_with fail
  refine (hf _).mono ?_
  clear hf
  rintro e' w1 ⟨rfl, hb1⟩
  have HR := Lib.hid (fun x y => below_res hb1 x y)
  obtain ⟨hc, hf⟩ := old_cells hb1
  have hz : w.heap.size + 1 < w1.heap.size := by have := hb1.size; simp at this; omega
  clear hb1
  go_wp2
  exact bodyPost_ret (v := .tuple #[.agg #[.slice none 0 0, .int .i64 2], .int .u8 0]) (by simp [results, Try.results34, go_sem, hc, hz]) rfl ⟨rfl, HR.out _ _⟩

set_option maxHeartbeats 800000 in
theorem GetByte_cons (p : Option Addr) (cp : Nat) (c : UInt8) (l : List UInt8) (G : Nat → Prop) (w : World) (hr : RV w G (.slice p (c :: l).length cp) (c :: l).length 1 ((c :: l).map bV)) :
    Calls Try.prog 34 #[.agg #[.slice p (c :: l).length cp, .int .i64 0]] w fun e' w' => (∃ sl, e' = .returned (.tuple #[.agg #[sl, .int .i64 0], .int .u8 (c.toNat : Int)]) ∧ RV w G sl l.length 1 (l.map bV)) ∧ Below w.heap.size w w' := by
  have hrest := hr.rest 1 (by simp)
  obtain ⟨p', cp', hv, hn, hm, _, _, hcell⟩ := hr
  cases hv
  obtain ⟨b, off, rfl, hb, _, hcell⟩ := hcell.resolve_left (by simp)
  have h0 : w.cell? ⟨b, off, none⟩ = some (.int .u8 (c.toNat : Int)) := hcell 0 _ rfl
  unfold maxLen at hm
  rw [List.length_cons] at *
  simp only [Nat.add_sub_cancel, Nat.mul_one, List.map_cons, List.drop_succ_cons, List.drop_zero] at hrest
  clear hcell
  have HR := Lib.hid hrest
  clear hrest
  have hbb := Lib.hid (below_alloc2 w)
  by_cases h1 : cp = 1
  · subst h1
    obtain rfl : l = [] := List.length_eq_zero_iff.1 (by omega)
    go_enter Try.func34, Try.ntmps34
    go_wp2
    go_region
    all_goals go_wp2
    exact bodyPost_ret (v := .tuple #[.agg #[.slice (some ⟨b, off, none⟩) 0 0, .int .i64 0], .int .u8 (c.toNat : Int)]) (by simp [results, Try.results34, go_sem]) rfl ⟨⟨_, rfl, by simpa using HR.out⟩, (hbb.out _ _).drew⟩
  · go_enter Try.func34, Try.ntmps34
    go_wp2
    go_region
    all_goals go_wp2
    exact bodyPost_ret (v := .tuple #[.agg #[.slice (some ⟨b, off + 1, none⟩) l.length (cp - 1), .int .i64 0], .int .u8 (c.toNat : Int)]) (by simp [results, Try.results34, go_sem]) rfl ⟨⟨_, rfl, by have := HR.out; rw [if_neg h1] at this; simpa [Addr.add] using this⟩, (hbb.out _ _).drew⟩
end Go.Proofs.Ytpdlfelmdnkjdaa
