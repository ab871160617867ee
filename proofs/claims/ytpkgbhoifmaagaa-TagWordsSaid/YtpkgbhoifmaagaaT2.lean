/- The contract of package tag's Of. -/
import Derived.Test.YtpkgbhoifmaagaaT1
import Derived.WalkSpells
import Derived.Deep.RegionWith
namespace Go.Proofs.Ytpkgbhoifmaagaa
open Go.RowKit

theorem old_cells {W w1 : World} (hb : Below W.heap.size W w1) : (∀ b o, b < W.heap.size → w1.cell? ⟨b, o, none⟩ = W.cell? ⟨b, o, none⟩) ∧ (∀ b o, b < W.heap.size → w1.frozen? ⟨b, o, none⟩ = W.frozen? ⟨b, o, none⟩) :=
  ⟨fun b o h => hb.cell (p := ⟨b, o, none⟩) h, fun b o h => hb.frozen (p := ⟨b, o, none⟩) h⟩
theorem below_res {w w1 : World} {a b : Obj} (hb : Below ((w.alloc a).alloc b).heap.size ((w.alloc a).alloc b) w1) (x y : Value) : Below w.heap.size w ((w1.setCell ⟨w.heap.size, 0, none⟩ x).setCell ⟨w.heap.size, 1, none⟩ y) :=
  ((below_pre (below_alloc2 w a b) hb).setCell (p := ⟨w.heap.size, 0, none⟩) (Nat.le_refl _) x).setCell (p := ⟨w.heap.size, 1, none⟩) (Nat.le_refl _) y

set_option maxHeartbeats 800000 in
theorem Of_any (x : Nat) (hx : x < 18446744073709551616) (w : World) :
    Calls Try.prog 11 #[.int .u64 (x : Int)] w fun e w' => e = .returned (.tuple #[.agg #[.int .u64 (ofS x : Nat), .int .i64 (ofK x : Nat)], .bool (okW x)]) ∧ Below w.heap.size w w' := by
  have hv := valid_any (x / 256) ((x : Int) % 256)
  rw [show ((x / 256 : Nat) : Int) = (x : Int) / 256 by omega] at hv
  rw [show goodT (x / 256) ((x : Int) % 256) = okW x by unfold goodT okW lastN; rw [Bool.eq_iff_iff]; simp; omega] at hv
  have hv := Lib.hid hv
  have hbr := Lib.hid (fun a b w1 => @below_res w w1 a b)
  have hs : (ofS x : Int) = if okW x then (x : Int) / 256 else 0 := by unfold ofS; split <;> simp
  have hk : (ofK x : Int) = if okW x then (x : Int) % 256 else 0 := by unfold ofK; split <;> simp
  have hx := Lib.hid hx
  cases ho : okW x with
  | true =>
    rw [ho] at hv hs hk
    simp only [if_true] at hs hk
    rw [hs, hk]
    clear hs hk ho
    go_enter Try.func11, Try.ntmps11
    go_wp2_with (go_at_call 21; refine (hv.out _).mono ?_; rintro e w1 ⟨rfl, hb1⟩; have HR := Lib.hid (hbr.out _ _ _ hb1); obtain ⟨hc, hf⟩ := old_cells hb1; have c0 := hc (w.heap.size + 1) 0 (by simp); have c1 := hc (w.heap.size + 1) 1 (by simp); have r0 := hc w.heap.size 0 (by simp; omega); have r1 := hc w.heap.size 1 (by simp; omega); have f0 := hf w.heap.size 0 (by simp; omega); have f1 := hf w.heap.size 1 (by simp; omega); clear hc hf; simp [go_sem] at c0 c1 r0 r1 f0 f1; have hz : w.heap.size + 1 < w1.heap.size := (by have := hb1.size; simp at this; omega); clear hb1)
    exact bodyPost_ret (v := .tuple #[.agg #[.int .u64 ((x : Int) / 256), .int .i64 ((x : Int) % 256)], .bool true]) (by simp [results, Try.results11, go_sem, c0, c1, r0, r1, f0, f1, hz]) rfl ⟨rfl, HR.out _ _⟩
  | false =>
    rw [ho] at hv hs hk
    simp only [Bool.false_eq_true, if_false] at hs hk
    rw [hs, hk]
    clear hs hk ho
    go_enter Try.func11, Try.ntmps11
    go_wp2_with (go_at_call 21; refine (hv.out _).mono ?_; rintro e w1 ⟨rfl, hb1⟩; have HR := Lib.hid (hbr.out _ _ _ hb1); obtain ⟨hc, hf⟩ := old_cells hb1; have r0 := hc w.heap.size 0 (by simp; omega); have r1 := hc w.heap.size 1 (by simp; omega); have f0 := hf w.heap.size 0 (by simp; omega); have f1 := hf w.heap.size 1 (by simp; omega); clear hc hf; simp [go_sem] at r0 r1 f0 f1; have hz : w.heap.size + 1 < w1.heap.size := (by have := hb1.size; simp at this; omega); clear hb1)
    exact bodyPost_ret (v := .tuple #[.agg #[.int .u64 0, .int .i64 0], .bool false]) (by simp [results, Try.results11, go_sem, r0, r1, f0, f1, hz]) rfl ⟨rfl, HR.out _ _⟩
end Go.Proofs.Ytpkgbhoifmaagaa
