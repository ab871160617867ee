/- The page's examples: awake. -/
import Derived.Test.YtbjmdcjoaapmiaaDoorD23
namespace Go.Proofs.YtbjmdcjoaapmiaaDoor
open Go.RowKit

theorem ex_yield : parseD (ByteArray.mk #[121, 105, 101, 108, 100, 32, 49]).data.toList = (zeroD, 3) := rfl
theorem ex_work : parseD (ByteArray.mk #[119, 111, 114, 107, 32, 48]).data.toList = (zeroD, 5) := rfl
def exD : Deed := ⟨10, 3, 0, 0, 20, 0, false⟩
theorem exD_ok : exD.ok := ⟨by decide, by decide, by decide, by decide, by decide, by decide⟩
theorem ex_line : lineD exD = [116, 105, 109, 101, 100, 32, 51, 32, 50, 48] := by
  have h3 : Lib.decDigits 3 = [51] := by rw [Lib.decDigits_one (by decide)]; rfl
  have h20 : Lib.decDigits 20 = [50, 48] := by rw [decDigits_big (by decide), Lib.decDigits_one (by decide)]; rfl
  have hg : goodD exD = true := rfl
  unfold lineD
  rw [if_pos hg]
  show [116, 105, 109, 101, 100] ++ (textN 0 3 ++ (textN 4 20 ++ [])) = _
  unfold textN
  rw [h3, h20]
  rfl

set_option maxHeartbeats 1000000 in
theorem awake_any (w : World) (hT : Tabs w) :
    Calls Tryd.prog 14 #[] w fun e w' => e = .returned (.bool true) ∧ Below w.heap.size w w' := by
  have hp1 : ∀ w, Calls Tryd.prog 16 #[.string ⟨#[121, 105, 101, 108, 100, 32, 49]⟩] w fun e w' => e = .returned (.tuple #[.agg zeroD.cells, .int .i64 3]) ∧ Below w.heap.size w w' := fun w => by
    have := Parse_any ⟨#[121, 105, 101, 108, 100, 32, 49]⟩ (by decide) w
    rw [ex_yield] at this
    exact this
  have hp2 : ∀ w, Calls Tryd.prog 16 #[.string ⟨#[119, 111, 114, 107, 32, 48]⟩] w fun e w' => e = .returned (.tuple #[.agg zeroD.cells, .int .i64 5]) ∧ Below w.heap.size w w' := fun w => by
    have := Parse_any ⟨#[119, 111, 114, 107, 32, 48]⟩ (by decide) w
    rw [ex_work] at this
    exact this
  have hl : ∀ w, Tabs w → Calls Tryd.prog 15 #[.agg #[.int .i64 10, .int .i64 3, .int .i64 0, .int .i64 0, .int .u64 20, .int .u64 0, .bool false]] w fun e w' => e = .returned (.string ⟨#[116, 105, 109, 101, 100, 32, 51, 32, 50, 48]⟩) ∧ Below w.heap.size w w' := fun w h => by
    have := Line_any exD exD_ok w h
    rw [ex_line] at this
    exact this
  go_enter Tryd.func14, Tryd.ntmps14
  go_wp2_with (first
    | (go_at_call 16; (with_reducible refine (hp1 _).mono ?_); clear hp1; rintro e w1 ⟨rfl, hb1⟩)
    | (go_at_call 16; (with_reducible refine (hp2 _).mono ?_); clear hp2; rintro e w2 ⟨rfl, hb2⟩)
    | (refine wpList_alloc_agg rfl 24 rfl zeroD.cells zeroR ?_)
    | (refine wpList_store_row rfl 24 _ _ rfl w2.heap.size zeroD.cells rfl rfl 24 _ (heap_alloc_new w2 _) (sizeD _) rfl (oneD _) ?_; rw [World.setRow_alloc_new]; have hbw1 : Below w.heap.size w (w1.alloc (.cells zeroD.cells 24)) := hb1.alloc hb1.size _; have hbw2 : Below w.heap.size w (w2.alloc (.cells zeroD.cells 24)) := (below_pre hbw1 hb2).alloc (below_pre hbw1 hb2).size _)
    | (refine wpList_store_row rfl 24 _ _ rfl w1.heap.size zeroD.cells rfl rfl 24 _ (heap_alloc_new w1 _) (sizeD _) rfl (oneD _) ?_; rw [World.setRow_alloc_new])
    | (go_at_call 15; refine (hl _ (hT.below hbw2 (Nat.le_refl _))).mono ?_; clear hl; rintro e w3 ⟨rfl, hb3⟩))
  go_ret
  exact ⟨rfl, below_pre hbw2 hb3⟩
end Go.Proofs.YtbjmdcjoaapmiaaDoor
