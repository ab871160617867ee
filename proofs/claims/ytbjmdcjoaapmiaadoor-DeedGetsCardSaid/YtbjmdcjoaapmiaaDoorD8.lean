/- The contract of deed's Calls. -/
import Derived.Test.YtbjmdcjoaapmiaaDoorD7
namespace Go.Proofs.YtbjmdcjoaapmiaaDoor
open Go.RowKit

def callsD (d : Deed) : Bool := d.op != 1 && goodD d
set_option maxHeartbeats 400000 in
theorem Calls_any (d : Deed) (hd : d.ok) (w : World) :
    Calls Tryd.prog 10 #[d.val] w fun e w' => e = .returned (.bool (callsD d)) ∧ Below w.heap.size w w' := by
  have hblk0 := Blk.new w 24 d.cells
  have hc0 : (w.alloc (.cells d.cells 24)).cell? ⟨w.heap.size, 0, none⟩ = some (.int .i64 d.op) := hblk0.cell 0
  have hg := Good_any d hd
  clear hd
  have hb := below_alloc1 w (.cells d.cells 24)
  unfold callsD
  simp only [Deed.val] at hg ⊢
  by_cases h : d.op = 1
  · have ht : (d.op != 1) = false := by simp [h]
    have hr : (d.op != 1 && goodD d) = false := by simp [h]
    rw [hr]
    clear hr h
    go_enter Tryd.func10, Tryd.ntmps10
    go_wp2_with (first | (refine wpList_box_agg rfl 24 _ rfl d.cells rfl ?_))
    go_ret
    exact ⟨rfl, hb⟩
  · have ht : (d.op != 1) = true := by simp [h]
    have hr : (d.op != 1 && goodD d) = goodD d := by simp [h]
    rw [hr]
    clear hr h
    go_enter Tryd.func10, Tryd.ntmps10
    go_wp2_with (first
      | (refine wpList_box_agg rfl 24 _ rfl d.cells rfl ?_)
      | (refine wpList_load_row_g rfl 24 _ rfl w.heap.size rfl 24 _ (0, 0) _ hblk0 Tryd.underlying24 rfl (sizeD _) ?_)
      | (go_at_call 8; with_reducible refine (hg _).mono ?_; rintro e w' ⟨rfl, hb2⟩))
    go_ret
    exact ⟨rfl, below_pre hb hb2⟩
end Go.Proofs.YtbjmdcjoaapmiaaDoor
