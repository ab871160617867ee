/- The contracts of deed's operands: the operations' lists. -/
import Derived.Test.YtbjmdcjoaapmiaaDoorD1
import Derived.Test.YtbjmdcjoaapmiaaDoorB4
namespace Go.Proofs.YtbjmdcjoaapmiaaDoor
open Go.RowKit

/-- An operand as a value. -/
def oV (o : Nat) : Value := .int .i64 (o : Int)
theorem oV_one (o : Nat) : (oV o).oneCell' = true := rfl
theorem infoO : (Tryd.prog.info? 67).map (fun i => (i.zero, i.size, i.bytes)) = some (some (.int .i64 0), 1, 8) := by kernel_rfl
set_option maxHeartbeats 8000000 in
theorem operands_any (op : Int) (h : isOp op = true) (w : World) :
    Calls Tryd.prog 33 #[.int .i64 op] w fun e w' => ∃ v, e = .returned v ∧ w'.ownsRow w.heap.size 67 1 v (opr op).length ((opr op).map oV) ∧ Below w.heap.size w w' := by
  obtain ⟨i0, hi, hz0, hz1, hz2⟩ := info_parts infoO
  rcases isOp_cases h with rfl | rfl | rfl | rfl | rfl | rfl | rfl | rfl | rfl | rfl | rfl
  all_goals
    clear h
    have hown : w.ownsRow w.heap.size 67 1 (.slice none 0 0) 0 [] := World.ownsRow_nil _ _ _ _
    have g : Hid (Below w.heap.size w w) := Lib.hid (Below.refl _ _)
    go_enter Tryd.func33, Tryd.ntmps33
    go_wp2_with (at_builtin; refine wpList_append_lits rfl _ _ 65 rfl w.heap.size 67 i0 (.int .i64 0) 8 Tryd.underlying65 hi hz0 hz1 hz2 rfl (by decide) hown rfl _ rfl rfl rfl (by omega) (by have := g.out.size; omega) ?_; clear hown; intro v' w1 hown hb1 _ _; replace g := Lib.hid (g.out.trans hb1); clear hb1)
    go_ret
    exact ⟨_, rfl, hown, g.out⟩
end Go.Proofs.YtbjmdcjoaapmiaaDoor
