/- The contracts of the writer's Done, and of the statements' own laid and write of a thing. -/
import Derived.Test.YtbjmdcjoaapmiaaDoorW3
namespace Go.Proofs.YtbjmdcjoaapmiaaDoor.Wire
open Go.RowKit

set_option maxHeartbeats 400000 in
theorem WDone_full {B b most : Nat} {v : Value} (w : World) (h : WrAt w B b most v none) :
    Calls Tryd.prog 21 #[.pointer (some ⟨b, 0, none⟩)] w fun e w' => e = .returned (.tuple #[.slice none 0 0, .int .i64 4]) ∧ Below w.heap.size w w' := by
  have h1 : w.cell? ⟨b, 0, none⟩ = some (.int .i64 4) := h.2.2.cell 0
  have hf := failed_yes b 4 (by decide) w h1
  clear h
  go_enter Tryd.func21, Tryd.ntmps21
  go_wp2_with (go_at_call 50; refine hf.mono ?_; clear hf; rintro e w' ⟨rfl, rfl⟩)
  go_quiet (fail)
  go_wp2
  go_ret2
  exact ⟨rfl, (Foot.refl _ w).drewN _ |>.below (Nat.le_refl _) (S := fun _ => False) (fun k hk => hk.elim)⟩

set_option maxHeartbeats 400000 in
theorem WDone_some {B b most : Nat} {v : Value} (w : World) (l : List UInt8) (hl : l.length ≤ 5000) (h : WrAt w B b most v (some l)) :
    Calls Tryd.prog 21 #[.pointer (some ⟨b, 0, none⟩)] w fun e w' => ∃ x, e = .returned (.tuple #[x, .int .i64 0]) ∧ w'.ownsRow w.heap.size 5 1 x l.length (l.map bV) ∧ Below w.heap.size w w' := by
  obtain ⟨_, _, hblk, hown, _⟩ := h
  have h1 : w.cell? ⟨b, 0, none⟩ = some (.int .i64 0) := hblk.cell 0
  have h2 : w.cell? ⟨b, 2, none⟩ = some v := hblk.cell 2
  have hf := failed_no b w h1
  have hr := RV.of_own hown
  have hc := Clone_any w v l (by omega) _ hr
  obtain ⟨p, c, rfl, _⟩ := hr
  clear hown hblk
  go_enter Tryd.func21, Tryd.ntmps21
  go_wp2_with (first | (go_at_call 50; refine hf.mono ?_; clear hf; rintro e w' ⟨rfl, rfl⟩) | (go_at_call 51; refine hc.mono ?_; clear hc; rintro e w' ⟨x, rfl, hown, hb⟩))
  go_ret2
  exact ⟨x, rfl, hown, hb⟩

end Go.Proofs.YtbjmdcjoaapmiaaDoor.Wire
