/- DeedParses. -/
import Derived.Test.YtbjmdcjoaapmiaaDoorD28
namespace Go.Proofs.YtbjmdcjoaapmiaaDoor
open Go.RowKit

set_option maxHeartbeats 2000000 in
theorem parses_walk (s : ByteArray) (w : World) (hT : Tabs w) :
    Calls Tryd.prog 5 #[.string s] w fun e w' => e = .returned (.bool true) ∧ Below w.heap.size w w' := by
  obtain ⟨S, hS, hcut⟩ : ∃ S : ByteArray, S.size ≤ 200 ∧ ((200 < s.size ∧ S = s.extract 0 200) ∨ (¬ 200 < s.size ∧ S = s)) := by
    by_cases h : 200 < s.size
    · exact ⟨s.extract 0 200, by rw [ByteArray.size_extract]; omega, .inl ⟨h, rfl⟩⟩
    · exact ⟨s, by omega, .inr ⟨h, rfl⟩⟩
  have hp := Parse_any S (by omega)
  have hrp := RParse_any S (by omega)
  generalize parseD S.data.toList = R at *
  obtain ⟨D, y⟩ := R
  simp only [Deed.val] at hp hrp
  have heq := eq_run D D
  rw [(eqD_iff D D).2 rfl] at heq
  have hyy : ((y : Int) == (y : Int)) = true := by simp
  have HA := Lib.hid awake_any
  clear hS
  rcases hcut with ⟨h, rfl⟩ | ⟨h, rfl⟩
  all_goals
    go_enter Tryd.func5, Tryd.ntmps5
    go_wp2_with (first
      | (go_at_call 16; (with_reducible refine (hp _).mono ?_); clear hp; rintro e w1 ⟨rfl, hb1⟩)
      | (go_at_call 18; (with_reducible refine (hrp _).mono ?_); clear hrp; rintro e w2 ⟨rfl, hb2⟩; replace hbx := hbx.below hb2 hbx.lt; have hbw2 := below_pre hbw1 hb2)
      | (refine wpList_alloc_agg rfl 24 rfl zeroD.cells zeroR ?_)
      | (refine wpList_store_row rfl 24 _ _ rfl w2.heap.size D.cells rfl rfl 24 _ (heap_alloc_new w2 _) (sizeD _) rfl (oneD _) ?_; rw [World.setRow_alloc_new]; have hby := Blk.new w2 24 D.cells; replace hbx := hbx.alloc (.cells D.cells 24); have hbw3 : Below w.heap.size w (w2.alloc (.cells D.cells 24)) := hbw2.alloc hbw2.size _)
      | (refine wpList_store_row rfl 24 _ _ rfl w1.heap.size D.cells rfl rfl 24 _ (heap_alloc_new w1 _) (sizeD _) rfl (oneD _) ?_; rw [World.setRow_alloc_new]; have hbx := Blk.new w1 24 D.cells; have hbw1 : Below w.heap.size w (w1.alloc (.cells D.cells 24)) := hb1.alloc hb1.size _)
      | (refine wpList_load_row rfl 24 _ rfl w1.heap.size rfl 24 _ (0, 0) _ hbx Tryd.underlying24 rfl (sizeD _) ?_)
      | (refine wpList_load_row rfl 24 _ rfl w2.heap.size rfl 24 _ (0, 0) _ hby Tryd.underlying24 rfl (sizeD _) ?_)
      | (go_at_call 14; refine (HA.out _ (hT.below hbw3 (Nat.le_refl _))).mono ?_; rintro e w4 ⟨rfl, hb4⟩; have hbw4 := below_pre hbw3 hb4))
    go_ret
    exact ⟨rfl, hbw4⟩
end Go.Proofs.YtbjmdcjoaapmiaaDoor
