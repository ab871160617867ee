/- DeedLines and DeedParses. -/
import Derived.Test.YtbjmdcjoaapmiaaDoorD28
namespace Go.Proofs.YtbjmdcjoaapmiaaDoor
open Go.RowKit

theorem lineD_len (d : Deed) (hd : d.ok) : (lineD d).length ≤ 200 := by
  unfold lineD
  split
  · rename_i hg
    have h5 := opr_len d.op (good_op hg)
    have hn := nameD_len d.op
    have : ∀ os : List Nat, (os.flatMap (fun o => textN o (ofD o d))).length ≤ 21 * os.length := by
      intro os
      induction os with
      | nil => simp
      | cons o os ih =>
        rw [List.flatMap_cons, List.length_append, List.length_cons]
        have := textN_len o _ (ofD_lt o d hd)
        omega
    have := this (opr d.op)
    rw [List.length_append]
    omega
  · decide

set_option maxHeartbeats 2000000 in
theorem lines_walk (d : Deed) (hd : d.ok) (w : World) (hT : Tabs w) :
    Calls Tryd.prog 4 #[d.val] w fun e w' => e = .returned (.bool true) ∧ Below w.heap.size w w' := by
  have hline := Line_any d hd
  have hrline := RLine_any d hd
  have hrgood := RGood_any d
  obtain ⟨S, hS⟩ : ∃ S : ByteArray, S = ⟨(lineD d).toArray⟩ := ⟨_, rfl⟩
  have hSs : S.size ≤ 1000 := by rw [hS, size_mk]; have := lineD_len d hd; omega
  have hp := Parse_any S hSs
  rw [show S.data.toList = lineD d by rw [hS]] at hp
  unfold sV at hline hrline
  rw [← hS] at hline hrline
  have hst : (S.toList == S.toList) = true := by simp
  have hblk0 := Blk.new w 24 d.cells
  have hb0 := below_alloc1 w (.cells d.cells 24)
  have hres : (goodD d = true ∧ parseD (lineD d) = (d, 0)) ∨ (goodD d = false ∧ parseD (lineD d) = (zeroD, 15)) := by
    by_cases h : goodD d = true
    · exact .inl ⟨h, parse_line d hd h⟩
    · have h' : goodD d = false := by simpa using h
      refine .inr ⟨h', ?_⟩
      rw [show lineD d = [63] by unfold lineD; rw [if_neg h]]
      exact parse_bad
  clear hd hS hSs
  simp only [Deed.val] at hline hrline hrgood hp ⊢
  have HA := Lib.hid awake_any
  rcases hres with ⟨hg, hpr⟩ | ⟨hg, hpr⟩
  · have heq := eq_run d d
    rw [(eqD_iff d d).2 rfl] at heq
    rw [hg] at hrgood
    rw [hpr] at hp
    clear hg hpr
    go_enter Tryd.func4, Tryd.ntmps4
    go_wp2_with (first
      | (refine wpList_box_agg rfl 24 _ rfl d.cells rfl ?_)
      | (refine wpList_load_row rfl 24 _ rfl w1.heap.size rfl 24 _ (0, 0) _ hbx Tryd.underlying24 rfl (sizeD _) ?_)
      | (refine wpList_load_row rfl 24 _ rfl w.heap.size rfl 24 _ (0, 0) _ hblk0 Tryd.underlying24 rfl (sizeD _) ?_)
      | (go_at_call 15; refine (hline _ (hT.below hb0 (Nat.le_refl _))).mono ?_; clear hline; rintro e w0 ⟨rfl, hb1⟩; replace hblk0 := hblk0.below hb1 hblk0.lt; have hbw0 := below_pre hb0 hb1)
      | (go_at_call 16; (with_reducible refine (hp _).mono ?_); clear hp; rintro e w1 ⟨rfl, hb2⟩; replace hblk0 := hblk0.below hb2 hblk0.lt; have hbw1 := below_pre hbw0 hb2)
      | (refine wpList_alloc_agg rfl 24 rfl zeroD.cells zeroR ?_)
      | (refine wpList_store_row rfl 24 _ _ rfl w1.heap.size d.cells rfl rfl 24 _ (heap_alloc_new w1 _) (sizeD _) rfl (oneD _) ?_; rw [World.setRow_alloc_new]; have hbx := Blk.new w1 24 d.cells; replace hblk0 := hblk0.alloc (.cells d.cells 24); have hbw2 : Below w.heap.size w (w1.alloc (.cells d.cells 24)) := hbw1.alloc hbw1.size _)
      | (go_at_call 17; (with_reducible refine (hrline _).mono ?_); clear hrline; rintro e w3 ⟨rfl, hb3⟩; replace hblk0 := hblk0.below hb3 hblk0.lt; replace hbx := hbx.below hb3 hbx.lt; have hbw3 := below_pre hbw2 hb3)
      | (go_at_call 14; refine (HA.out _ (hT.below hbw3 (Nat.le_refl _))).mono ?_; rintro e w4 ⟨rfl, hb4⟩; replace hblk0 := hblk0.below hb4 hblk0.lt; replace hbx := hbx.below hb4 hbx.lt; have hbw4 := below_pre hbw3 hb4)
      | (go_at_call 9; (with_reducible refine (hrgood _).mono ?_); clear hrgood; rintro e w5 ⟨rfl, hb5⟩; replace hblk0 := hblk0.below hb5 hblk0.lt; replace hbx := hbx.below hb5 hbx.lt; have hbw5 := below_pre hbw4 hb5))
    go_ret
    exact ⟨rfl, hbw5⟩
  · have heq := eq_run zeroD zeroD
    rw [(eqD_iff zeroD zeroD).2 rfl] at heq
    replace heq : ∀ w, (binOp .eql 24 (.agg zeroD.cells) (.agg #[.int .i64 0, .int .i64 0, .int .i64 0, .int .i64 0, .int .u64 0, .int .u64 0, .bool false])).run Tryd.prog w = .ok (.bool true) w := heq
    rw [hg] at hrgood
    rw [hpr] at hp
    clear hg hpr
    go_enter Tryd.func4, Tryd.ntmps4
    go_wp2_with (first
      | (refine wpList_box_agg rfl 24 _ rfl d.cells rfl ?_)
      | (refine wpList_load_row rfl 24 _ rfl w1.heap.size rfl 24 _ (0, 0) _ hbx Tryd.underlying24 rfl (sizeD _) ?_)
      | (refine wpList_load_row rfl 24 _ rfl w.heap.size rfl 24 _ (0, 0) _ hblk0 Tryd.underlying24 rfl (sizeD _) ?_)
      | (go_at_call 15; refine (hline _ (hT.below hb0 (Nat.le_refl _))).mono ?_; clear hline; rintro e w0 ⟨rfl, hb1⟩; replace hblk0 := hblk0.below hb1 hblk0.lt; have hbw0 := below_pre hb0 hb1)
      | (go_at_call 16; (with_reducible refine (hp _).mono ?_); clear hp; rintro e w1 ⟨rfl, hb2⟩; replace hblk0 := hblk0.below hb2 hblk0.lt; have hbw1 := below_pre hbw0 hb2)
      | (refine wpList_alloc_agg rfl 24 rfl zeroD.cells zeroR ?_)
      | (refine wpList_store_row rfl 24 _ _ rfl w1.heap.size zeroD.cells rfl rfl 24 _ (heap_alloc_new w1 _) (sizeD _) rfl (oneD _) ?_; rw [World.setRow_alloc_new]; have hbx := Blk.new w1 24 zeroD.cells; replace hblk0 := hblk0.alloc (.cells zeroD.cells 24); have hbw2 : Below w.heap.size w (w1.alloc (.cells zeroD.cells 24)) := hbw1.alloc hbw1.size _)
      | (go_at_call 17; (with_reducible refine (hrline _).mono ?_); clear hrline; rintro e w3 ⟨rfl, hb3⟩; replace hblk0 := hblk0.below hb3 hblk0.lt; replace hbx := hbx.below hb3 hbx.lt; have hbw3 := below_pre hbw2 hb3)
      | (go_at_call 14; refine (HA.out _ (hT.below hbw3 (Nat.le_refl _))).mono ?_; rintro e w4 ⟨rfl, hb4⟩; replace hblk0 := hblk0.below hb4 hblk0.lt; replace hbx := hbx.below hb4 hbx.lt; have hbw4 := below_pre hbw3 hb4)
      | (go_at_call 9; (with_reducible refine (hrgood _).mono ?_); clear hrgood; rintro e w5 ⟨rfl, hb5⟩; replace hblk0 := hblk0.below hb5 hblk0.lt; replace hbx := hbx.below hb5 hbx.lt; have hbw5 := below_pre hbw4 hb5))
    go_ret
    exact ⟨rfl, hbw5⟩
end Go.Proofs.YtbjmdcjoaapmiaaDoor
