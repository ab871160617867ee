/- DutyParses. -/
import Derived.Test.YtbdimfcdpkldpaaGreatDoorJ7
import Derived.Test.YtbdimfcdpkldpaaGreatDoorZ6
import Derived.Test.YtbdimfcdpkldpaaGreatDoorZ18
namespace Go.Proofs.YtbdimfcdpkldpaaGreatDoor
open Go.RowKit

theorem told_parts {w : World} {B : Nat} {e : Ending} {R : Dut × Nat × Nat} (h : ToldY w B e R) : ∃ (p q : Option Addr) (c c' : Nat), e = .returned (.tuple #[.agg (R.1.cells (.slice p R.1.progs.length c) (.slice q R.1.starts.length c')), .int .i64 (R.2.1 : Int), .int .i64 (R.2.2 : Int)]) ∧ DV w (fun k => B ≤ k) (.slice p R.1.progs.length c) (.slice q R.1.starts.length c') R.1 := by
  obtain ⟨vp, vs, he, hd⟩ := h
  obtain ⟨p, c, rfl, _, _⟩ := hd.progs.shape
  obtain ⟨q, c', rfl, _, _⟩ := hd.starts.shape
  exact ⟨p, q, c, c', he, hd⟩

set_option maxRecDepth 100000 in
set_option maxHeartbeats 8000000 in
theorem parses_tail (s0 s : ByteArray) (hcut : (3000 < s0.size ∧ s = s0.extract 0 3000) ∨ (¬ 3000 < s0.size ∧ s = s0)) (w : World) (hT : Tabs w) :
    Calls Tryz.prog 4 #[.string s0] w fun e w' => e = .returned (.bool true) ∧ Below w.heap.size w w' := by
  have hs : s.size ≤ 3000 := by
    rcases hcut with ⟨h, rfl⟩ | ⟨h, rfl⟩
    · rw [ByteArray.size_extract]; omega
    · omega
  have hlen : s.data.toList.length = s.size := rfl
  obtain ⟨hl1, hl2⟩ := linesL_short s.data.toList
  have hz : ∀ z ∈ linesL s.data.toList, z.length ≤ 4000 := fun z hz => by have := hl2 z hz; omega
  have hp1 := fun W => ParseY_any s (by omega) hz (by omega) W
  have hp2 := fun W => RParseY_any s (by omega) hz (by omega) W
  have hok := prsY_ok s.data.toList
  obtain ⟨hs1, hs2, hs3⟩ := prsY_short s.data.toList
  generalize prsY s.data.toList = R at *
  obtain ⟨D, n, code⟩ := R
  simp only at hok hs1 hs2 hs3
  have hsame := fun W p q c c' p' q' c0 c0' (G G' : Nat → Prop) (h1 : DV W G (.slice p D.progs.length c) (.slice q D.starts.length c') D) (h2 : DV W G' (.slice p' D.progs.length c0) (.slice q' D.starts.length c0') D) =>
    (RSameY_any D D hok hok (fun p hp => by have := hs3 p hp; omega) (by omega) (by omega) _ _ _ _ G G' W h1 h2).mono (fun e w' (hh : (∃ r : Bool, e = .returned (.bool r) ∧ (r = true ↔ D = D)) ∧ Below W.heap.size W w') => (by
      obtain ⟨⟨r, he, hr⟩, hb⟩ := hh
      rw [hr.2 rfl] at he
      exact (⟨he, hb⟩ : e = .returned (.bool true) ∧ Below W.heap.size W w')))
  have haw := fun W (hTW : Tabs W) => awakeY_any W hTW
  have HTB := Lib.hid hT
  clear hT hz hl1 hl2 hlen hok hs1 hs2 hs3 hs
  rcases hcut with ⟨h, rfl⟩ | ⟨h, rfl⟩
  · have t0 : decide ((s0.size : Int) > 3000) = true := by simp; omega
    have t1 : (3000 : Int) ≤ (s0.size : Int) := by omega
    clear h
    go_enter Tryz.func4, Tryz.ntmps4
    go_wp2_with (first 
      | (go_at_call 12; (with_reducible refine (hp1 _).mono ?_); clear hp1; rintro e w1 ⟨htold, hb1⟩; obtain ⟨xp, xq, xc, xc', rfl, hX1⟩ := told_parts htold; clear htold; have ha2 := below_alloc1 w1 (.cells (D.cells (.slice xp D.progs.length xc) (.slice xq D.starts.length xc')) 27); have hX2 := hX1.later ha2; have hb02 := below_pre hb1 ha2; have hN2 := Blk.new w1 27 (D.cells (.slice xp D.progs.length xc) (.slice xq D.starts.length xc')))
      | (refine wpList_alloc_agg rfl 27 rfl (zeroY.cells (.slice none 0 0) (.slice none 0 0)) zeroYR ?_)
      | (refine wpList_store_row rfl 27 _ _ rfl w1.heap.size (D.cells (.slice xp D.progs.length xc) (.slice xq D.starts.length xc')) rfl rfl 27 _ (heap_alloc_new w1 _) (sizeY _ _ _) rfl (oneY _ _ _ _ _ _ _) ?_; rw [World.setRow_alloc_new])
      | (go_at_call 14; (with_reducible refine (hp2 _).mono ?_); clear hp2; rintro e w3 ⟨htold, hb3⟩; obtain ⟨yp, yq, yc, yc', rfl, hY3⟩ := told_parts htold; clear htold; have hX3 := hX2.later hb3; have hN3 := hN2.below hb3 hN2.lt; have hb03 := below_pre hb02 hb3; have ha4 := below_alloc1 w3 (.cells (D.cells (.slice yp D.progs.length yc) (.slice yq D.starts.length yc')) 27); have hX4 := hX3.later ha4; have hY4 := hY3.later ha4; have hN4 := hN3.below ha4 hN3.lt; have hM4 := Blk.new w3 27 (D.cells (.slice yp D.progs.length yc) (.slice yq D.starts.length yc')); have hb04 := below_pre hb03 ha4)
      | (refine wpList_store_row rfl 27 _ _ rfl w3.heap.size (D.cells (.slice yp D.progs.length yc) (.slice yq D.starts.length yc')) rfl rfl 27 _ (heap_alloc_new w3 _) (sizeY _ _ _) rfl (oneY _ _ _ _ _ _ _) ?_; rw [World.setRow_alloc_new])
      | (refine wpList_load_row rfl 27 _ rfl w1.heap.size rfl 27 _ (0, 0) _ hN4 Tryz.underlying27 rfl (sizeY _ _ _) ?_)
      | (refine wpList_load_row rfl 27 _ rfl w3.heap.size rfl 27 _ (0, 0) _ hM4 Tryz.underlying27 rfl (sizeY _ _ _) ?_)
      | (go_at_call 13; (with_reducible refine (hsame _ _ _ _ _ _ _ _ _ _ _ hX4 hY4).mono ?_); rintro e w6 ⟨rfl, hb6⟩; have hb06 := below_pre hb04 hb6)
      | (go_at_call 10; (with_reducible refine (haw _ (HTB.out.below hb06 (Nat.le_refl _))).mono ?_); clear haw; rintro e w7 ⟨rfl, hb7⟩; have hb07 := below_pre hb06 hb7))
    go_ret
    exact ⟨rfl, hb07⟩
  · have t0 : decide ((s.size : Int) > 3000) = false := by simp; omega
    clear h
    go_enter Tryz.func4, Tryz.ntmps4
    go_wp2_with (first 
      | (go_at_call 12; (with_reducible refine (hp1 _).mono ?_); clear hp1; rintro e w1 ⟨htold, hb1⟩; obtain ⟨xp, xq, xc, xc', rfl, hX1⟩ := told_parts htold; clear htold; have ha2 := below_alloc1 w1 (.cells (D.cells (.slice xp D.progs.length xc) (.slice xq D.starts.length xc')) 27); have hX2 := hX1.later ha2; have hb02 := below_pre hb1 ha2; have hN2 := Blk.new w1 27 (D.cells (.slice xp D.progs.length xc) (.slice xq D.starts.length xc')))
      | (refine wpList_alloc_agg rfl 27 rfl (zeroY.cells (.slice none 0 0) (.slice none 0 0)) zeroYR ?_)
      | (refine wpList_store_row rfl 27 _ _ rfl w1.heap.size (D.cells (.slice xp D.progs.length xc) (.slice xq D.starts.length xc')) rfl rfl 27 _ (heap_alloc_new w1 _) (sizeY _ _ _) rfl (oneY _ _ _ _ _ _ _) ?_; rw [World.setRow_alloc_new])
      | (go_at_call 14; (with_reducible refine (hp2 _).mono ?_); clear hp2; rintro e w3 ⟨htold, hb3⟩; obtain ⟨yp, yq, yc, yc', rfl, hY3⟩ := told_parts htold; clear htold; have hX3 := hX2.later hb3; have hN3 := hN2.below hb3 hN2.lt; have hb03 := below_pre hb02 hb3; have ha4 := below_alloc1 w3 (.cells (D.cells (.slice yp D.progs.length yc) (.slice yq D.starts.length yc')) 27); have hX4 := hX3.later ha4; have hY4 := hY3.later ha4; have hN4 := hN3.below ha4 hN3.lt; have hM4 := Blk.new w3 27 (D.cells (.slice yp D.progs.length yc) (.slice yq D.starts.length yc')); have hb04 := below_pre hb03 ha4)
      | (refine wpList_store_row rfl 27 _ _ rfl w3.heap.size (D.cells (.slice yp D.progs.length yc) (.slice yq D.starts.length yc')) rfl rfl 27 _ (heap_alloc_new w3 _) (sizeY _ _ _) rfl (oneY _ _ _ _ _ _ _) ?_; rw [World.setRow_alloc_new])
      | (refine wpList_load_row rfl 27 _ rfl w1.heap.size rfl 27 _ (0, 0) _ hN4 Tryz.underlying27 rfl (sizeY _ _ _) ?_)
      | (refine wpList_load_row rfl 27 _ rfl w3.heap.size rfl 27 _ (0, 0) _ hM4 Tryz.underlying27 rfl (sizeY _ _ _) ?_)
      | (go_at_call 13; (with_reducible refine (hsame _ _ _ _ _ _ _ _ _ _ _ hX4 hY4).mono ?_); rintro e w6 ⟨rfl, hb6⟩; have hb06 := below_pre hb04 hb6)
      | (go_at_call 10; (with_reducible refine (haw _ (HTB.out.below hb06 (Nat.le_refl _))).mono ?_); clear haw; rintro e w7 ⟨rfl, hb7⟩; have hb07 := below_pre hb06 hb7))
    go_ret
    exact ⟨rfl, hb07⟩

theorem parses_walk (s0 : ByteArray) (w : World) (hT : Tabs w) :
    Calls Tryz.prog 4 #[.string s0] w fun e w' => e = .returned (.bool true) ∧ Below w.heap.size w w' := by
  by_cases h : 3000 < s0.size
  · exact parses_tail s0 _ (.inl ⟨h, rfl⟩) w hT
  · exact parses_tail s0 _ (.inr ⟨h, rfl⟩) w hT
end Go.Proofs.YtbdimfcdpkldpaaGreatDoor
