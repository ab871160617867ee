/- DutyDecodes. -/
import Derived.Test.YtbdimfcdpkldpaaGreatDoorEB
import Derived.Test.YtbdimfcdpkldpaaGreatDoorED
import Derived.Test.YtbdimfcdpkldpaaGreatDoorZ6S
namespace Go.Proofs.YtbdimfcdpkldpaaGreatDoor
open Go.RowKit
open Wire (bV)

theorem slice2000 {w : World} {G : Nat → Prop} {x : Value} {l : List UInt8} (hr : RV w G x l.length 1 (l.map bV)) :
    ∃ (p : Option Addr) (c M : Nat) (k : List UInt8), x = .slice p l.length c ∧ l.length ≤ c ∧ c ≤ maxLen ∧ k.length = M ∧ M ≤ 2000 ∧ RV w G (.slice p M c) M 1 (k.map bV) ∧ ((2000 < l.length ∧ M = 2000) ∨ (¬ 2000 < l.length ∧ M = l.length)) := by
  by_cases h : 2000 < l.length
  · obtain ⟨p, c, hv, hc, hm, hr6⟩ := hr.first 2000 (by omega)
    exact ⟨p, c, 2000, l.take 2000, hv, hc, hm, by rw [List.length_take]; omega, by omega, by rw [List.map_take]; exact hr6, .inl ⟨h, rfl⟩⟩
  · obtain ⟨p, c, hv, hc, hm, _⟩ := id hr
    subst hv
    exact ⟨p, c, l.length, l, rfl, hc, hm, rfl, by omega, hr, .inr ⟨h, rfl⟩⟩
theorem decY_ok (l : List UInt8) : (decY l).1.ok := by
  rw [← decP9_eq]
  unfold decP9
  simp only
  by_cases h0 : (draftY (.ok l)).2.2 = 0
  · rw [if_pos h0]
    split
    · split
      · exact zeroY_ok
      · show (retD _).ok
        unfold retD
        split
        · exact drS_ok (draftY_ok h0).1
        · exact zeroY_ok
    · exact zeroY_ok
  · rw [if_neg h0]
    exact zeroY_ok
theorem told2_of {w : World} {B : Nat} {e : Ending} {R : Dut × Nat} (h : Told2 w B e R) : ∃ (p q : Option Addr) (c c' : Nat), e = .returned (.tuple #[.agg (R.1.cells (.slice p R.1.progs.length c) (.slice q R.1.starts.length c')), .int .i64 (R.2 : Int)]) ∧ DV w (fun k => B ≤ k) (.slice p R.1.progs.length c) (.slice q R.1.starts.length c') R.1 := by
  obtain ⟨vp, vs, he, hd⟩ := h
  obtain ⟨p, c, rfl, _, _⟩ := hd.progs.shape
  obtain ⟨q, c', rfl, _, _⟩ := hd.starts.shape
  exact ⟨p, q, c, c', he, hd⟩

set_option maxRecDepth 100000 in
set_option maxHeartbeats 8000000 in
theorem ddecodes_walk (x : Value) (bl : List UInt8) (w : World) (hr0 : RV w (fun k => k < w.heap.size) x bl.length 1 (bl.map bV)) (hT : Tabs w) :
    Calls Tryz.prog 6 #[x] w fun e w' => e = .returned (.bool true) ∧ Below w.heap.size w w' := by
  have hlb := hr0.len
  obtain ⟨p, c, M, l, rfl, hc, hm, hlM, hl2, hr, hcut⟩ := slice2000 hr0
  unfold maxLen at hm hlb
  have hp1 : Calls Tryz.prog 16 #[.slice p M c] w fun e w' => Told2 w' (w.heap.size + 1) e (decY l) ∧ Below w.heap.size w w' := DecodeY_any _ l (by omega) _ w (by rw [hlM]; exact hr)
  have hp2 : ∀ W : World, w.heap.size ≤ W.heap.size → RV W (fun k => k < w.heap.size) (.slice p M c) M 1 (l.map bV) → Calls Tryz.prog 18 #[.slice p M c] W fun e w' => Told2 w' W.heap.size e (decY l) ∧ Below W.heap.size W w' := fun W hs h => RDecodeY_any p _ c l (by omega) (fun k => k < w.heap.size) W (fun k hk => Nat.lt_of_lt_of_le hk hs) (by rw [hlM]; exact h)
  have hok := decY_ok l
  obtain ⟨hs1, hs2, hs3⟩ := decY_short l
  generalize decY l = R at *
  obtain ⟨D, code⟩ := R
  simp only at hok hs1 hs2 hs3
  have hsame := fun W p q c c' p' q' c0 c0' (G G' : Nat → Prop) (h1 : DV W G (.slice p D.progs.length c) (.slice q D.starts.length c') D) (h2 : DV W G' (.slice p' D.progs.length c0) (.slice q' D.starts.length c0') D) =>
    (RSameY_any D D hok hok (fun p hp => by have := hs3 p hp; omega) (by omega) (by omega) _ _ _ _ G G' W h1 h2).mono (fun e w' (hh : (∃ r : Bool, e = .returned (.bool r) ∧ (r = true ↔ D = D)) ∧ Below W.heap.size W w') => (by
      obtain ⟨⟨r, he, hr⟩, hb⟩ := hh
      rw [hr.2 rfl] at he
      exact (⟨he, hb⟩ : e = .returned (.bool true) ∧ Below W.heap.size W w')))
  have haw := fun W (hTW : Tabs W) => awakeY_any W hTW
  have HTB := Lib.hid hT
  have HR := Lib.hid hr
  have HP2 := Lib.hid hp2
  clear hT hr hr0 hp2 hok hs1 hs2 hs3 hl2 hlM
  rcases hcut with ⟨h3, rfl⟩ | ⟨h3, rfl⟩
  · have t0 : decide ((bl.length : Int) > 2000) = true := by simp; omega
    have t1 : (2000 : Int) ≤ (c : Int) := by omega
    clear h3
    go_enter Tryz.func6, Tryz.ntmps6
    go_wp2_with (first 
      | (go_at_call 16; (with_reducible refine hp1.mono ?_); clear hp1; rintro e w1 ⟨htold, hb1⟩; obtain ⟨xp, xq, xc, xc', rfl, hX1⟩ := told2_of htold; clear htold; have ha2 := below_alloc1 w1 (.cells (D.cells (.slice xp D.progs.length xc) (.slice xq D.starts.length xc')) 27); have hX2 := hX1.later ha2; have hb02 := below_pre hb1 ha2; have hN2 := Blk.new w1 27 (D.cells (.slice xp D.progs.length xc) (.slice xq D.starts.length xc')); have hr2 := RV.below HR.out hb02 (fun _ hk _ => hk))
      | (refine wpList_alloc_agg rfl 27 rfl (zeroY.cells (.slice none 0 0) (.slice none 0 0)) zeroYR ?_)
      | (refine wpList_store_row rfl 27 _ _ rfl w1.heap.size (D.cells (.slice xp D.progs.length xc) (.slice xq D.starts.length xc')) rfl rfl 27 _ (heap_alloc_new w1 _) (sizeY _ _ _) rfl (oneY _ _ _ _ _ _ _) ?_; rw [World.setRow_alloc_new])
      | (go_at_call 18; (with_reducible refine (HP2.out _ hb02.size hr2).mono ?_); rintro e w3 ⟨htold, hb3⟩; obtain ⟨yp, yq, yc, yc', rfl, hY3⟩ := told2_of htold; clear htold; have hX3 := hX2.later hb3; have hN3 := hN2.below hb3 hN2.lt; have hb03 := below_pre hb02 hb3; have ha4 := below_alloc1 w3 (.cells (D.cells (.slice yp D.progs.length yc) (.slice yq D.starts.length yc')) 27); have hX4 := hX3.later ha4; have hY4 := hY3.later ha4; have hN4 := hN3.below ha4 hN3.lt; have hM4 := Blk.new w3 27 (D.cells (.slice yp D.progs.length yc) (.slice yq D.starts.length yc')); have hb04 := below_pre hb03 ha4)
      | (refine wpList_store_row rfl 27 _ _ rfl w3.heap.size (D.cells (.slice yp D.progs.length yc) (.slice yq D.starts.length yc')) rfl rfl 27 _ (heap_alloc_new w3 _) (sizeY _ _ _) rfl (oneY _ _ _ _ _ _ _) ?_; rw [World.setRow_alloc_new])
      | (refine wpList_load_row rfl 27 _ rfl w1.heap.size rfl 27 _ (0, 0) _ hN4 Tryz.underlying27 rfl (sizeY _ _ _) ?_)
      | (refine wpList_load_row rfl 27 _ rfl w3.heap.size rfl 27 _ (0, 0) _ hM4 Tryz.underlying27 rfl (sizeY _ _ _) ?_)
      | (go_at_call 13; (with_reducible refine (hsame _ _ _ _ _ _ _ _ _ _ _ hX4 hY4).mono ?_); rintro e w6 ⟨rfl, hb6⟩; have hb06 := below_pre hb04 hb6)
      | (go_at_call 10; (with_reducible refine (haw _ (HTB.out.below hb06 (Nat.le_refl _))).mono ?_); clear haw; rintro e w7 ⟨rfl, hb7⟩; have hb07 := below_pre hb06 hb7))
    go_ret
    exact ⟨rfl, hb07⟩
  · have t0 : decide ((bl.length : Int) > 2000) = false := by simp; omega
    clear h3
    go_enter Tryz.func6, Tryz.ntmps6
    go_wp2_with (first 
      | (go_at_call 16; (with_reducible refine hp1.mono ?_); clear hp1; rintro e w1 ⟨htold, hb1⟩; obtain ⟨xp, xq, xc, xc', rfl, hX1⟩ := told2_of htold; clear htold; have ha2 := below_alloc1 w1 (.cells (D.cells (.slice xp D.progs.length xc) (.slice xq D.starts.length xc')) 27); have hX2 := hX1.later ha2; have hb02 := below_pre hb1 ha2; have hN2 := Blk.new w1 27 (D.cells (.slice xp D.progs.length xc) (.slice xq D.starts.length xc')); have hr2 := RV.below HR.out hb02 (fun _ hk _ => hk))
      | (refine wpList_alloc_agg rfl 27 rfl (zeroY.cells (.slice none 0 0) (.slice none 0 0)) zeroYR ?_)
      | (refine wpList_store_row rfl 27 _ _ rfl w1.heap.size (D.cells (.slice xp D.progs.length xc) (.slice xq D.starts.length xc')) rfl rfl 27 _ (heap_alloc_new w1 _) (sizeY _ _ _) rfl (oneY _ _ _ _ _ _ _) ?_; rw [World.setRow_alloc_new])
      | (go_at_call 18; (with_reducible refine (HP2.out _ hb02.size hr2).mono ?_); rintro e w3 ⟨htold, hb3⟩; obtain ⟨yp, yq, yc, yc', rfl, hY3⟩ := told2_of htold; clear htold; have hX3 := hX2.later hb3; have hN3 := hN2.below hb3 hN2.lt; have hb03 := below_pre hb02 hb3; have ha4 := below_alloc1 w3 (.cells (D.cells (.slice yp D.progs.length yc) (.slice yq D.starts.length yc')) 27); have hX4 := hX3.later ha4; have hY4 := hY3.later ha4; have hN4 := hN3.below ha4 hN3.lt; have hM4 := Blk.new w3 27 (D.cells (.slice yp D.progs.length yc) (.slice yq D.starts.length yc')); have hb04 := below_pre hb03 ha4)
      | (refine wpList_store_row rfl 27 _ _ rfl w3.heap.size (D.cells (.slice yp D.progs.length yc) (.slice yq D.starts.length yc')) rfl rfl 27 _ (heap_alloc_new w3 _) (sizeY _ _ _) rfl (oneY _ _ _ _ _ _ _) ?_; rw [World.setRow_alloc_new])
      | (refine wpList_load_row rfl 27 _ rfl w1.heap.size rfl 27 _ (0, 0) _ hN4 Tryz.underlying27 rfl (sizeY _ _ _) ?_)
      | (refine wpList_load_row rfl 27 _ rfl w3.heap.size rfl 27 _ (0, 0) _ hM4 Tryz.underlying27 rfl (sizeY _ _ _) ?_)
      | (go_at_call 13; (with_reducible refine (hsame _ _ _ _ _ _ _ _ _ _ _ hX4 hY4).mono ?_); rintro e w6 ⟨rfl, hb6⟩; have hb06 := below_pre hb04 hb6)
      | (go_at_call 10; (with_reducible refine (haw _ (HTB.out.below hb06 (Nat.le_refl _))).mono ?_); clear haw; rintro e w7 ⟨rfl, hb7⟩; have hb07 := below_pre hb06 hb7))
    go_ret
    exact ⟨rfl, hb07⟩
end Go.Proofs.YtbdimfcdpkldpaaGreatDoor
