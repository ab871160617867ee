/- The statements' own examples; the contracts of the statements' own live and same. -/
import Derived.Test.YtpkgbhoifmaagaaT7
namespace Go.Proofs.Ytpkgbhoifmaagaa
open Go.RowKit

/-- Next of the book and of the reference in one. -/
theorem Next_any (b n : Nat) (st : Nat → Nat) (i : Int) (w : World) (h : BookAt w b n st) :
    Calls Try.prog 15 #[.pointer (some ⟨b, 0, none⟩), .int .i64 i] w fun e w' => e = .returned (.tuple #[.int .u64 (((nextN n st i).2.2 : Nat) : Int), .bool (mayN n i)]) ∧ BookAt w' b (nextN n st i).1 (nextN n st i).2.1 ∧ Foot (fun k => k = b) w w' := by
  unfold nextN
  cases hm : mayN n i with
  | true =>
    have hm' := hm
    unfold mayN at hm'
    simp only [Bool.and_eq_true, decide_eq_true_eq] at hm'
    obtain ⟨m, rfl, hm6⟩ := inB_of i hm'.1
    exact Next_yes b n m st w h hm6 hm'.2
  | false =>
    refine (Next_no b n st i w h hm).mono ?_
    rintro e w' ⟨rfl, hb⟩
    exact ⟨rfl, h.below hb h.1.lt, Foot.of_below _ hb⟩
theorem RNext_any (n : Nat) (st : Nat → Nat) (hn : n ≤ lastN) (i : Int) (w : World) :
    Calls Try.prog 14 #[.agg (bookArr n st), .int .i64 i] w fun e w' => e = .returned (.tuple #[.agg (bookArr (nextN n st i).1 (nextN n st i).2.1), .int .u64 (((nextN n st i).2.2 : Nat) : Int)]) ∧ Below w.heap.size w w' := by
  unfold nextN
  cases hm : mayN n i with
  | true =>
    have hm' := hm
    unfold mayN at hm'
    simp only [Bool.and_eq_true, decide_eq_true_eq] at hm'
    obtain ⟨m, rfl, hm6⟩ := inB_of i hm'.1
    exact RNext_yes n (n + 1) m rfl st hm'.2 hm6 w
  | false => exact RNext_no n st hn i hm w

set_option maxHeartbeats 800000 in
theorem awake_any (w : World) :
    Calls Try.prog 10 #[] w fun e w' => e = .returned (.bool true) ∧ Below w.heap.size w w' := by
  have h1 := Lib.hid (Word_good 1 5 (by decide) (by decide) (by decide))
  have hnew := Lib.hid (New_any 0)
  have hc0 := Lib.hid (show capN 0 = 0 by decide)
  have hw1 := Lib.hid (show wd 1 5 = 261 by decide)
  go_enter Try.func10, Try.ntmps10
  go_wp2_with fail
  refine (h1.out _).mono ?_
  rintro e w1 ⟨rfl, hb1⟩
  rw [hw1.out]
  have g1 := Lib.hid hb1
  clear hb1
  go_wp2_with fail
  refine (hnew.out _).mono ?_
  rintro e w2 ⟨rfl, hat, hb2⟩
  rw [hc0.out] at hat
  have g2 := Lib.hid (below_pre g1.out hb2)
  have hG := Lib.hid g1.out.size
  have hN := Lib.hid (Next_any _ _ _ (5 : Int) _ hat)
  clear hat hb2
  generalize w1.heap.size = b at hN hG ⊢
  have hsh : nextN 0 (fun _ => 0) 5 = (1, putF (fun _ => 0) 5 1, 261) := by rfl
  rw [hsh, show mayN 0 5 = true by decide] at hN
  clear hsh
  go_wp2_with fail
  refine hN.out.mono ?_
  rintro e w3 ⟨rfl, hat, hf⟩
  have g3 := Lib.hid (g2.out.trans (hf.below g2.out.size (fun k hk => by rw [hk]; exact hG.out)))
  have hN := Lib.hid (Next_any _ _ _ (5 : Int) _ hat)
  clear hat hf
  have hsh : nextN 1 (putF (fun _ => 0) 5 1) 5 = (2, putF (putF (fun _ => 0) 5 1) 5 2, 517) := by rfl
  rw [hsh, show mayN 1 5 = true by decide] at hN
  clear hsh
  go_wp2_with fail
  refine hN.out.mono ?_
  rintro e w4 ⟨rfl, hat, hf⟩
  have g4 := Lib.hid (g3.out.trans (hf.below g3.out.size (fun k hk => by rw [hk]; exact hG.out)))
  have hL := Lib.hid (Live_at _ _ _ 261 (by decide) _ hat)
  have hA := Lib.hid hat
  clear hat hf
  rw [show liveK (putF (putF (fun _ => 0) 5 1) 5 2) 261 = 0 by decide, show liveN (putF (putF (fun _ => 0) 5 1) 5 2) 261 = false by decide] at hL
  go_wp2_with fail
  refine hL.out.mono ?_
  rintro e w5 ⟨rfl, hb5⟩
  have g5 := Lib.hid (g4.out.trans (hb5.mono g4.out.size))
  have hL := Lib.hid (Live_at _ _ _ 517 (by decide) _ (hA.out.below hb5 hA.out.1.lt))
  clear hb5
  rw [show liveK (putF (putF (fun _ => 0) 5 1) 5 2) 517 = 5 by decide, show liveN (putF (putF (fun _ => 0) 5 1) 5 2) 517 = true by decide] at hL
  go_wp2_with fail
  refine hL.out.mono ?_
  rintro e w6 ⟨rfl, hb6⟩
  have g6 := Lib.hid (g5.out.trans (hb6.mono g5.out.size))
  clear hb6
  go_wp2_with fail
  go_ret
  exact ⟨rfl, g6.out⟩

set_option maxHeartbeats 800000 in
theorem live_any (b n : Nat) (st : Nat → Nat) (x : Nat) (hx : x < 18446744073709551616) (w : World) (h : BookAt w b n st) :
    Calls Try.prog 17 #[.pointer (some ⟨b, 0, none⟩), .agg (bookArr n st), .int .u64 (x : Int)] w fun e w' => e = .returned (.bool true) ∧ Below w.heap.size w w' := by
  have hst := Lib.hid (fun j => Nat.le_trans (h.2.2 j) h.2.1)
  have hB := Lib.hid (Blk.new w 38 (bookArr n st))
  have hL := Lib.hid (Live_at b n st x hx _ (h.below (below_alloc1 w (.cells (bookArr n st) 38)) h.1.lt))
  have hR := Lib.hid (RLive_any n st hst.out x)
  have g := Lib.hid (below_alloc1 w (.cells (bookArr n st) 38))
  clear hx h
  go_enter Try.func17, Try.ntmps17
  go_wp2_with fail
  refine hL.out.mono ?_
  rintro e w1 ⟨rfl, hb1⟩
  have g1 := Lib.hid (below_pre g.out hb1)
  have hB1 := Lib.hid (hB.out.below hb1 hB.out.lt)
  clear hb1
  unfold liveK
  unfold liveR at hR
  cases hl : liveN st x with
  | true =>
    rw [if_pos rfl]
    rw [hl, if_pos rfl] at hR
    have hk : ¬ ((x % 256 : Nat) : Int) < 0 := by omega
    generalize x % 256 = k at *
    clear hl
    go_wp2_with (first | (refine wpList_load_row rfl 38 _ rfl w.heap.size rfl 38 _ (0, 0) _ hB1.out Try.underlying38 rfl (sizeRb _ _) ?_) | (go_at_call 23; refine (hR.out _).mono ?_; rintro e w2 ⟨rfl, hb2⟩))
    go_ret
    exact ⟨rfl, below_pre g1.out hb2⟩
  | false =>
    rw [if_neg (by decide)]
    rw [hl, if_neg (by decide)] at hR
    clear hl
    go_wp2_with (first | (refine wpList_load_row rfl 38 _ rfl w.heap.size rfl 38 _ (0, 0) _ hB1.out Try.underlying38 rfl (sizeRb _ _) ?_) | (go_at_call 23; refine (hR.out _).mono ?_; rintro e w2 ⟨rfl, hb2⟩))
    go_ret
    exact ⟨rfl, below_pre g1.out hb2⟩

set_option maxHeartbeats 3200000 in
theorem same_any (b n : Nat) (st : Nat → Nat) (w : World) (h : BookAt w b n st) :
    Calls Try.prog 18 #[.pointer (some ⟨b, 0, none⟩), .agg (bookArr n st)] w fun e w' => e = .returned (.bool true) ∧ Below w.heap.size w w' := by
  have hst := Lib.hid (fun j => Nat.le_trans (h.2.2 j) h.2.1)
  have hB := Lib.hid (Blk.new w 38 (bookArr n st))
  have hr := Lib.hid (RNow_any n st hst.out)
  have hn0 := Lib.hid (fun i w1 (hb1 : Below w.heap.size w w1) => Now_at b n st i w1 (h.below hb1 h.1.lt))
  have g := Lib.hid (below_alloc1 w (.cells (bookArr n st) 38))
  clear h
  go_enter Try.func18, Try.ntmps18
  go_wp2
  go_loopw [5] (fun t wr => ∃ i : Int, -1 ≤ i ∧ i ≤ 65 ∧ t = .int .i64 i ∧ Hid (Blk wr w.heap.size 38 (bookArr n st) ∧ Below w.heap.size w wr)) (fun t _ => (65 - intOf t).toNat)
  case atStart => exact ⟨-1, by omega, by omega, rfl, Lib.hid ⟨hB.out, g.out⟩⟩
  case round =>
    obtain ⟨i, hi1, hi2, rfl, HB⟩ := hrel
    by_cases hlt : i ≤ 64
    · have hn := Lib.hid (hn0.out i)
      have hsz : w.heap.size < wr.drew.heap.size := HB.out.1.lt
      have HB1 : Hid (Blk wr.drew w.heap.size 38 (bookArr n st)) := Lib.hid HB.out.1
      have HW : Hid (Below w.heap.size w wr.drew) := Lib.hid HB.out.2.drew
      go_wp2
      refine wp_region_any (by kernel_rfl) ?_
      change wpAny _ _ _ _ _ _ _ (World.drew _)
      refine wpAny_take (i := 0) (v := ?_) rfl (by kernel_rfl) (by kernel_rfl) (by kernel_rfl) (fun _ _ _ h => h) (Or.inl ⟨by rfl, ?_⟩) ?_
      rotate_left
      · intro w; go_simp; with_reducible rfl
      refine wpAny_take (i := 1) (v := ?_) rfl (by kernel_rfl) (by kernel_rfl) (by kernel_rfl) (fun _ _ _ h => h) (Or.inl ⟨by rfl, ?_⟩) ?_
      rotate_left
      · intro w; go_simp; with_reducible rfl
      refine wpAny_take (i := 4) (v := ?_) rfl (by kernel_rfl) (by kernel_rfl) (by kernel_rfl) (fun _ _ _ h => h) (Or.inl ⟨by rfl, ?_⟩) ?_
      rotate_left
      · intro w; go_simp; with_reducible rfl
      refine wpAny_ready (rs := [2, 3]) (by kernel_rfl) (by simp) ?_
      refine AllReady.cons rfl (fun K hK => ?_) (AllReady.cons rfl (fun K hK => ?_) AllReady.nil)
      · go_simp
        go_wp2_with (go_at_call 20; refine (hn.out _ HW.out).mono ?_; rintro e w1 ⟨rfl, rfl⟩)
        refine wpAny_ready (rs := [3]) (by kernel_rfl) (by simp) ?_
        refine AllReady.cons rfl (fun K hK => ?_) AllReady.nil
        refine step_load_row rfl 38 _ rfl w.heap.size rfl 38 _ (0, 0) _ HB1.out Try.underlying38 rfl (sizeRb _ _) ?_
        refine hK _ _ ?_; clear hK K
        refine wpAny_ready (rs := [5]) (by kernel_rfl) (by simp) ?_
        refine AllReady.cons rfl (fun K hK => ?_) AllReady.nil
        go_simp
        go_wp2_with (go_at_call 24; refine (hr.out _ _).mono ?_; rintro e w5 ⟨rfl, hb5⟩)
        refine wpAny_ready (rs := [6]) (by kernel_rfl) (by simp) ?_
        refine AllReady.cons rfl (fun K hK => ?_) AllReady.nil
        go_simp
        refine hK _ _ ?_; clear hK K
        refine wpAny_done (by kernel_rfl) ?_ _
        go_wp2
        go_roundw
        case rel => exact ⟨i + 1, by omega, by omega, by go_num, Lib.hid ⟨HB1.out.below hb5 hsz, HW.out.trans (hb5.mono HW.out.size)⟩⟩
        case measure => simp [intOf]; omega
      · refine step_load_row rfl 38 _ rfl w.heap.size rfl 38 _ (0, 0) _ HB1.out Try.underlying38 rfl (sizeRb _ _) ?_
        refine hK _ _ ?_; clear hK K
        refine wpAny_ready (rs := [2]) (by kernel_rfl) (by simp) ?_
        refine AllReady.cons rfl (fun K hK => ?_) AllReady.nil
        go_simp
        go_wp2_with (go_at_call 20; refine (hn.out _ HW.out).mono ?_; rintro e w1 ⟨rfl, rfl⟩)
        refine wpAny_ready (rs := [5]) (by kernel_rfl) (by simp) ?_
        refine AllReady.cons rfl (fun K hK => ?_) AllReady.nil
        go_simp
        go_wp2_with (go_at_call 24; refine (hr.out _ _).mono ?_; rintro e w5 ⟨rfl, hb5⟩)
        refine wpAny_ready (rs := [6]) (by kernel_rfl) (by simp) ?_
        refine AllReady.cons rfl (fun K hK => ?_) AllReady.nil
        go_simp
        refine hK _ _ ?_; clear hK K
        refine wpAny_done (by kernel_rfl) ?_ _
        go_wp2
        go_roundw
        case rel => exact ⟨i + 1, by omega, by omega, by go_num, Lib.hid ⟨HB1.out.below hb5 hsz, HW.out.trans (hb5.mono HW.out.size)⟩⟩
        case measure => simp [intOf]; omega
    · obtain rfl : i = 65 := by omega
      go_wp2
      go_ret
      exact ⟨rfl, HB.out.2⟩
end Go.Proofs.Ytpkgbhoifmaagaa
