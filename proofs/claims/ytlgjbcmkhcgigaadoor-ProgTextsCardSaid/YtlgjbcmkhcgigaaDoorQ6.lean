/- The contracts of the reference's Check, cost, Steps and Locks. -/
import Derived.Test.YtlgjbcmkhcgigaaDoorLQ1
import Derived.Test.YtlgjbcmkhcgigaaDoorLD2
namespace Go.Proofs.YtlgjbcmkhcgigaaDoor
open Go.RowKit

set_option maxHeartbeats 1000000 in
theorem RCheck_any (p : Option Addr) (c : Nat) (ps : List Deed) (G : Nat → Prop) (w : World) (h : RP w G (.slice p ps.length c) ps) :
    Calls Tryd.prog 12 #[.slice p ps.length c] w fun e w' => e = .returned (.int .i64 (checkN ps : Nat)) ∧ Below w.heap.size w w' := by
  by_cases hl : 256 < ps.length
  · have hc : checkN ps = 4 := by unfold checkN; rw [if_pos hl]
    rw [hc]
    have ht : decide ((ps.length : Int) > 256) = true := by simp; omega
    clear hl h hc
    go_enter Tryd.func12, Tryd.ntmps12
    go_wp2
    go_ret
    exact ⟨rfl, Below.refl _ _⟩
  · have HC : Hid (∀ b, goodP ps = b → checkN ps = if b = true then 0 else 1) := Lib.hid (by rintro _ rfl; unfold checkN; rw [if_neg hl])
    have ht : decide ((ps.length : Int) > 256) = false := by simp; omega
    have H := Lib.hid h
    have hl6 : ps.length ≤ 256 := by omega
    clear hl h
    go_enter Tryd.func12, Tryd.ntmps12
    go_wp2
    go_loopw [3] (fun t wr => ∃ k : Nat, k ≤ ps.length ∧ t = .int .i64 k ∧ Hid (∀ d ∈ ps.take k, goodD d = true) ∧ Hid (RP wr G (.slice p ps.length c) ps) ∧ Below w.heap.size w wr) (fun t _ => ps.length - (intOf t).toNat)
    case atStart => exact ⟨0, by omega, rfl, Lib.hid (by simp), H, Below.refl _ _⟩
    case round =>
      obtain ⟨k, hk, rfl, hg, hR, hb⟩ := hrel
      by_cases hlt : k < ps.length
      · obtain ⟨d, hd⟩ : ∃ d, ps[k]? = some d := ⟨_, List.getElem?_eq_getElem hlt⟩
        obtain ⟨b, off, rfl, _, _, hra, _⟩ := hR.out.at hd
        have hgood := RGood_any d
        have HD := Lib.hid hd
        clear hd H
        simp only [Deed.val] at hgood
        cases hgd : goodD d
        all_goals
          rw [hgd] at hgood
          have HG := Lib.hid hgd
          clear hgd
          go_wp2_with (first
            | (refine wpList_load_deed rfl _ rfl b (off + k * 7) rfl d hra ?_)
            | (go_at_call 32; (with_reducible refine (hgood _).mono ?_); clear hgood; rintro e w2 ⟨rfl, hb2⟩))
        · go_ret
          exact ⟨ret_i (by rw [HC.out false (goodP_not HD.out HG.out)]; rfl), below_pre hb hb2⟩
        · go_roundw
          case rel => exact ⟨k + 1, by omega, by go_num, Lib.hid (goodP_take hg.out d HD.out HG.out), Lib.hid (hR.out.later hb2), below_pre hb hb2⟩
          case measure => simp [intOf]; omega
      · obtain rfl : k = ps.length := by omega
        have hgp := hg.out
        rw [List.take_length] at hgp
        go_wp2
        go_ret
        exact ⟨ret_i (by rw [HC.out true (goodP_all hgp)]; rfl), hb⟩

set_option maxHeartbeats 400000 in
theorem cost_any (d : Deed) (w : World) :
    Calls Tryd.prog 37 #[d.val] w fun e w' => e = .returned (.int .u64 (costD d : Nat)) ∧ Below w.heap.size w w' := by
  have hnew := Blk.new w 45 d.cells
  have hc0 : (w.alloc (.cells d.cells 45)).cell? ⟨w.heap.size, 0, none⟩ = some (.int .i64 d.op) := hnew.cell 0
  have hc4 : (w.alloc (.cells d.cells 45)).cell? ⟨w.heap.size, 4, none⟩ = some (.int .u64 (d.n : Int)) := hnew.cell 4
  have hb := below_alloc1 w (.cells d.cells 45)
  simp only [Deed.val]
  by_cases h1 : d.op = 1
  · have ht : (d.op == 1) = true := by simp [h1]
    have hr : costD d = d.n := by unfold costD; rw [if_pos h1]
    rw [hr]
    clear h1 hr
    go_enter Tryd.func37, Tryd.ntmps37
    go_wp2_with (refine wpList_box_agg rfl 45 _ rfl d.cells rfl ?_)
    go_ret
    exact ⟨rfl, hb⟩
  · have ht : (d.op == 1) = false := by simp [h1]
    have hr : costD d = 1 := by unfold costD; rw [if_neg h1]
    rw [hr]
    clear h1 hr
    go_enter Tryd.func37, Tryd.ntmps37
    go_wp2_with (refine wpList_box_agg rfl 45 _ rfl d.cells rfl ?_)
    go_ret
    exact ⟨rfl, hb⟩

set_option maxHeartbeats 400000 in
theorem RSteps_bad (p : Option Addr) (c : Nat) (ps : List Deed) (G : Nat → Prop) (w : World) (h : RP w G (.slice p ps.length c) ps) (h0 : ¬ checkN ps = 0) :
    Calls Tryd.prog 17 #[.slice p ps.length c] w fun e w' => e = .returned (.int .u64 (stepsN ps : Nat)) ∧ Below w.heap.size w w' := by
  have hck := RCheck_any p c ps G w h
  have hr : stepsN ps = 0 := by unfold stepsN; rw [if_neg h0]
  have ht : ((checkN ps : Int) != 0) = true := by simp; omega
  rw [hr]
  clear h h0 hr
  go_enter Tryd.func17, Tryd.ntmps17
  go_wp2_with (go_at_call 12; (with_reducible refine hck.mono ?_); clear hck; rintro e w1 ⟨rfl, hb1⟩)
  go_ret
  exact ⟨rfl, hb1⟩
set_option maxRecDepth 100000 in
set_option maxHeartbeats 2000000 in
theorem RSteps_good (p : Option Addr) (c n : Nat) (ps : List Deed) (hn : ps.length = n) (G : Nat → Prop) (w : World) (h : RP w G (.slice p n c) ps) (h0 : checkN ps = 0) :
    Calls Tryd.prog 17 #[.slice p n c] w fun e w' => e = .returned (.int .u64 (stepsN ps : Nat)) ∧ Below w.heap.size w w' := by
  have hck := RCheck_any p c ps G w (by rw [hn]; exact h)
  rw [hn, h0] at hck
  obtain ⟨hl6, hgp⟩ := checkN_zero.1 h0
  rw [hn] at hl6
  have hr : stepsN ps = sumC (ps.take n) + if endsExit ps = true then 0 else 1 := by unfold stepsN; rw [if_pos h0, ← hn, List.take_length]
  have hsum := fun k hk => sumC_take hgp k hk
  have HR := Lib.hid hr
  have HS := Lib.hid hsum
  have H := Lib.hid h
  have HN := Lib.hid hn
  clear h0 hr hsum h hgp hn
  go_enter Tryd.func17, Tryd.ntmps17
  go_wp2_with (go_at_call 12; (with_reducible refine hck.mono ?_); clear hck; rintro e w1 ⟨rfl, hb1⟩; have H1 := Lib.hid (H.out.later hb1))
  go_loopw [3, 4] (fun s t wr => ∃ k : Nat, k ≤ n ∧ t = .int .i64 k ∧ s = .int .u64 (sumC (ps.take k) : Nat) ∧ Hid (RP wr G (.slice p n c) ps) ∧ Below w.heap.size w wr) (fun _ t _ => n - (intOf t).toNat)
  case atStart => exact ⟨0, by omega, rfl, rfl, H1, hb1⟩
  case round =>
    obtain ⟨k, hk, rfl, rfl, hR, hb⟩ := hrel
    clear H H1 hb1
    by_cases hlt : k < n
    · obtain ⟨d, hd⟩ : ∃ d, ps[k]? = some d := ⟨_, List.getElem?_eq_getElem (by rw [HN.out]; exact hlt)⟩
      obtain ⟨b, off, rfl, _, _, hra, _⟩ := hR.out.at hd
      have hsn := sumC_snoc hd
      have hle := HS.out (k + 1) (by omega)
      have hcost := cost_any d
      simp only [Deed.val] at hcost
      have hadd : ∀ W, Calls Tryd.prog 36 #[.int .u64 (sumC (ps.take k) : Nat), .int .u64 (costD d : Nat)] W fun e w' => e = .returned (.int .u64 (sumC (ps.take (k + 1)) : Nat)) ∧ W = w' := fun W => radd_small _ _ _ (by rw [hsn]) (by omega) W
      clear hd hsn hle
      go_wp2_with (first
        | (refine wpList_load_deed rfl _ rfl b (off + k * 7) rfl d hra ?_)
        | (go_at_call 37; (with_reducible refine (hcost _).mono ?_); clear hcost; rintro e w3 ⟨rfl, hb3⟩)
        | (go_at_call 36; (with_reducible refine (hadd _).mono ?_); clear hadd; rintro e w2 ⟨rfl, rfl⟩))
      go_roundw
      case rel => exact ⟨k + 1, by omega, by go_num, rfl, Lib.hid (hR.out.later hb3), below_pre hb hb3⟩
      case measure => simp [intOf]; omega
    · obtain rfl : k = n := by omega
      have hle := HS.out k (by omega)
      have hadd : ∀ W, Calls Tryd.prog 36 #[.int .u64 (sumC (ps.take k) : Nat), .int .u64 1] W fun e w' => e = .returned (.int .u64 (sumC (ps.take k) + 1 : Nat)) ∧ W = w' := fun W => radd_small _ 1 _ rfl (by omega) W
      have hr0 := HR.out
      obtain ⟨T, hT⟩ : ∃ T, sumC (ps.take k) = T := ⟨_, rfl⟩
      rw [hT] at hadd hr0 ⊢
      have HQ := Lib.hid hr0
      clear hr0 hT hle HR
      cases k with
      | zero =>
        have he : endsExit ps = false := by rw [List.length_eq_zero_iff.1 HN.out]; rfl
        have hr := HQ.out
        rw [he] at hr
        have HR2 := Lib.hid hr
        clear hr he
        go_wp2_with (go_at_call 36; (with_reducible refine (hadd _).mono ?_); clear hadd; rintro e w2 ⟨rfl, rfl⟩)
        go_ret
        exact ⟨ret_u (by rw [HR2.out]; rfl), hb⟩
      | succ m =>
        obtain ⟨d, hd⟩ : ∃ d, ps[m]? = some d := ⟨_, List.getElem?_eq_getElem (by rw [HN.out]; omega)⟩
        obtain ⟨b, off, rfl, _, _, _, hc0, _⟩ := hR.out.at hd
        have he := ends_last HN.out hd
        have hr := HQ.out
        rw [he] at hr
        have HR2 := Lib.hid hr
        clear hr he hd
        cases ht : (d.op == 3)
        · have ht2 : (d.op != 3) = true := by simp [bne, ht]
          have HT := Lib.hid ht
          clear ht
          go_wp2_with (go_at_call 36; (with_reducible refine (hadd _).mono ?_); clear hadd; rintro e w2 ⟨rfl, rfl⟩)
          go_ret
          exact ⟨ret_u (by rw [HR2.out, HT.out]; rfl), hb⟩
        · have ht2 : (d.op != 3) = false := by simp [bne, ht]
          have HT := Lib.hid ht
          clear ht
          go_wp2_with (go_at_call 36; (with_reducible refine (hadd _).mono ?_); clear hadd; rintro e w2 ⟨rfl, rfl⟩)
          go_ret
          exact ⟨ret_u (by rw [HR2.out, HT.out]; rfl), hb⟩
theorem RSteps_any (p : Option Addr) (c : Nat) (ps : List Deed) (G : Nat → Prop) (w : World) (h : RP w G (.slice p ps.length c) ps) :
    Calls Tryd.prog 17 #[.slice p ps.length c] w fun e w' => e = .returned (.int .u64 (stepsN ps : Nat)) ∧ Below w.heap.size w w' := by
  by_cases h0 : checkN ps = 0
  · exact RSteps_good p c _ ps rfl G w h h0
  · exact RSteps_bad p c ps G w h h0

set_option maxRecDepth 100000 in
set_option maxHeartbeats 2000000 in
theorem RLocks_good (p : Option Addr) (c n : Nat) (ps : List Deed) (hn : ps.length = n) (G : Nat → Prop) (w : World) (h : RP w G (.slice p n c) ps) (h0 : checkN ps = 0) :
    Calls Tryd.prog 14 #[.slice p n c] w fun e w' => e = .returned (.int .u64 (locksN ps : Nat)) ∧ Below w.heap.size w w' := by
  have hck : ∀ W, RP W G (.slice p n c) ps → Calls Tryd.prog 12 #[.slice p n c] W fun e w' => e = .returned (.int .i64 0) ∧ Below W.heap.size W w' := fun W hW => by
    have := RCheck_any p c ps G W (by rw [hn]; exact hW)
    rw [hn, h0] at this
    exact this
  obtain ⟨hl6, hgp⟩ := checkN_zero.1 h0
  rw [hn] at hl6
  have hr : locksN ps = locksGo (ps.take n) := by unfold locksN; rw [if_pos h0, ← hn, List.take_length]
  have HR := Lib.hid hr
  have H := Lib.hid h
  have HN := Lib.hid hn
  have HGP := Lib.hid hgp
  have HCK := Lib.hid hck
  clear h0 hr h hgp hn hck
  go_enter Tryd.func14, Tryd.ntmps14
  go_wp2
  go_loopw [3, 4] (fun s t wr => ∃ k : Nat, k ≤ n ∧ t = .int .i64 k ∧ s = .int .u64 (locksGo (ps.take k) : Nat) ∧ Hid (RP wr G (.slice p n c) ps) ∧ Below w.heap.size w wr) (fun _ t _ => n - (intOf t).toNat)
  case atStart => exact ⟨0, by omega, rfl, rfl, H, Below.refl _ _⟩
  case round =>
    obtain ⟨k, hk, rfl, rfl, hR, hb⟩ := hrel
    clear H
    by_cases hlt : k < n
    · obtain ⟨d, hd⟩ : ∃ d, ps[k]? = some d := ⟨_, List.getElem?_eq_getElem (by rw [HN.out]; exact hlt)⟩
      obtain ⟨b, off, rfl, _, _, _⟩ := hR.out.at hd
      have hsn := locksGo_snoc hd
      have HPC : ∀ W, Hid (RP W G (.slice (some ⟨b, off, none⟩) n c) ps) → W.cell? ⟨b, off + k * 7, none⟩ = some (.int .i64 d.op) ∧ W.cell? ⟨b, off + k * 7 + 1, none⟩ = some (.int .i64 d.a) := fun W hW => by
        obtain ⟨b', off', e, _, _, _, h0, h1, _⟩ := hW.out.at hd
        cases e
        exact ⟨h0, h1⟩
      have HPCC := Lib.hid HPC
      clear HPC
      by_cases hT : isTake d = true
      · rw [if_pos hT] at hsn
        have hput : ∀ W, Calls Tryd.prog 33 #[.int .u64 (locksGo (ps.take k) : Nat), .int .i64 d.a, .bool true] W fun e w' => e = .returned (.int .u64 (locksGo (ps.take (k + 1)) : Nat)) ∧ Below W.heap.size W w' := fun W => by
          rw [hsn]
          exact Sets.Put_any _ (locksGo_lt _) d.a true W
        have hcase : (d.op == 9) = true ∨ ((d.op == 9) = false ∧ (d.op == 10) = true) := by
          unfold isTake at hT
          cases h9 : (d.op == 9)
          · rw [h9] at hT; exact .inr ⟨rfl, by simpa using hT⟩
          · exact .inl rfl
        clear hd hsn hT
        rcases hcase with ht | ⟨ht, ht2⟩
        all_goals
          go_wp2_with (first
            | (go_at_call 12; (with_reducible refine (HCK.out _ hR.out).mono ?_); rintro e w2 ⟨rfl, hb2⟩; have hR2 := Lib.hid (hR.out.later hb2); obtain ⟨hc0, hc1⟩ := HPCC.out _ hR2)
            | (go_at_call 33; (with_reducible refine (hput _).mono ?_); clear hput; rintro e w3 ⟨rfl, hb3⟩))
          go_roundw
          case rel => exact ⟨k + 1, by omega, by go_num, rfl, Lib.hid (hR2.out.later hb3), below_pre (below_pre hb hb2) hb3⟩
          case measure => simp [intOf]; omega
      · rw [if_neg hT] at hsn
        have hcase : (d.op == 9) = false ∧ (d.op == 10) = false := by
          unfold isTake at hT
          simpa [Bool.or_eq_true] using hT
        obtain ⟨ht, ht2⟩ := hcase
        have HS := Lib.hid hsn
        clear hd hsn hT
        go_wp2_with (go_at_call 12; (with_reducible refine (HCK.out _ hR.out).mono ?_); rintro e w2 ⟨rfl, hb2⟩; have hR2 := Lib.hid (hR.out.later hb2); obtain ⟨hc0, hc1⟩ := HPCC.out _ hR2)
        go_roundw
        case rel => exact ⟨k + 1, by omega, by go_num, by rw [HS.out], hR2, below_pre hb hb2⟩
        case measure => simp [intOf]; omega
    · obtain rfl : k = n := by omega
      go_wp2_with (go_at_call 12; (with_reducible refine (HCK.out _ hR.out).mono ?_); rintro e w2 ⟨rfl, hb2⟩)
      go_ret
      exact ⟨ret_u (by rw [HR.out]), below_pre hb hb2⟩
set_option maxHeartbeats 1000000 in
theorem RLocks_bad (p : Option Addr) (c : Nat) (ps : List Deed) (G : Nat → Prop) (w : World) (h : RP w G (.slice p ps.length c) ps) (h0 : ¬ checkN ps = 0) :
    Calls Tryd.prog 14 #[.slice p ps.length c] w fun e w' => e = .returned (.int .u64 (locksN ps : Nat)) ∧ Below w.heap.size w w' := by
  have hck := RCheck_any p c ps G w h
  have hr : locksN ps = 0 := by unfold locksN; rw [if_neg h0]
  have ht : ((checkN ps : Int) == 0) = false := by simp; omega
  rw [hr]
  clear h h0 hr
  go_enter Tryd.func14, Tryd.ntmps14
  go_wp2
  refine wp_loop_rounds 1 ?_
  rw [rounds_succ]
  go_wp2_with (go_at_call 12; (with_reducible refine hck.mono ?_); clear hck; rintro e w1 ⟨rfl, hb1⟩)
  go_ret
  exact ⟨rfl, hb1⟩
theorem RLocks_any (p : Option Addr) (c : Nat) (ps : List Deed) (G : Nat → Prop) (w : World) (h : RP w G (.slice p ps.length c) ps) :
    Calls Tryd.prog 14 #[.slice p ps.length c] w fun e w' => e = .returned (.int .u64 (locksN ps : Nat)) ∧ Below w.heap.size w w' := by
  by_cases h0 : checkN ps = 0
  · exact RLocks_good p c _ ps rfl G w h h0
  · exact RLocks_bad p c ps G w h h0
end Go.Proofs.YtlgjbcmkhcgigaaDoor
