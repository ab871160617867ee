/- The contract of duty's Check. -/
import Derived.Test.YtbdimfcdpkldpaaGreatDoorZ3
namespace Go.Proofs.YtbdimfcdpkldpaaGreatDoor
open Go.RowKit

set_option maxRecDepth 100000 in
set_option maxHeartbeats 4000000 in
theorem CheckY_any (d : Dut) (hd : d.ok) (vp vs : Value) (G : Nat → Prop) (w : World) (h : DV w G vp vs d) :
    Calls Tryz.prog 19 #[.agg (d.cells vp vs)] w fun e w' => e = .returned (.int .i64 (checkY d : Nat)) ∧ Below w.heap.size w w' := by
  obtain ⟨pp, cp, rfl, hcp, hcpm⟩ := h.progs.shape
  obtain ⟨ps, cs, rfl, hcs, hcsm⟩ := h.starts.shape
  have hfit := fun W => Fit_any d pp ps d.progs.length cp d.starts.length cs W
  have hb0 := below_alloc1 w (.cells (d.cells (.slice pp d.progs.length cp) (.slice ps d.starts.length cs)) 27)
  have hB0 := Blk.new w 27 (d.cells (.slice pp d.progs.length cp) (.slice ps d.starts.length cs))
  have hD0 := Lib.hid (h.later (below_alloc1 w (.cells (d.cells (.slice pp d.progs.length cp) (.slice ps d.starts.length cs)) 27)))
  have hMask : Hid (∀ s ∈ d.starts, s.mask < 18446744073709551616) := Lib.hid fun s hs => (hd.starts s hs).mask
  have hOK : Hid (∀ p ∈ d.progs, ∀ x ∈ p, x.ok) := Lib.hid hd.progs
  clear h hd hcp hcpm hcs hcsm
  cases hr : rangeY d
  case false =>
    rw [checkY_five hr]
    simp only [hr] at hfit
    clear hr
    go_enter Tryz.func19, Tryz.ntmps19
    go_wp2_with (first
      | (refine wpList_box_agg rfl 27 _ rfl (d.cells (.slice pp d.progs.length cp) (.slice ps d.starts.length cs)) rfl ?_)
      | (refine wpList_load_row rfl 27 _ rfl w.heap.size rfl 27 _ (0, 0) _ hB0 Tryz.underlying27 rfl (sizeY _ _ _) ?_)
      | (go_at_call 58; (with_reducible refine (hfit _).mono ?_); clear hfit; rintro e w1 ⟨rfl, hb1⟩))
    go_ret
    exact ⟨rfl, below_pre hb0 hb1⟩
  case true =>
    obtain ⟨⟨hc1, hc6⟩, _⟩ := rangeY_facts hr
    simp only [hr] at hfit
    by_cases hl : 64 < d.progs.length ∨ 64 < d.starts.length
    · have hc : checkY d = 4 := by unfold checkY; rw [if_pos hr, if_pos hl]
      rw [hc]
      clear hc hr hc1 hc6
      rcases hl with hl | hl
      · have t1 : decide ((d.progs.length : Int) > 64) = true := by simp; omega
        clear hl
        go_enter Tryz.func19, Tryz.ntmps19
        go_wp2_with (first
          | (refine wpList_box_agg rfl 27 _ rfl (d.cells (.slice pp d.progs.length cp) (.slice ps d.starts.length cs)) rfl ?_)
          | (refine wpList_load_row rfl 27 _ rfl w.heap.size rfl 27 _ (0, 0) _ hB0 Tryz.underlying27 rfl (sizeY _ _ _) ?_)
          | (go_at_call 58; (with_reducible refine (hfit _).mono ?_); clear hfit; rintro e w1 ⟨rfl, hb1⟩; obtain ⟨q0, q1, q2, q3, q4, q5, q6, q7, q8⟩ := duty_at (hB0.below hb1 hB0.lt)))
        go_ret
        exact ⟨rfl, below_pre hb0 hb1⟩
      · have t2 : decide ((d.starts.length : Int) > 64) = true := by simp; omega
        clear hl
        cases t1 : decide ((d.progs.length : Int) > 64)
        all_goals
          go_enter Tryz.func19, Tryz.ntmps19
          go_wp2_with (first
            | (refine wpList_box_agg rfl 27 _ rfl (d.cells (.slice pp d.progs.length cp) (.slice ps d.starts.length cs)) rfl ?_)
            | (refine wpList_load_row rfl 27 _ rfl w.heap.size rfl 27 _ (0, 0) _ hB0 Tryz.underlying27 rfl (sizeY _ _ _) ?_)
            | (go_at_call 58; (with_reducible refine (hfit _).mono ?_); clear hfit; rintro e w1 ⟨rfl, hb1⟩; obtain ⟨q0, q1, q2, q3, q4, q5, q6, q7, q8⟩ := duty_at (hB0.below hb1 hB0.lt)))
          go_ret
          exact ⟨rfl, below_pre hb0 hb1⟩
    · have hl1 : d.progs.length ≤ 64 := by omega
      have hl2 : d.starts.length ≤ 64 := by omega
      have t1 : decide ((d.progs.length : Int) > 64) = false := by simp; omega
      have t2 : decide ((d.starts.length : Int) > 64) = false := by simp; omega
      have HC : checkY d = if progsE d.progs = 0 then startsE d.progs.length d.cpus d.starts else progsE d.progs := by unfold checkY; rw [if_pos hr, if_neg hl]
      have hprogs := fun W (hW : RPP W G (.slice pp d.progs.length cp) d.progs) => CheckProgs_any pp cp d.progs hOK.out G W hW hl1
      have hstart := fun s (hs : s.mask < 18446744073709551616) W => CheckStart_any d pp ps cp d.starts.length cs (by omega) hc6 hl1 s hs W
      clear hl hr hc1 hc6
      by_cases he : progsE d.progs = 0
      · rw [if_pos he] at HC
        rw [HC]
        simp only [he] at hprogs
        clear HC he
        go_enter Tryz.func19, Tryz.ntmps19
        go_wp2_with (first
          | (refine wpList_box_agg rfl 27 _ rfl (d.cells (.slice pp d.progs.length cp) (.slice ps d.starts.length cs)) rfl ?_)
          | (refine wpList_load_row rfl 27 _ rfl w.heap.size rfl 27 _ (0, 0) _ hB0 Tryz.underlying27 rfl (sizeY _ _ _) ?_)
          | (go_at_call 58; (with_reducible refine (hfit _).mono ?_); clear hfit; rintro e w1 ⟨rfl, hb1⟩; have hB1 := hB0.below hb1 hB0.lt; obtain ⟨q0, q1, q2, q3, q4, q5, q6, q7, q8⟩ := duty_at hB1; have hD1 := Lib.hid (hD0.out.later hb1))
          | (go_at_call 59; (with_reducible refine (hprogs _ hD1.out.progs).mono ?_); clear hprogs; rintro e w2 ⟨rfl, hb2⟩; have hB2 := hB1.below hb2 hB1.lt; clear q0 q1 q2 q3 q4 q5 q6 q7 q8; obtain ⟨q0, q1, q2, q3, q4, q5, q6, q7, q8⟩ := duty_at hB2; have hD2 := Lib.hid (hD1.out.later hb2); have hbb := below_pre (below_pre hb0 hb1) hb2))
        clear hb0 hb1 hb2 hB0 hB1 hD0 hD1 t1 t2 q0 q1 q2 q3 q4 q5 q6 q7 q8
        have HB2 := Lib.hid hB2
        clear hB2
        go_loopw [29] (fun t wr => ∃ k : Nat, k ≤ d.starts.length ∧ t = .int .i64 k ∧ Hid (∀ q ∈ d.starts.take k, startE d.progs.length d.cpus q = 0) ∧ Hid (DV wr G (.slice pp d.progs.length cp) (.slice ps d.starts.length cs) d) ∧ Hid (Blk wr w.heap.size 27 (d.cells (.slice pp d.progs.length cp) (.slice ps d.starts.length cs))) ∧ Below w.heap.size w wr) (fun t _ => d.starts.length - (intOf t).toNat)
        case atStart => exact ⟨0, by omega, rfl, Lib.hid (by simp), hD2, HB2, hbb⟩
        case round =>
          obtain ⟨k, hk, rfl, hg, hD, hB, hb⟩ := hrel
          clear hD2 HB2 hbb
          by_cases hlt : k < d.starts.length
          · obtain ⟨s, hs⟩ : ∃ s, d.starts[k]? = some s := ⟨_, List.getElem?_eq_getElem hlt⟩
            obtain ⟨b, off, rfl, _, _, _, e0, e1, e2⟩ := hD.out.starts.at hs
            have hst := fun W => hstart s (hMask.out s (List.mem_of_getElem? hs)) W
            have HS := Lib.hid hs
            have hb1 : Below w.heap.size w (wr.alloc (.cells #[.int .i64 s.prog, .int .i64 s.grade, .int .u64 (s.mask : Int)] 58)) := hb.alloc hb.size _
            have hD1 := Lib.hid (hD.out.later (below_alloc1 wr (.cells #[.int .i64 s.prog, .int .i64 s.grade, .int .u64 (s.mask : Int)] 58)))
            have hB1 := hB.out.alloc (.cells #[.int .i64 s.prog, .int .i64 s.grade, .int .u64 (s.mask : Int)] 58)
            clear hs
            by_cases hE : startE d.progs.length d.cpus s = 0
            · simp only [hE] at hst
              have HE := Lib.hid (all_take_succ hg.out HS.out hE)
              clear hE
              go_wp2_with (first
                | (refine wpList_load_row rfl 27 _ rfl w.heap.size rfl 27 _ (0, 0) _ hB1 Tryz.underlying27 rfl (sizeY _ _ _) ?_)
                | (go_at_call 60; (with_reducible refine (hst _).mono ?_); clear hst; rintro e w2 ⟨rfl, hb2⟩))
              go_roundw
              case rel => exact ⟨k + 1, by omega, by go_num, HE, Lib.hid (hD1.out.later hb2), Lib.hid (hB1.below hb2 hB1.lt), below_pre hb1 hb2⟩
              case measure => simp [intOf]; omega
            · have HE := Lib.hid (startsE_at HS.out hg.out hE)
              have hne : ((startE d.progs.length d.cpus s : Int) != 0) = true := by simp; omega
              clear hE
              go_wp2_with (first
                | (refine wpList_load_row rfl 27 _ rfl w.heap.size rfl 27 _ (0, 0) _ hB1 Tryz.underlying27 rfl (sizeY _ _ _) ?_)
                | (go_at_call 60; (with_reducible refine (hst _).mono ?_); clear hst; rintro e w2 ⟨rfl, hb2⟩))
              go_ret
              exact ⟨ret_i9 (by rw [HE.out]), below_pre hb1 hb2⟩
          · obtain rfl : k = d.starts.length := by omega
            have hgs := startsE_zero.2 (by have := hg.out; rwa [List.take_length] at this)
            go_wp2
            go_ret
            exact ⟨ret_i9 (by rw [hgs]; rfl), hb⟩
      · rw [if_neg he] at HC
        rw [HC]
        have hne : ((progsE d.progs : Int) != 0) = true := by simp; omega
        clear HC he
        go_enter Tryz.func19, Tryz.ntmps19
        go_wp2_with (first
          | (refine wpList_box_agg rfl 27 _ rfl (d.cells (.slice pp d.progs.length cp) (.slice ps d.starts.length cs)) rfl ?_)
          | (refine wpList_load_row rfl 27 _ rfl w.heap.size rfl 27 _ (0, 0) _ hB0 Tryz.underlying27 rfl (sizeY _ _ _) ?_)
          | (go_at_call 58; (with_reducible refine (hfit _).mono ?_); clear hfit; rintro e w1 ⟨rfl, hb1⟩; have hB1 := hB0.below hb1 hB0.lt; obtain ⟨q0, q1, q2, q3, q4, q5, q6, q7, q8⟩ := duty_at hB1; have hD1 := Lib.hid (hD0.out.later hb1))
          | (go_at_call 59; (with_reducible refine (hprogs _ hD1.out.progs).mono ?_); clear hprogs; rintro e w2 ⟨rfl, hb2⟩))
        go_ret
        exact ⟨rfl, below_pre (below_pre hb0 hb1) hb2⟩
end Go.Proofs.YtbdimfcdpkldpaaGreatDoor
