/- The contract of the reference's Check of duties. -/
import Derived.Test.YtbdimfcdpkldpaaGreatDoorLZ1
import Derived.Test.YtbdimfcdpkldpaaGreatDoorQC
namespace Go.Proofs.YtbdimfcdpkldpaaGreatDoor
open Go.RowKit

theorem rangeY_parts (d : Dut) : rangeY d = (inB d.cpus 1 64 && inB d.threads 1 64 && inB d.locks 0 64 && powB d.cap && decide (d.threads ≤ d.cap) && decide (1 ≤ d.boost) && decide (d.boost ≤ 65536)) := by
  unfold rangeY inB
  simp only [Bool.and_assoc]
theorem startE_parts (np : Nat) (cpus : Int) (s : St) : startE np cpus s = if inB s.prog 0 ((np : Int) - 1) = true then (if inB s.grade 0 7 = true then (if s.mask &&& allN cpus = 0 then 10 else 0) else 1) else 1 := by
  unfold startE inB
  have e : decide (s.prog < np) = decide (s.prog ≤ (np : Int) - 1) := by rw [decide_eq_decide]; omega
  rw [e]
  cases decide (0 ≤ s.prog) <;> cases decide (s.prog ≤ (np : Int) - 1) <;> cases decide (0 ≤ s.grade) <;> cases decide (s.grade ≤ 7) <;> rfl
theorem mask_run (a : Nat) (c : Int) (ha : a < 18446744073709551616) (h0 : 0 ≤ c) (h6 : c ≤ 64) : bits .and .u64 (a : Int) (Sets.allN c : Nat) = ((a &&& allN c : Nat) : Int) := by
  rw [← allN_sets c h0 h6]
  exact u64_and_nat a (Sets.allN c) ha (Sets.allN_lt c)
/-- A failing number: what Check answers. -/
theorem checkY_five {d : Dut} (h : rangeY d = false) : checkY d = 5 := by unfold checkY; rw [if_neg (by rw [h]; decide)]
theorem cap_decide (a b : Int) (r : Bool) (h : decide (a ≤ b) = r) : decide (b < a) = !r := by
  subst h
  by_cases k : a ≤ b
  · rw [decide_eq_true k, decide_eq_false (by omega)]; rfl
  · rw [decide_eq_false k, decide_eq_true (by omega)]; rfl
theorem boost_low (a : Nat) (r : Bool) (h : decide (1 ≤ a) = r) : decide ((a : Int) < 1) = !r := by
  subst h
  by_cases k : 1 ≤ a
  · rw [decide_eq_true k, decide_eq_false (by omega)]; rfl
  · rw [decide_eq_false k, decide_eq_true (by omega)]; rfl
theorem boost_high (a : Nat) (r : Bool) (h : decide (a ≤ 65536) = r) : decide ((a : Int) > 65536) = !r := by
  subst h
  by_cases k : a ≤ 65536
  · rw [decide_eq_true k, decide_eq_false (by omega)]; rfl
  · rw [decide_eq_false k, decide_eq_true (by omega)]; rfl


set_option maxHeartbeats 2000000 in
theorem RCheckY_fail0 (d : Dut) (pp ps : Option Addr) (cp cs : Nat) (w : World) (c0 : inB d.cpus 1 64 = false) :
    Calls Tryz.prog 11 #[.agg (d.cells (.slice pp d.progs.length cp) (.slice ps d.starts.length cs))] w fun e w' => e = .returned (.int .i64 5) ∧ Below w.heap.size w w' := by
  obtain ⟨q0, q1, q2, q3, q4, q5, q6, q7, q8⟩ := duty_at (Blk.new w 27 (d.cells (.slice pp d.progs.length cp) (.slice ps d.starts.length cs)))
  go_enter Tryz.func11, Tryz.ntmps11
  go_wp2_with (first
    | (refine wpList_box_agg rfl 27 _ rfl (d.cells (.slice pp d.progs.length cp) (.slice ps d.starts.length cs)) rfl ?_)
    | (go_at_call 31; (with_reducible refine (RIn_any _ _ _ _).mono ?_); rintro e w' ⟨rfl, rfl⟩; first | rw [c0]))
  go_ret
  exact ⟨rfl, below_alloc1 _ _⟩

set_option maxHeartbeats 2000000 in
theorem RCheckY_fail1 (d : Dut) (pp ps : Option Addr) (cp cs : Nat) (w : World) (c0 : inB d.cpus 1 64 = true) (c1 : inB d.threads 1 64 = false) :
    Calls Tryz.prog 11 #[.agg (d.cells (.slice pp d.progs.length cp) (.slice ps d.starts.length cs))] w fun e w' => e = .returned (.int .i64 5) ∧ Below w.heap.size w w' := by
  obtain ⟨q0, q1, q2, q3, q4, q5, q6, q7, q8⟩ := duty_at (Blk.new w 27 (d.cells (.slice pp d.progs.length cp) (.slice ps d.starts.length cs)))
  go_enter Tryz.func11, Tryz.ntmps11
  go_wp2_with (first
    | (refine wpList_box_agg rfl 27 _ rfl (d.cells (.slice pp d.progs.length cp) (.slice ps d.starts.length cs)) rfl ?_)
    | (go_at_call 31; (with_reducible refine (RIn_any _ _ _ _).mono ?_); rintro e w' ⟨rfl, rfl⟩; first | rw [c0] | rw [c1]))
  go_ret
  exact ⟨rfl, below_alloc1 _ _⟩

set_option maxHeartbeats 2000000 in
theorem RCheckY_fail2 (d : Dut) (pp ps : Option Addr) (cp cs : Nat) (w : World) (c0 : inB d.cpus 1 64 = true) (c1 : inB d.threads 1 64 = true) (c2 : inB d.locks 0 64 = false) :
    Calls Tryz.prog 11 #[.agg (d.cells (.slice pp d.progs.length cp) (.slice ps d.starts.length cs))] w fun e w' => e = .returned (.int .i64 5) ∧ Below w.heap.size w w' := by
  obtain ⟨q0, q1, q2, q3, q4, q5, q6, q7, q8⟩ := duty_at (Blk.new w 27 (d.cells (.slice pp d.progs.length cp) (.slice ps d.starts.length cs)))
  go_enter Tryz.func11, Tryz.ntmps11
  go_wp2_with (first
    | (refine wpList_box_agg rfl 27 _ rfl (d.cells (.slice pp d.progs.length cp) (.slice ps d.starts.length cs)) rfl ?_)
    | (go_at_call 31; (with_reducible refine (RIn_any _ _ _ _).mono ?_); rintro e w' ⟨rfl, rfl⟩; first | rw [c0] | rw [c1] | rw [c2]))
  go_ret
  exact ⟨rfl, below_alloc1 _ _⟩

set_option maxHeartbeats 2000000 in
theorem RCheckY_fail3 (d : Dut) (pp ps : Option Addr) (cp cs : Nat) (w : World) (c0 : inB d.cpus 1 64 = true) (c1 : inB d.threads 1 64 = true) (c2 : inB d.locks 0 64 = true) (c3 : powB d.cap = false) :
    Calls Tryz.prog 11 #[.agg (d.cells (.slice pp d.progs.length cp) (.slice ps d.starts.length cs))] w fun e w' => e = .returned (.int .i64 5) ∧ Below w.heap.size w w' := by
  obtain ⟨q0, q1, q2, q3, q4, q5, q6, q7, q8⟩ := duty_at (Blk.new w 27 (d.cells (.slice pp d.progs.length cp) (.slice ps d.starts.length cs)))
  go_enter Tryz.func11, Tryz.ntmps11
  go_wp2_with (first
    | (refine wpList_box_agg rfl 27 _ rfl (d.cells (.slice pp d.progs.length cp) (.slice ps d.starts.length cs)) rfl ?_)
    | (go_at_call 31; (with_reducible refine (RIn_any _ _ _ _).mono ?_); rintro e w' ⟨rfl, rfl⟩; first | rw [c0] | rw [c1] | rw [c2])
    | (go_at_call 32; (with_reducible refine (Power_any _ _).mono ?_); rintro e w' ⟨rfl, rfl⟩; rw [c3]))
  go_ret
  exact ⟨rfl, below_alloc1 _ _⟩

set_option maxHeartbeats 2000000 in
theorem RCheckY_fail4 (d : Dut) (pp ps : Option Addr) (cp cs : Nat) (w : World) (c0 : inB d.cpus 1 64 = true) (c1 : inB d.threads 1 64 = true) (c2 : inB d.locks 0 64 = true) (c3 : powB d.cap = true) (c4 : decide (d.threads ≤ d.cap) = false) :
    Calls Tryz.prog 11 #[.agg (d.cells (.slice pp d.progs.length cp) (.slice ps d.starts.length cs))] w fun e w' => e = .returned (.int .i64 5) ∧ Below w.heap.size w w' := by
  obtain ⟨q0, q1, q2, q3, q4, q5, q6, q7, q8⟩ := duty_at (Blk.new w 27 (d.cells (.slice pp d.progs.length cp) (.slice ps d.starts.length cs)))
  have h4 := cap_decide _ _ _ c4
  clear c4
  simp only [Bool.not_false] at h4
  go_enter Tryz.func11, Tryz.ntmps11
  go_wp2_with (first
    | (refine wpList_box_agg rfl 27 _ rfl (d.cells (.slice pp d.progs.length cp) (.slice ps d.starts.length cs)) rfl ?_)
    | (go_at_call 31; (with_reducible refine (RIn_any _ _ _ _).mono ?_); rintro e w' ⟨rfl, rfl⟩; first | rw [c0] | rw [c1] | rw [c2])
    | (go_at_call 32; (with_reducible refine (Power_any _ _).mono ?_); rintro e w' ⟨rfl, rfl⟩; rw [c3]))
  go_ret
  exact ⟨rfl, below_alloc1 _ _⟩

set_option maxHeartbeats 2000000 in
theorem RCheckY_fail5 (d : Dut) (pp ps : Option Addr) (cp cs : Nat) (w : World) (c0 : inB d.cpus 1 64 = true) (c1 : inB d.threads 1 64 = true) (c2 : inB d.locks 0 64 = true) (c3 : powB d.cap = true) (c4 : decide (d.threads ≤ d.cap) = true) (c5 : decide (1 ≤ d.boost) = false) :
    Calls Tryz.prog 11 #[.agg (d.cells (.slice pp d.progs.length cp) (.slice ps d.starts.length cs))] w fun e w' => e = .returned (.int .i64 5) ∧ Below w.heap.size w w' := by
  obtain ⟨q0, q1, q2, q3, q4, q5, q6, q7, q8⟩ := duty_at (Blk.new w 27 (d.cells (.slice pp d.progs.length cp) (.slice ps d.starts.length cs)))
  have h4 := cap_decide _ _ _ c4
  clear c4
  have h5 := boost_low _ _ c5
  clear c5
  simp only [Bool.not_true, Bool.not_false] at h4 h5
  go_enter Tryz.func11, Tryz.ntmps11
  go_wp2_with (first
    | (refine wpList_box_agg rfl 27 _ rfl (d.cells (.slice pp d.progs.length cp) (.slice ps d.starts.length cs)) rfl ?_)
    | (go_at_call 31; (with_reducible refine (RIn_any _ _ _ _).mono ?_); rintro e w' ⟨rfl, rfl⟩; first | rw [c0] | rw [c1] | rw [c2])
    | (go_at_call 32; (with_reducible refine (Power_any _ _).mono ?_); rintro e w' ⟨rfl, rfl⟩; rw [c3]))
  go_ret
  exact ⟨rfl, below_alloc1 _ _⟩

set_option maxHeartbeats 2000000 in
theorem RCheckY_fail6 (d : Dut) (pp ps : Option Addr) (cp cs : Nat) (w : World) (c0 : inB d.cpus 1 64 = true) (c1 : inB d.threads 1 64 = true) (c2 : inB d.locks 0 64 = true) (c3 : powB d.cap = true) (c4 : decide (d.threads ≤ d.cap) = true) (c5 : decide (1 ≤ d.boost) = true) (c6 : decide (d.boost ≤ 65536) = false) :
    Calls Tryz.prog 11 #[.agg (d.cells (.slice pp d.progs.length cp) (.slice ps d.starts.length cs))] w fun e w' => e = .returned (.int .i64 5) ∧ Below w.heap.size w w' := by
  obtain ⟨q0, q1, q2, q3, q4, q5, q6, q7, q8⟩ := duty_at (Blk.new w 27 (d.cells (.slice pp d.progs.length cp) (.slice ps d.starts.length cs)))
  have h4 := cap_decide _ _ _ c4
  clear c4
  have h5 := boost_low _ _ c5
  clear c5
  have h6 := boost_high _ _ c6
  clear c6
  simp only [Bool.not_true, Bool.not_false] at h4 h5 h6
  go_enter Tryz.func11, Tryz.ntmps11
  go_wp2_with (first
    | (refine wpList_box_agg rfl 27 _ rfl (d.cells (.slice pp d.progs.length cp) (.slice ps d.starts.length cs)) rfl ?_)
    | (go_at_call 31; (with_reducible refine (RIn_any _ _ _ _).mono ?_); rintro e w' ⟨rfl, rfl⟩; first | rw [c0] | rw [c1] | rw [c2])
    | (go_at_call 32; (with_reducible refine (Power_any _ _).mono ?_); rintro e w' ⟨rfl, rfl⟩; rw [c3]))
  go_ret
  exact ⟨rfl, below_alloc1 _ _⟩

set_option maxRecDepth 100000 in
set_option maxHeartbeats 4000000 in
theorem RCheckY_any (d : Dut) (hd : d.ok) (vp vs : Value) (G : Nat → Prop) (w : World) (h : DV w G vp vs d) :
    Calls Tryz.prog 11 #[.agg (d.cells vp vs)] w fun e w' => e = .returned (.int .i64 (checkY d : Nat)) ∧ Below w.heap.size w w' := by
  obtain ⟨pp, cp, rfl, hcp, hcpm⟩ := h.progs.shape
  obtain ⟨ps, cs, rfl, hcs, hcsm⟩ := h.starts.shape
  have hparts := rangeY_parts d
  cases c0 : inB d.cpus 1 64
  case false =>
    rw [c0] at hparts
    rw [checkY_five (by rw [hparts]; rfl)]
    exact RCheckY_fail0 d pp ps cp cs w c0
  case true =>
    cases c1 : inB d.threads 1 64
    case false =>
      rw [c0, c1] at hparts
      rw [checkY_five (by rw [hparts]; rfl)]
      exact RCheckY_fail1 d pp ps cp cs w c0 c1
    case true =>
      cases c2 : inB d.locks 0 64
      case false =>
        rw [c0, c1, c2] at hparts
        rw [checkY_five (by rw [hparts]; rfl)]
        exact RCheckY_fail2 d pp ps cp cs w c0 c1 c2
      case true =>
        cases c3 : powB d.cap
        case false =>
          rw [c0, c1, c2, c3] at hparts
          rw [checkY_five (by rw [hparts]; rfl)]
          exact RCheckY_fail3 d pp ps cp cs w c0 c1 c2 c3
        case true =>
          cases c4 : decide (d.threads ≤ d.cap)
          case false =>
            rw [c0, c1, c2, c3, c4] at hparts
            rw [checkY_five (by rw [hparts]; rfl)]
            exact RCheckY_fail4 d pp ps cp cs w c0 c1 c2 c3 c4
          case true =>
            cases c5 : decide (1 ≤ d.boost)
            case false =>
              rw [c0, c1, c2, c3, c4, c5] at hparts
              rw [checkY_five (by rw [hparts]; rfl)]
              exact RCheckY_fail5 d pp ps cp cs w c0 c1 c2 c3 c4 c5
            case true =>
              cases c6 : decide (d.boost ≤ 65536)
              case false =>
                rw [c0, c1, c2, c3, c4, c5, c6] at hparts
                rw [checkY_five (by rw [hparts]; rfl)]
                exact RCheckY_fail6 d pp ps cp cs w c0 c1 c2 c3 c4 c5 c6
              case true =>
                rw [c0, c1, c2, c3, c4, c5, c6] at hparts
                have hr : rangeY d = true := by rw [hparts]; rfl
                obtain ⟨⟨hc1, hc6⟩, _⟩ := rangeY_facts hr
                have h4 := cap_decide _ _ _ c4
                have h5 := boost_low _ _ c5
                have h6 := boost_high _ _ c6
                simp only [Bool.not_true] at h4 h5 h6
                clear c4 c5 c6 hparts hcp hcpm hcs hcsm
                obtain ⟨q0, q1, q2, q3, q4, q5, q6, q7, q8⟩ := duty_at (Blk.new w 27 (d.cells (.slice pp d.progs.length cp) (.slice ps d.starts.length cs)))
                have hB0 := Lib.hid (Blk.new w 27 (d.cells (.slice pp d.progs.length cp) (.slice ps d.starts.length cs)))
                have hD0 := Lib.hid (h.later (below_alloc1 w (.cells (d.cells (.slice pp d.progs.length cp) (.slice ps d.starts.length cs)) 27)))
                have hMask : Hid (∀ s ∈ d.starts, s.mask < 18446744073709551616) := Lib.hid fun s hs => (hd.starts s hs).mask
                have hb0 := below_alloc1 w (.cells (d.cells (.slice pp d.progs.length cp) (.slice ps d.starts.length cs)) 27)
                clear h hd
                by_cases hl : 64 < d.progs.length ∨ 64 < d.starts.length
                · have hc : checkY d = 4 := by unfold checkY; rw [if_pos hr, if_pos hl]
                  rw [hc]
                  clear hc hr hc1 hc6
                  by_cases hl1 : 64 < d.progs.length
                  · have t1 : decide ((d.progs.length : Int) > 64) = true := by simp; omega
                    clear hl hl1
                    go_enter Tryz.func11, Tryz.ntmps11
                    go_wp2_with (first
                      | (refine wpList_box_agg rfl 27 _ rfl (d.cells (.slice pp d.progs.length cp) (.slice ps d.starts.length cs)) rfl ?_)
                      | (go_at_call 31; (with_reducible refine (RIn_any _ _ _ _).mono ?_); rintro e w' ⟨rfl, rfl⟩; first | rw [c0] | rw [c1] | rw [c2])
                      | (go_at_call 32; (with_reducible refine (Power_any _ _).mono ?_); rintro e w' ⟨rfl, rfl⟩; rw [c3]))
                    go_ret
                    exact ⟨rfl, hb0⟩
                  · have t1 : decide ((d.progs.length : Int) > 64) = false := by simp; omega
                    have t2 : decide ((d.starts.length : Int) > 64) = true := by simp; omega
                    clear hl hl1
                    go_enter Tryz.func11, Tryz.ntmps11
                    go_wp2_with (first
                      | (refine wpList_box_agg rfl 27 _ rfl (d.cells (.slice pp d.progs.length cp) (.slice ps d.starts.length cs)) rfl ?_)
                      | (go_at_call 31; (with_reducible refine (RIn_any _ _ _ _).mono ?_); rintro e w' ⟨rfl, rfl⟩; first | rw [c0] | rw [c1] | rw [c2])
                      | (go_at_call 32; (with_reducible refine (Power_any _ _).mono ?_); rintro e w' ⟨rfl, rfl⟩; rw [c3]))
                    go_ret
                    exact ⟨rfl, hb0⟩
                · have hl1 : d.progs.length ≤ 64 := by omega
                  have hl2 : d.starts.length ≤ 64 := by omega
                  have t1 : decide ((d.progs.length : Int) > 64) = false := by simp; omega
                  have t2 : decide ((d.starts.length : Int) > 64) = false := by simp; omega
                  have HC : Hid (checkY d = if progsE d.progs = 0 then startsE d.progs.length d.cpus d.starts else progsE d.progs) := Lib.hid (by unfold checkY; rw [if_pos hr, if_neg hl])
                  have hw1 : Hid (wrap64 ((d.progs.length : Int) - 1) = (d.progs.length : Int) - 1) := Lib.hid (by rw [IntWalk.wrap64_in _ (by omega)])
                  clear hl hr
                  go_enter Tryz.func11, Tryz.ntmps11
                  go_wp2_with (first
                    | (refine wpList_box_agg rfl 27 _ rfl (d.cells (.slice pp d.progs.length cp) (.slice ps d.starts.length cs)) rfl ?_)
                      | (go_at_call 31; (with_reducible refine (RIn_any _ _ _ _).mono ?_); rintro e w' ⟨rfl, rfl⟩; first | rw [c0] | rw [c1] | rw [c2])
                      | (go_at_call 32; (with_reducible refine (Power_any _ _).mono ?_); rintro e w' ⟨rfl, rfl⟩; rw [c3]))
                  clear t1 t2 h4 h5 h6 q0 q1 q2 q3 q4 q5 q6 q7 q8 c0 c1 c2 c3
                  obtain ⟨W0, hW0⟩ : ∃ W0, W0 = w.alloc (.cells (d.cells (.slice pp d.progs.length cp) (.slice ps d.starts.length cs)) 27) := ⟨_, rfl⟩
                  rw [← hW0] at hB0 hD0 hb0 ⊢
                  clear hW0
                  go_loopw [3] (fun t wr => ∃ k : Nat, k ≤ d.progs.length ∧ t = .int .i64 k ∧ Hid (∀ q ∈ d.progs.take k, checkN q = 0) ∧ Hid (DV wr G (.slice pp d.progs.length cp) (.slice ps d.starts.length cs) d) ∧ Hid (Blk wr w.heap.size 27 (d.cells (.slice pp d.progs.length cp) (.slice ps d.starts.length cs))) ∧ Below w.heap.size w wr) (fun t _ => d.progs.length - (intOf t).toNat)
                  case atStart => exact ⟨0, by omega, rfl, Lib.hid (by simp), hD0, hB0, hb0⟩
                  case round =>
                    obtain ⟨k, hk, rfl, hg, hD, hB, hb⟩ := hrel
                    clear hD0 hB0 hb0
                    obtain ⟨q0, q1, q2, q3, q4, q5, q6, q7, q8⟩ := duty_at hB.out
                    by_cases hlt : k < d.progs.length
                    · obtain ⟨p, hp⟩ : ∃ p, d.progs[k]? = some p := ⟨_, List.getElem?_eq_getElem hlt⟩
                      obtain ⟨b, off, u, cu, rfl, hbs, hGb, hcell, hrp⟩ := hD.out.progs.at hp
                      have hchk := RCheck_any u cu p G wr hrp
                      have HP := Lib.hid hp
                      clear hp hrp hbs hGb
                      by_cases he : checkN p = 0
                      · rw [he] at hchk
                        have HE := Lib.hid (all_take_succ hg.out HP.out he)
                        clear he
                        go_wp2_with (first
                          | (go_at_call 33; (with_reducible refine hchk.mono ?_); clear hchk; rintro e w2 ⟨rfl, hb2⟩))
                        go_roundw
                        case rel => exact ⟨k + 1, by omega, by go_num, HE, Lib.hid (hD.out.later hb2), Lib.hid (hB.out.below hb2 hB.out.lt), below_pre hb hb2⟩
                        case measure => simp [intOf]; omega
                      · have HE := Lib.hid (progsE_at HP.out hg.out he)
                        have hne : ((checkN p : Int) != 0) = true := by simp; omega
                        have HE0 := Lib.hid he
                        clear he
                        go_wp2_with (first
                          | (go_at_call 33; (with_reducible refine hchk.mono ?_); clear hchk; rintro e w2 ⟨rfl, hb2⟩))
                        go_ret
                        exact ⟨ret_i9 (by rw [HC.out, HE.out, if_neg HE0.out]), below_pre hb hb2⟩
                    · obtain rfl : k = d.progs.length := by omega
                      have hgp := Lib.hid (progsE_zero.2 (by have := hg.out; rwa [List.take_length] at this))
                      clear hg hlt hk
                      go_wp2
                      go_loopw [5] (fun t wr => ∃ k : Nat, k ≤ d.starts.length ∧ t = .int .i64 k ∧ Hid (∀ q ∈ d.starts.take k, startE d.progs.length d.cpus q = 0) ∧ Hid (DV wr G (.slice pp d.progs.length cp) (.slice ps d.starts.length cs) d) ∧ Hid (Blk wr w.heap.size 27 (d.cells (.slice pp d.progs.length cp) (.slice ps d.starts.length cs))) ∧ Below w.heap.size w wr) (fun t _ => d.starts.length - (intOf t).toNat)
                      case atStart => exact ⟨0, by omega, rfl, Lib.hid (by simp), hD, hB, hb⟩
                      case round =>
                        clear hD hB hb q0 q1 q2 q3 q4 q5 q6 q7 q8
                        obtain ⟨k, hk, rfl, hg, hD, hB, hb⟩ := hrel
                        obtain ⟨q0, q1, q2, q3, q4, q5, q6, q7, q8⟩ := duty_at hB.out
                        by_cases hlt : k < d.starts.length
                        · obtain ⟨s, hs⟩ : ∃ s, d.starts[k]? = some s := ⟨_, List.getElem?_eq_getElem hlt⟩
                          obtain ⟨b, off, rfl, _, _, _, e0, e1, e2⟩ := hD.out.starts.at hs
                          have hm := hMask.out s (List.mem_of_getElem? hs)
                          have HS := Lib.hid hs
                          have HP := Lib.hid (startE_parts d.progs.length d.cpus s)
                          have HM := Lib.hid hm
                          have hb1 : Below w.heap.size w (wr.alloc (.cells #[.int .i64 s.prog, .int .i64 s.grade, .int .u64 (s.mask : Int)] 58)) := hb.alloc hb.size _
                          have hD1 := Lib.hid (hD.out.later (below_alloc1 wr (.cells #[.int .i64 s.prog, .int .i64 s.grade, .int .u64 (s.mask : Int)] 58)))
                          have hB1 := Lib.hid (hB.out.alloc (.cells #[.int .i64 s.prog, .int .i64 s.grade, .int .u64 (s.mask : Int)] 58))
                          obtain ⟨r0, r1, r2, r3, r4, r5, r6, r7, r8⟩ := duty_at hB1.out
                          clear hs hm
                          cases a0 : inB s.prog 0 ((d.progs.length : Int) - 1)
                          case false =>
                            have hE : startE d.progs.length d.cpus s = 1 := by rw [HP.out, a0]; rfl
                            have HE := Lib.hid (startsE_at HS.out hg.out (by rw [hE]; decide))
                            have HE1 := Lib.hid hE
                            clear hE
                            go_wp2_with (first
                              | rw [hw1.out]
                              | (go_at_call 31; (with_reducible refine (RIn_any _ _ _ _).mono ?_); rintro e w' ⟨rfl, rfl⟩; rw [a0]))
                            go_ret
                            exact ⟨ret_i9 (by rw [HC.out, if_pos hgp.out, HE.out, HE1.out]; rfl), hb1⟩
                          case true =>
                            cases a1 : inB s.grade 0 7
                            case false =>
                              have hE : startE d.progs.length d.cpus s = 1 := by rw [HP.out, a0, a1]; rfl
                              have HE := Lib.hid (startsE_at HS.out hg.out (by rw [hE]; decide))
                              have HE1 := Lib.hid hE
                              clear hE
                              go_wp2_with (first
                                | rw [hw1.out]
                                | (go_at_call 31; (with_reducible refine (RIn_any _ _ _ _).mono ?_); rintro e w' ⟨rfl, rfl⟩; first | rw [a0] | rw [a1]))
                              go_ret
                              exact ⟨ret_i9 (by rw [HC.out, if_pos hgp.out, HE.out, HE1.out]; rfl), hb1⟩
                            case true =>
                              go_wp2_with (first
                                | rw [hw1.out]
                                | (go_at_call 31; (with_reducible refine (RIn_any _ _ _ _).mono ?_); rintro e w' ⟨rfl, rfl⟩; first | rw [a0] | rw [a1]))
                              have hS1 := Lib.hid (Blk.new wr 58 #[.int .i64 s.prog, .int .i64 s.grade, .int .u64 (s.mask : Int)])
                              obtain ⟨W, hW⟩ : ∃ W, W = wr.alloc (.cells #[.int .i64 s.prog, .int .i64 s.grade, .int .u64 (s.mask : Int)] 58) := ⟨_, rfl⟩
                              rw [← hW] at hb1 hD1 hB1 hS1 ⊢
                              have HG : Hid (Blk W.drew w.heap.size 27 (d.cells (.slice pp d.progs.length cp) (.slice (some ⟨b, off, none⟩) d.starts.length cs))) := hB1
                              have HS1 : Hid (Blk W.drew wr.heap.size 58 #[.int .i64 s.prog, .int .i64 s.grade, .int .u64 (s.mask : Int)]) := hS1
                              have hgb : w.heap.size < W.heap.size := hB1.out.lt
                              have hgs : wr.heap.size < W.heap.size := hS1.out.lt
                              clear hW q0 q1 q2 q3 q4 q5 q6 q7 q8 r0 r1 r2 r3 r4 r5 r6 r7 r8 e0 e1 e2
                              have hbd : Below w.heap.size w W.drew := hb1.drew
                              refine wp_region_held_drew (S := fun w' => Below W.heap.size W.drew w') (by kernel_rfl) (Below.refl _ _) (fun hS0 => ?_)
                              refine wpAnyH_take (i := 0) (v := ?_) rfl (by kernel_rfl) (by kernel_rfl) (by kernel_rfl) (fun _ _ _ h => h) (Or.inl ⟨by rfl, ?_⟩) hS0 ?_
                              rotate_left
                              · intro w1 _; go_simp; with_reducible rfl
                              try simp only [List.getElem_toArray, List.getElem_cons_zero, Act.put, List.setIfInBounds_toArray, List.set_cons_zero, List.set_cons_succ]
                              refine wpAnyH_take (i := 1) (v := .int .u64 (s.mask : Int)) rfl (by kernel_rfl) (by kernel_rfl) (by kernel_rfl) (fun _ _ _ h => h) (Or.inl ⟨by rfl, fun w1 hS1 => by have h0 := (HS1.out.below hS1 hgs).cell 2; simp at h0; go_simp⟩) hS0 ?_
                              try simp only [List.getElem_toArray, List.getElem_cons_zero, List.getElem_cons_succ, Act.put, List.setIfInBounds_toArray, List.set_cons_zero, List.set_cons_succ]
                              refine wpAnyH_take (i := 2) (v := ?_) rfl (by kernel_rfl) (by kernel_rfl) (by kernel_rfl) (fun _ _ _ h => h) (Or.inl ⟨by rfl, ?_⟩) hS0 ?_
                              rotate_left
                              · intro w1 _; go_simp; with_reducible rfl
                              try simp only [List.getElem_toArray, List.getElem_cons_zero, List.getElem_cons_succ, Act.put, List.setIfInBounds_toArray, List.set_cons_zero, List.set_cons_succ]
                              refine wpAnyH_take (i := 3) (v := .int .i64 d.cpus) rfl (by kernel_rfl) (by kernel_rfl) (by kernel_rfl) (fun _ _ _ h => h) (Or.inl ⟨by rfl, fun w1 hS1 => by have h0 : w1.cell? ⟨w.heap.size, 0, none⟩ = some (.int .i64 d.cpus) := (HG.out.below hS1 hgb).cell 0; go_simp⟩) hS0 ?_
                              try simp only [List.getElem_toArray, List.getElem_cons_zero, List.getElem_cons_succ, Act.put, List.setIfInBounds_toArray, List.set_cons_zero, List.set_cons_succ]
                              refine wpAnyH_ready (rs := [4]) (by kernel_rfl) (by simp) ?_
                              refine AllReadyH.cons rfl (fun K hK => ?_) AllReadyH.nil
                              go_simp
                              refine (Sets.RAll_any _ _).mono ?_
                              rintro e w2 ⟨rfl, hb2⟩
                              dsimp only
                              refine hK.out _ _ (Below.trans hS0 (hb2.mono (hS0).size)) (fun hS1 => ?_); clear hK K
                              refine wpAnyH_take (i := 5) (v := ?_) rfl (by kernel_rfl) (by kernel_rfl) (by kernel_rfl) (fun _ _ _ h => h) (Or.inl ⟨by rfl, ?_⟩) hS1 ?_
                              rotate_left
                              · intro w1 _; go_simp; with_reducible rfl
                              try simp only [List.getElem_toArray, List.getElem_cons_zero, List.getElem_cons_succ, Act.put, List.setIfInBounds_toArray, List.set_cons_zero, List.set_cons_succ]
                              refine wpAnyH_take (i := 6) (v := ?_) rfl (by kernel_rfl) (by kernel_rfl) (by kernel_rfl) (fun _ _ _ h => h) (Or.inl ⟨by rfl, ?_⟩) hS1 ?_
                              rotate_left
                              · intro w1 _; go_simp; with_reducible rfl
                              try simp only [List.getElem_toArray, List.getElem_cons_zero, List.getElem_cons_succ, Act.put, List.setIfInBounds_toArray, List.set_cons_zero, List.set_cons_succ]
                              refine wpAnyH_done (by kernel_rfl) ?_ _
                              have hMR := Lib.hid (mask_run s.mask d.cpus HM.out (by omega) hc6)
                              have hbf : Below w.heap.size w w2 := hbd.trans (Below.mono (hS1 : Below W.heap.size W.drew w2) hbd.size)
                              have hD2 := Lib.hid (DV.later hD1.out.drew (hS1 : Below W.heap.size W.drew w2))
                              have hB2 := Lib.hid (Blk.below (w := W.drew) hB1.out (hS1 : Below W.heap.size W.drew w2) hgb)
                              by_cases hz : s.mask &&& allN d.cpus = 0
                              · have hE : startE d.progs.length d.cpus s = 10 := by rw [HP.out, a0, a1, hz]; rfl
                                have HE := Lib.hid (startsE_at HS.out hg.out (by rw [hE]; decide))
                                have HE1 := Lib.hid hE
                                have HZ : Hid (bits .and .u64 (s.mask : Int) (Sets.allN d.cpus : Nat) = 0) := Lib.hid (by rw [hMR.out, hz]; rfl)
                                clear hE hz
                                simp only [HZ.out]
                                go_wp2
                                go_ret
                                exact ⟨ret_i9 (by rw [HC.out, if_pos hgp.out, HE.out, HE1.out]; rfl), hbf⟩
                              · have hE : startE d.progs.length d.cpus s = 0 := by rw [HP.out, a0, a1]; simp only [if_true]; rw [if_neg hz]
                                have HE := Lib.hid (all_take_succ hg.out HS.out hE)
                                have hz2 : ((s.mask &&& allN d.cpus : Nat) : Int) ≠ 0 := by omega
                                have HZ : Hid ((bits .and .u64 (s.mask : Int) (Sets.allN d.cpus : Nat) == 0) = false) := Lib.hid (by rw [hMR.out]; simpa using hz2)
                                clear hE hz hz2
                                simp only [HZ.out]
                                go_wp2
                                go_roundw
                                case rel => exact ⟨k + 1, by omega, by go_num, HE, hD2, hB2, hbf⟩
                                case measure => simp [intOf]; omega
                        · obtain rfl : k = d.starts.length := by omega
                          have hgs := startsE_zero.2 (by have := hg.out; rwa [List.take_length] at this)
                          go_wp2
                          go_ret
                          exact ⟨ret_i9 (by rw [HC.out, if_pos hgp.out, hgs]; rfl), hb⟩

end Go.Proofs.YtbdimfcdpkldpaaGreatDoor
