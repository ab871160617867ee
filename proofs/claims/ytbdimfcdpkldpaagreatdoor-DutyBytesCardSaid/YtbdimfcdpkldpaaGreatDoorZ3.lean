/- The contracts of duty's numbersFit, checkProgs, checkStart and Check. -/
import Derived.Test.YtbdimfcdpkldpaaGreatDoorZ2
namespace Go.Proofs.YtbdimfcdpkldpaaGreatDoor
open Go.RowKit

theorem fit_parts {d : Dut} (h1 : inB d.threads 1 64 = true) : (powB d.cap && decide (d.threads ≤ d.cap)) = (inB d.cap d.threads 256 && (d.cap == capU d.cap)) := by
  unfold inB at h1 ⊢
  simp only [Bool.and_eq_true, decide_eq_true_eq] at h1
  by_cases h2 : d.threads ≤ d.cap
  · rw [decide_eq_true h2, Bool.and_true, Bool.true_and]
    by_cases h3 : d.cap ≤ 256
    · rw [decide_eq_true h3, Bool.true_and, capU_pow (by omega) h3]
    · rw [decide_eq_false h3, Bool.false_and]
      cases hp : powB d.cap with
      | false => rfl
      | true => have := powB_cases hp; omega
  · rw [decide_eq_false h2, Bool.and_false, Bool.false_and, Bool.false_and]
theorem rangeY_fit {d : Dut} (h1 : inB d.threads 1 64 = true) : rangeY d = (inB d.cpus 1 64 && inB d.locks 0 64 && (inB d.cap d.threads 256 && (d.cap == capU d.cap)) && (decide (1 ≤ d.boost) && decide (d.boost ≤ 65536))) := by
  rw [rangeY_parts, ← fit_parts h1, h1]
  simp only [Bool.and_true, Bool.and_assoc]

set_option maxHeartbeats 2000000 in
theorem Fit_0 (d : Dut) (pp ps : Option Addr) (np cp ns cs : Nat) (w : World) (c0 : inB d.cpus 1 64 = false) :
    Calls Tryz.prog 58 #[.agg (d.cells (.slice pp np cp) (.slice ps ns cs))] w fun e w' => e = .returned (.bool false) ∧ Below w.heap.size w w' := by
  obtain ⟨q0, q1, q2, q3, q4, q5, q6, q7, q8⟩ := duty_at (Blk.new w 27 (d.cells (.slice pp np cp) (.slice ps ns cs)))
  go_enter Tryz.func58, Tryz.ntmps58
  go_wp2_with (first
    | (refine wpList_box_agg rfl 27 _ rfl (d.cells (.slice pp np cp) (.slice ps ns cs)) rfl ?_)
    | (go_at_call 100; (with_reducible refine (Within_any _ _ _ _).mono ?_); rintro e w' ⟨rfl, rfl⟩; first | rw [c0]))
  go_ret
  exact ⟨rfl, below_alloc1 _ _⟩

set_option maxHeartbeats 2000000 in
theorem Fit_1 (d : Dut) (pp ps : Option Addr) (np cp ns cs : Nat) (w : World) (c0 : inB d.cpus 1 64 = true) (c1 : inB d.threads 1 64 = false) :
    Calls Tryz.prog 58 #[.agg (d.cells (.slice pp np cp) (.slice ps ns cs))] w fun e w' => e = .returned (.bool false) ∧ Below w.heap.size w w' := by
  obtain ⟨q0, q1, q2, q3, q4, q5, q6, q7, q8⟩ := duty_at (Blk.new w 27 (d.cells (.slice pp np cp) (.slice ps ns cs)))
  go_enter Tryz.func58, Tryz.ntmps58
  go_wp2_with (first
    | (refine wpList_box_agg rfl 27 _ rfl (d.cells (.slice pp np cp) (.slice ps ns cs)) rfl ?_)
    | (go_at_call 100; (with_reducible refine (Within_any _ _ _ _).mono ?_); rintro e w' ⟨rfl, rfl⟩; first | rw [c0] | rw [c1]))
  go_ret
  exact ⟨rfl, below_alloc1 _ _⟩

set_option maxHeartbeats 2000000 in
theorem Fit_2 (d : Dut) (pp ps : Option Addr) (np cp ns cs : Nat) (w : World) (c0 : inB d.cpus 1 64 = true) (c1 : inB d.threads 1 64 = true) (c2 : inB d.locks 0 64 = false) :
    Calls Tryz.prog 58 #[.agg (d.cells (.slice pp np cp) (.slice ps ns cs))] w fun e w' => e = .returned (.bool false) ∧ Below w.heap.size w w' := by
  obtain ⟨q0, q1, q2, q3, q4, q5, q6, q7, q8⟩ := duty_at (Blk.new w 27 (d.cells (.slice pp np cp) (.slice ps ns cs)))
  go_enter Tryz.func58, Tryz.ntmps58
  go_wp2_with (first
    | (refine wpList_box_agg rfl 27 _ rfl (d.cells (.slice pp np cp) (.slice ps ns cs)) rfl ?_)
    | (go_at_call 100; (with_reducible refine (Within_any _ _ _ _).mono ?_); rintro e w' ⟨rfl, rfl⟩; first | rw [c0] | rw [c1] | rw [c2]))
  go_ret
  exact ⟨rfl, below_alloc1 _ _⟩

set_option maxHeartbeats 2000000 in
theorem Fit_3 (d : Dut) (pp ps : Option Addr) (np cp ns cs : Nat) (w : World) (c0 : inB d.cpus 1 64 = true) (c1 : inB d.threads 1 64 = true) (c2 : inB d.locks 0 64 = true) (c3 : inB d.cap d.threads 256 = false) :
    Calls Tryz.prog 58 #[.agg (d.cells (.slice pp np cp) (.slice ps ns cs))] w fun e w' => e = .returned (.bool false) ∧ Below w.heap.size w w' := by
  obtain ⟨q0, q1, q2, q3, q4, q5, q6, q7, q8⟩ := duty_at (Blk.new w 27 (d.cells (.slice pp np cp) (.slice ps ns cs)))
  have hwi : ∀ W, Calls Tryz.prog 100 #[.int .i64 d.cap, .int .i64 d.threads, .int .i64 256] W fun e w' => e = .returned (.bool false) ∧ w' = W := fun W => by
    refine (Within_any d.cap d.threads 256 W).mono fun e w' h => ⟨by rw [h.1, c3], h.2.symm⟩
  clear c3
  go_enter Tryz.func58, Tryz.ntmps58
  go_wp2_with (first
    | (refine wpList_box_agg rfl 27 _ rfl (d.cells (.slice pp np cp) (.slice ps ns cs)) rfl ?_)
    | (go_at_call 100; (with_reducible refine (Within_any _ _ _ _).mono ?_); rintro e w' ⟨rfl, rfl⟩; first | rw [c0] | rw [c1] | rw [c2]))
  go_quiet (first
    | (go_at_call 100; exact Calls.quiet_of_same (hwi _))
    | (go_at_call 69; exact Calls.quiet_of_same (hru _)))
  go_wp2
  go_ret
  exact ⟨rfl, Below.drewN' (below_alloc1 _ _) _⟩

set_option maxHeartbeats 2000000 in
theorem Fit_4 (d : Dut) (pp ps : Option Addr) (np cp ns cs : Nat) (w : World) (c0 : inB d.cpus 1 64 = true) (c1 : inB d.threads 1 64 = true) (c2 : inB d.locks 0 64 = true) (c3 : inB d.cap d.threads 256 = true) (c4 : (d.cap == capU d.cap) = false) :
    Calls Tryz.prog 58 #[.agg (d.cells (.slice pp np cp) (.slice ps ns cs))] w fun e w' => e = .returned (.bool false) ∧ Below w.heap.size w w' := by
  obtain ⟨q0, q1, q2, q3, q4, q5, q6, q7, q8⟩ := duty_at (Blk.new w 27 (d.cells (.slice pp np cp) (.slice ps ns cs)))
  have hwi : ∀ W, Calls Tryz.prog 100 #[.int .i64 d.cap, .int .i64 d.threads, .int .i64 256] W fun e w' => e = .returned (.bool true) ∧ w' = W := fun W => by
    refine (Within_any d.cap d.threads 256 W).mono fun e w' h => ⟨by rw [h.1, c3], h.2.symm⟩
  have hru : ∀ W, Calls Tryz.prog 69 #[.int .i64 d.cap] W fun e w' => e = .returned (.int .i64 (capU d.cap)) ∧ w' = W := fun W => by
    refine (RoundUp_any d.cap (by unfold inB at c3; simp only [Bool.and_eq_true, decide_eq_true_eq] at c3; omega) W).mono fun e w' h => ⟨h.1, h.2.symm⟩
  have t4 : (d.cap != capU d.cap) = true := by rw [bne, c4]; rfl
  clear c3 c4
  go_enter Tryz.func58, Tryz.ntmps58
  go_wp2_with (first
    | (refine wpList_box_agg rfl 27 _ rfl (d.cells (.slice pp np cp) (.slice ps ns cs)) rfl ?_)
    | (go_at_call 100; (with_reducible refine (Within_any _ _ _ _).mono ?_); rintro e w' ⟨rfl, rfl⟩; first | rw [c0] | rw [c1] | rw [c2]))
  go_quiet (first
    | (go_at_call 100; exact Calls.quiet_of_same (hwi _))
    | (go_at_call 69; exact Calls.quiet_of_same (hru _)))
  go_wp2
  go_ret
  exact ⟨rfl, Below.drewN' (below_alloc1 _ _) _⟩

set_option maxHeartbeats 2000000 in
theorem Fit_5 (d : Dut) (pp ps : Option Addr) (np cp ns cs : Nat) (w : World) (c0 : inB d.cpus 1 64 = true) (c1 : inB d.threads 1 64 = true) (c2 : inB d.locks 0 64 = true) (c3 : inB d.cap d.threads 256 = true) (c4 : (d.cap == capU d.cap) = true) (c5 : decide (1 ≤ d.boost) = false) :
    Calls Tryz.prog 58 #[.agg (d.cells (.slice pp np cp) (.slice ps ns cs))] w fun e w' => e = .returned (.bool false) ∧ Below w.heap.size w w' := by
  obtain ⟨q0, q1, q2, q3, q4, q5, q6, q7, q8⟩ := duty_at (Blk.new w 27 (d.cells (.slice pp np cp) (.slice ps ns cs)))
  have hwi : ∀ W, Calls Tryz.prog 100 #[.int .i64 d.cap, .int .i64 d.threads, .int .i64 256] W fun e w' => e = .returned (.bool true) ∧ w' = W := fun W => by
    refine (Within_any d.cap d.threads 256 W).mono fun e w' h => ⟨by rw [h.1, c3], h.2.symm⟩
  have hru : ∀ W, Calls Tryz.prog 69 #[.int .i64 d.cap] W fun e w' => e = .returned (.int .i64 (capU d.cap)) ∧ w' = W := fun W => by
    refine (RoundUp_any d.cap (by unfold inB at c3; simp only [Bool.and_eq_true, decide_eq_true_eq] at c3; omega) W).mono fun e w' h => ⟨h.1, h.2.symm⟩
  have t4 : (d.cap != capU d.cap) = false := by rw [bne, c4]; rfl
  have t5 : decide ((1 : Int) ≤ (d.boost : Int)) = false := by simp at c5 ⊢; omega
  clear c3 c4 c5
  go_enter Tryz.func58, Tryz.ntmps58
  go_wp2_with (first
    | (refine wpList_box_agg rfl 27 _ rfl (d.cells (.slice pp np cp) (.slice ps ns cs)) rfl ?_)
    | (go_at_call 100; (with_reducible refine (Within_any _ _ _ _).mono ?_); rintro e w' ⟨rfl, rfl⟩; first | rw [c0] | rw [c1] | rw [c2]))
  go_quiet (first
    | (go_at_call 100; exact Calls.quiet_of_same (hwi _))
    | (go_at_call 69; exact Calls.quiet_of_same (hru _)))
  go_wp2
  go_ret
  exact ⟨rfl, Below.drewN' (below_alloc1 _ _) _⟩

set_option maxHeartbeats 2000000 in
theorem Fit_6 (d : Dut) (pp ps : Option Addr) (np cp ns cs : Nat) (w : World) (c0 : inB d.cpus 1 64 = true) (c1 : inB d.threads 1 64 = true) (c2 : inB d.locks 0 64 = true) (c3 : inB d.cap d.threads 256 = true) (c4 : (d.cap == capU d.cap) = true) (c5 : decide (1 ≤ d.boost) = true) :
    Calls Tryz.prog 58 #[.agg (d.cells (.slice pp np cp) (.slice ps ns cs))] w fun e w' => e = .returned (.bool (decide (d.boost ≤ 65536))) ∧ Below w.heap.size w w' := by
  obtain ⟨q0, q1, q2, q3, q4, q5, q6, q7, q8⟩ := duty_at (Blk.new w 27 (d.cells (.slice pp np cp) (.slice ps ns cs)))
  have hwi : ∀ W, Calls Tryz.prog 100 #[.int .i64 d.cap, .int .i64 d.threads, .int .i64 256] W fun e w' => e = .returned (.bool true) ∧ w' = W := fun W => by
    refine (Within_any d.cap d.threads 256 W).mono fun e w' h => ⟨by rw [h.1, c3], h.2.symm⟩
  have hru : ∀ W, Calls Tryz.prog 69 #[.int .i64 d.cap] W fun e w' => e = .returned (.int .i64 (capU d.cap)) ∧ w' = W := fun W => by
    refine (RoundUp_any d.cap (by unfold inB at c3; simp only [Bool.and_eq_true, decide_eq_true_eq] at c3; omega) W).mono fun e w' h => ⟨h.1, h.2.symm⟩
  have t4 : (d.cap != capU d.cap) = false := by rw [bne, c4]; rfl
  have t5 : decide ((1 : Int) ≤ (d.boost : Int)) = true := by simp at c5 ⊢; omega
  obtain ⟨B, hB⟩ : ∃ B, decide ((d.boost : Int) ≤ 65536) = B := ⟨_, rfl⟩
  have HB : Hid (decide (d.boost ≤ 65536) = B) := Lib.hid (by rw [← hB, decide_eq_decide]; omega)
  clear c3 c4 c5
  go_enter Tryz.func58, Tryz.ntmps58
  go_wp2_with (first
    | (refine wpList_box_agg rfl 27 _ rfl (d.cells (.slice pp np cp) (.slice ps ns cs)) rfl ?_)
    | (go_at_call 100; (with_reducible refine (Within_any _ _ _ _).mono ?_); rintro e w' ⟨rfl, rfl⟩; first | rw [c0] | rw [c1] | rw [c2]))
  go_quiet (first
    | (go_at_call 100; exact Calls.quiet_of_same (hwi _))
    | (go_at_call 69; exact Calls.quiet_of_same (hru _)))
  go_wp2
  go_ret
  exact ⟨ret_b9 (by rw [HB.out]), Below.drewN' (below_alloc1 _ _) _⟩

theorem Fit_any (d : Dut) (pp ps : Option Addr) (np cp ns cs : Nat) (w : World) :
    Calls Tryz.prog 58 #[.agg (d.cells (.slice pp np cp) (.slice ps ns cs))] w fun e w' => e = .returned (.bool (rangeY d)) ∧ Below w.heap.size w w' := by
  cases c0 : inB d.cpus 1 64
  case false => rw [rangeY_parts, c0]; exact Fit_0 d pp ps np cp ns cs w c0
  case true =>
    cases c1 : inB d.threads 1 64
    case false => rw [rangeY_parts, c0, c1]; exact Fit_1 d pp ps np cp ns cs w c0 c1
    case true =>
      rw [rangeY_fit c1, c0]
      cases c2 : inB d.locks 0 64
      case false => exact Fit_2 d pp ps np cp ns cs w c0 c1 c2
      case true =>
        cases c3 : inB d.cap d.threads 256
        case false => exact Fit_3 d pp ps np cp ns cs w c0 c1 c2 c3
        case true =>
          cases c4 : d.cap == capU d.cap
          case false => exact Fit_4 d pp ps np cp ns cs w c0 c1 c2 c3 c4
          case true =>
            cases c5 : decide (1 ≤ d.boost)
            case false => exact Fit_5 d pp ps np cp ns cs w c0 c1 c2 c3 c4 c5
            case true => exact Fit_6 d pp ps np cp ns cs w c0 c1 c2 c3 c4 c5

theorem BadProg_any (p : Option Addr) (c : Nat) (ps : List Deed) (hok : ∀ d ∈ ps, d.ok) (G : Nat → Prop) (w : World) (h : RP w G (.slice p ps.length c) ps) :
    Calls Tryz.prog 102 #[.slice p ps.length c] w fun e w' => e = .returned (.bool (decide (checkN ps ≠ 0))) ∧ Below w.heap.size w w' := by
  have hc := Check_any p c ps hok G w h
  clear h
  go_enter Tryz.func102, Tryz.ntmps102
  go_wp2_with (go_at_call 85; (with_reducible refine hc.mono ?_); clear hc; rintro e w2 ⟨rfl, hb2⟩)
  go_ret
  exact ⟨ret_b9 (by rw [Bool.eq_iff_iff]; simp), hb2⟩

set_option maxRecDepth 100000 in
set_option maxHeartbeats 2000000 in
theorem IndexBad_any (pp : Option Addr) (cp : Nat) (pss : List (List Deed)) (hok : ∀ p ∈ pss, ∀ d ∈ p, d.ok) (G : Nat → Prop) (w : World) (h : RPP w G (.slice pp pss.length cp) pss) (hl : pss.length ≤ 64) :
    Calls Tryz.prog 101 #[.slice pp pss.length cp, .func (.func 102) #[] #[]] w fun e w' => (∃ r : Int, e = .returned (.int .i64 r) ∧ ((r = -1 ∧ progsE pss = 0) ∨ ∃ (k : Nat) (p : List Deed), r = (k : Int) ∧ k < pss.length ∧ pss[k]? = some p ∧ progsE pss = checkN p ∧ checkN p ≠ 0)) ∧ Below w.heap.size w w' := by
  have H := Lib.hid h
  have hOK := Lib.hid hok
  clear h hok
  go_enter Tryz.func101, Tryz.ntmps101
  go_wp2
  go_loopw [8] (fun t wr => ∃ k : Nat, k ≤ pss.length ∧ t = .int .i64 k ∧ Hid (∀ q ∈ pss.take k, checkN q = 0) ∧ Hid (RPP wr G (.slice pp pss.length cp) pss) ∧ Below w.heap.size w wr) (fun t _ => pss.length - (intOf t).toNat)
  case atStart => exact ⟨0, by omega, rfl, Lib.hid (by simp), H, Below.refl _ _⟩
  case round =>
    obtain ⟨k, hk, rfl, hg, hD, hb⟩ := hrel
    clear H
    by_cases hlt : k < pss.length
    · obtain ⟨p, hp⟩ : ∃ p, pss[k]? = some p := ⟨_, List.getElem?_eq_getElem hlt⟩
      obtain ⟨b, off, u, cu, rfl, hbs, hGb, hcell, hrp⟩ := hD.out.at hp
      have hchk := BadProg_any u cu p (hOK.out p (List.mem_of_getElem? hp)) G wr hrp
      have HP := Lib.hid hp
      clear hp hrp hbs hGb
      by_cases he : checkN p = 0
      · rw [show decide (checkN p ≠ 0) = false by simpa using he] at hchk
        have HE := Lib.hid (all_take_succ hg.out HP.out he)
        clear he
        go_wp2_with (go_at_call 102; (with_reducible refine hchk.mono ?_); clear hchk; rintro e w2 ⟨rfl, hb2⟩)
        go_roundw
        case rel => exact ⟨k + 1, by omega, by go_num, HE, Lib.hid (hD.out.later hb2), below_pre hb hb2⟩
        case measure => simp [intOf]; omega
      · have HE := Lib.hid (progsE_at HP.out hg.out he)
        rw [show decide (checkN p ≠ 0) = true by simpa using he] at hchk
        have HE0 := Lib.hid he
        clear he
        go_wp2_with (go_at_call 102; (with_reducible refine hchk.mono ?_); clear hchk; rintro e w2 ⟨rfl, hb2⟩)
        go_ret
        exact ⟨⟨_, rfl, .inr ⟨k, p, rfl, hlt, HP.out, HE.out, HE0.out⟩⟩, below_pre hb hb2⟩
    · obtain rfl : k = pss.length := by omega
      have hgp := Lib.hid (progsE_zero.2 (by have := hg.out; rwa [List.take_length] at this))
      go_wp2
      go_ret
      exact ⟨⟨_, rfl, .inl ⟨rfl, hgp.out⟩⟩, hb⟩

set_option maxRecDepth 100000 in
set_option maxHeartbeats 2000000 in
theorem CheckProgs_any (pp : Option Addr) (cp : Nat) (pss : List (List Deed)) (hok : ∀ p ∈ pss, ∀ d ∈ p, d.ok) (G : Nat → Prop) (w : World) (h : RPP w G (.slice pp pss.length cp) pss) (hl : pss.length ≤ 64) :
    Calls Tryz.prog 59 #[.slice pp pss.length cp] w fun e w' => e = .returned (.int .i64 (progsE pss : Nat)) ∧ Below w.heap.size w w' := by
  by_cases hz : progsE pss = 0
  · have hix : Calls Tryz.prog 101 #[.slice pp pss.length cp, .func (.func 102) #[] #[]] w fun e w' => e = .returned (.int .i64 (-1)) ∧ Below w.heap.size w w' := by
      refine (IndexBad_any pp cp pss hok G w h hl).mono ?_
      rintro e w' ⟨⟨r, rfl, hr⟩, hb⟩
      rcases hr with hr | ⟨k, p, _, _, _, h1, h2⟩
      · rw [hr.1]
        exact ⟨rfl, hb⟩
      · exact absurd (h1.symm.trans hz) h2
    rw [hz]
    clear h hok hz
    go_enter Tryz.func59, Tryz.ntmps59
    go_wp2_with (go_at_call 101; (with_reducible refine hix.mono ?_); clear hix; rintro e w2 ⟨rfl, hb2⟩)
    go_ret
    exact ⟨rfl, hb2⟩
  · have hix : Calls Tryz.prog 101 #[.slice pp pss.length cp, .func (.func 102) #[] #[]] w fun e w' => (∃ (k : Nat) (p : List Deed), e = .returned (.int .i64 (k : Int)) ∧ k < pss.length ∧ pss[k]? = some p ∧ progsE pss = checkN p) ∧ Below w.heap.size w w' := by
      refine (IndexBad_any pp cp pss hok G w h hl).mono ?_
      rintro e w' ⟨⟨r, rfl, hr⟩, hb⟩
      rcases hr with hr | ⟨k, p, rfl, h0, h3, h1, h2⟩
      · exact absurd hr.2 hz
      · exact ⟨⟨k, p, rfl, h0, h3, h1⟩, hb⟩
    have H := Lib.hid h
    have hOK := Lib.hid hok
    clear h hok hz
    go_enter Tryz.func59, Tryz.ntmps59
    go_wp2_with (first
      | (go_at_call 101; (with_reducible refine hix.mono ?_); clear hix; rintro e w2 ⟨⟨k, p, rfl, hk, hp, hE⟩, hb2⟩; have t0 : decide ((k : Int) < 0) = false := (by simp); obtain ⟨b, off, u, cu, rfl, _, _, hcell, hrp⟩ := (H.out.later hb2).at hp; have hchk := Check_any u cu p (hOK.out p (List.mem_of_getElem? hp)) G w2 hrp; have HE := Lib.hid hE; clear hp hE hrp)
      | (go_at_call 85; (with_reducible refine hchk.mono ?_); clear hchk; rintro e w3 ⟨rfl, hb3⟩))
    go_ret
    exact ⟨ret_i9 (by rw [HE.out]), below_pre hb2 hb3⟩

set_option maxRecDepth 100000 in
set_option maxHeartbeats 4000000 in
theorem CheckStart_any (d : Dut) (pp ps : Option Addr) (cp ns cs : Nat) (hc0 : 0 ≤ d.cpus) (hc6 : d.cpus ≤ 64) (hl : d.progs.length ≤ 64) (s : St) (hm : s.mask < 18446744073709551616) (w : World) :
    Calls Tryz.prog 60 #[.agg (d.cells (.slice pp d.progs.length cp) (.slice ps ns cs)), .agg #[.int .i64 s.prog, .int .i64 s.grade, .int .u64 (s.mask : Int)]] w fun e w' => e = .returned (.int .i64 (startE d.progs.length d.cpus s : Nat)) ∧ Below w.heap.size w w' := by
  obtain ⟨q0, q1, q2, q3, q4, q5, q6, q7, q8⟩ := duty_at ((Blk.new w 27 (d.cells (.slice pp d.progs.length cp) (.slice ps ns cs))).alloc (.cells #[.int .i64 s.prog, .int .i64 s.grade, .int .u64 (s.mask : Int)] 58))
  have hb := below_alloc2 w (.cells (d.cells (.slice pp d.progs.length cp) (.slice ps ns cs)) 27) (.cells #[.int .i64 s.prog, .int .i64 s.grade, .int .u64 (s.mask : Int)] 58)
  have hw1 : Hid (wrap64 ((d.progs.length : Int) - 1) = (d.progs.length : Int) - 1) := Lib.hid (by rw [IntWalk.wrap64_in _ (by omega)])
  have hP := startE_parts d.progs.length d.cpus s
  have hall : ∀ W, Calls Tryz.prog 104 #[.int .i64 d.cpus] W fun e w' => e = .returned (.int .u64 (Sets.allN d.cpus : Nat)) ∧ w' = W := fun W => (Sets.All_any d.cpus W).mono fun e w' h => ⟨h.1, h.2.symm⟩
  cases a0 : inB s.prog 0 ((d.progs.length : Int) - 1)
  case false =>
    rw [a0] at hP
    have hE : startE d.progs.length d.cpus s = 1 := hP
    rw [hE]
    clear hE hP
    go_enter Tryz.func60, Tryz.ntmps60
    go_wp2_with (first
      | (refine wpList_box_agg rfl 27 _ rfl (d.cells (.slice pp d.progs.length cp) (.slice ps ns cs)) rfl ?_)
      | rw [hw1.out]
      | (go_at_call 100; (with_reducible refine (Within_any _ _ _ _).mono ?_); rintro e w' ⟨rfl, rfl⟩; rw [a0]))
    go_ret
    exact ⟨rfl, hb⟩
  case true =>
    cases a1 : inB s.grade 0 7
    case false =>
      rw [a0, a1] at hP
      have hE : startE d.progs.length d.cpus s = 1 := hP
      rw [hE]
      clear hE hP
      go_enter Tryz.func60, Tryz.ntmps60
      go_wp2_with (first
        | (refine wpList_box_agg rfl 27 _ rfl (d.cells (.slice pp d.progs.length cp) (.slice ps ns cs)) rfl ?_)
        | rw [hw1.out]
        | (go_at_call 100; (with_reducible refine (Within_any _ _ _ _).mono ?_); rintro e w' ⟨rfl, rfl⟩; rw [a0])
        | (go_at_call 103; (with_reducible refine (GIs_any _ _).mono ?_); rintro e w' ⟨rfl, rfl⟩; rw [a1]))
      go_ret
      exact ⟨rfl, hb⟩
    case true =>
      rw [a0, a1] at hP
      simp only [if_true] at hP
      have hMR := Lib.hid (mask_run s.mask d.cpus hm hc0 hc6)
      by_cases hz : s.mask &&& allN d.cpus = 0
      · rw [if_pos hz] at hP
        rw [hP]
        have HZ : (bits .and .u64 (s.mask : Int) (Sets.allN d.cpus : Nat) == 0) = true := by rw [hMR.out, hz]; rfl
        clear hP hz hMR hm
        go_enter Tryz.func60, Tryz.ntmps60
        go_wp2_with (first
          | (refine wpList_box_agg rfl 27 _ rfl (d.cells (.slice pp d.progs.length cp) (.slice ps ns cs)) rfl ?_)
          | rw [hw1.out]
          | (go_at_call 100; (with_reducible refine (Within_any _ _ _ _).mono ?_); rintro e w' ⟨rfl, rfl⟩; rw [a0])
          | (go_at_call 103; (with_reducible refine (GIs_any _ _).mono ?_); rintro e w' ⟨rfl, rfl⟩; rw [a1]))
        go_quiet ((go_at_call 104; exact Calls.quiet_of_same (hall _)))
        go_wp2
        go_ret
        exact ⟨rfl, Below.drewN' hb _⟩
      · rw [if_neg hz] at hP
        rw [hP]
        have HZ : (bits .and .u64 (s.mask : Int) (Sets.allN d.cpus : Nat) == 0) = false := by rw [hMR.out]; simp; omega
        clear hP hz hMR hm
        go_enter Tryz.func60, Tryz.ntmps60
        go_wp2_with (first
          | (refine wpList_box_agg rfl 27 _ rfl (d.cells (.slice pp d.progs.length cp) (.slice ps ns cs)) rfl ?_)
          | rw [hw1.out]
          | (go_at_call 100; (with_reducible refine (Within_any _ _ _ _).mono ?_); rintro e w' ⟨rfl, rfl⟩; rw [a0])
          | (go_at_call 103; (with_reducible refine (GIs_any _ _).mono ?_); rintro e w' ⟨rfl, rfl⟩; rw [a1]))
        go_quiet ((go_at_call 104; exact Calls.quiet_of_same (hall _)))
        go_wp2
        go_ret
        exact ⟨rfl, Below.drewN' hb _⟩
end Go.Proofs.YtbdimfcdpkldpaaGreatDoor
