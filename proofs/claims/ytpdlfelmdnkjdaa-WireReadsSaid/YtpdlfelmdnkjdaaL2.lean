/- The walk of WireReads. -/
import Derived.Test.YtpdlfelmdnkjdaaR4
namespace Go.Proofs.Ytpdlfelmdnkjdaa
open Go.RowKit

theorem read_any (r : Nat) (t : Thg) (ht : t.ok) (st : RS) (v : Value) (G : Nat → Prop) (w : World) (hG : ∀ k, G k → k < r) (hv : RsV w G v st) (hr : RdAt w r st) (hb : ∃ p n c, t.bv = .slice p n c) :
    Calls Try.prog 14 #[.pointer (some ⟨r, 0, none⟩), v, thgV t] w fun e w' => ReadOut w w' r G e (stepR t st) := by
  obtain ⟨p, n, c, rfl⟩ := hv.shape
  obtain ⟨kind, x, bv, bs, most⟩ := t
  obtain ⟨hk, hx, hm⟩ := ht
  obtain ⟨pb, nb, cb, hbv⟩ := hb
  simp only at hk hx hm hbv
  subst hbv
  unfold stepR thgV
  simp only
  rcases (show kind % 5 = 0 ∨ kind % 5 = 1 ∨ kind % 5 = 2 ∨ kind % 5 = 3 ∨ kind % 5 = 4 by omega) with h | h | h | h | h
  · rw [if_pos h]; exact read_0 r p n c _ st kind x pb nb cb most hk h G w hG hv hr
  · rw [if_neg (by omega), if_pos h]; exact read_1 r p n c _ st kind x pb nb cb most hk h G w hG hv hr
  · rw [if_neg (by omega), if_neg (by omega), if_pos h]; exact read_2 r p n c _ st kind x pb nb cb most hk h G w hG hv hr
  · rw [if_neg (by omega), if_neg (by omega), if_neg (by omega), if_pos h]; exact read_3 r p n c _ st kind x pb nb cb most hk h hm G w hG hv hr
  · rw [if_neg (by omega), if_neg (by omega), if_neg (by omega), if_neg (by omega)]; exact read_4 r p n c _ st kind x pb nb cb most hk h G w hG hv hr

theorem neq_self_ (a : Int) : (a != a) = false := by simp
/-- Behind the round: reader and reference stand alike. -/
def LInv (w wr : World) (r N : Nat) (st : RS) : Prop :=
  Below w.heap.size w wr ∧ RdAt wr r st ∧ ∃ p n c, Blk wr N 39 #[.slice p n c, .int .i64 (st.code : Int)] ∧ n = st.left.length ∧ RsV wr (fun k => k < w.heap.size) (.agg #[.slice p n c, .int .i64 (st.code : Int)]) st
theorem LInv.drewN {w wr : World} {r N : Nat} {st : RS} (h : LInv w wr r N st) (n : Nat) : LInv w (wr.drewN n) r N st := by
  obtain ⟨hb, hr, p, m, c, hk, hn, hv⟩ := h
  refine ⟨⟨hb.os, hb.tape, hb.output, hb.size, hb.block⟩, ?_, p, m, c, hk, hn, ?_⟩
  · cases st <;> exact hr
  · cases st <;> exact hv
theorem RsV.len {w : World} {G : Nat → Prop} {p : Option Addr} {n c : Nat} {y : Int} {st : RS} (h : RsV w G (.agg #[.slice p n c, .int .i64 y]) st) : n = st.left.length ∧ y = (st.code : Int) := by
  cases st with
  | ok l =>
    obtain ⟨⟨sl, hv, hr⟩, _⟩ := h
    obtain ⟨p', c', rfl, _⟩ := hr
    simp at hv
    exact ⟨by simp [RS.left, hv], by simp [RS.code, hv]⟩
  | err e =>
    obtain ⟨hv, _⟩ := h
    simp at hv
    exact ⟨by simp [RS.left, hv], by simp [RS.code, hv]⟩

set_option maxHeartbeats 6400000 in
theorem Reads_short (p : Option Addr) (nn c : Nat) (bl : List UInt8) (ts : List Thg) (vt : Value) (w : World) (hR : ReadsT w w.heap.size vt ts) (hb4 : bl.length ≤ 300) (hr0 : RV w (fun k => k < w.heap.size) (.slice p nn c) bl.length 1 (bl.map bV)) (hnn : nn = bl.length) :
    Calls Try.prog 4 #[.slice p nn c, vt] w fun e w' => e = .returned (.bool true) ∧ Below w.heap.size w w' := by
  obtain ⟨pt, ct, rfl, hm, ho, hc⟩ := hR
  unfold maxLen at hm
  have HO := Lib.hid ho
  have HC := Lib.hid hc
  clear ho hc
  subst hnn
  have hrd := Read_any w _ bl (by omega) _ hr0
  have HARG := Lib.hid hr0
  have hd3 : decide ((300 : Int) < (bl.length : Int)) = false := by simp; omega
  have hb5 : bl.length ≤ 4000 := by omega
  clear hr0
  go_enter Try.func4, Try.ntmps4
  go_wp2_with fail
  refine hrd.mono ?_
  clear hrd
  rintro e w1 ⟨⟨r, rfl, hrr, hrd⟩, hb1⟩
  have hrl := hrd.lt
  have h0 : LInv w (w1.alloc (.cells #[.slice p bl.length c, .int .i64 0] 39)) r w1.heap.size (.ok bl) := by
    refine ⟨hb1.alloc hb1.size _, hrd.alloc _, p, _, c, Blk.new _ _ _, ?_, ⟨⟨_, rfl, ?_⟩, hb5⟩⟩
    · exact rfl
    · exact (HARG.out.below hb1 (fun k _ hk => hk)).alloc _
  have H0 := Lib.hid h0
  have HRR := Lib.hid hrr
  have HRL := Lib.hid hrl
  have HW1 := Lib.hid hb1.size
  clear h0 hrd hb1 hrr hrl
  go_wp2_with fail
  go_loopw [7, 8] (fun ok i wr => ∃ (k : Nat) (st : RS), k ≤ ts.length ∧ k ≤ 30 ∧ i = .int .i64 k ∧ ok = .bool true ∧ Hid (LInv w wr r w1.heap.size st)) (fun _ i _ => ts.length - (intOf i).toNat)
  case atStart => exact ⟨0, _, by omega, by omega, rfl, rfl, H0⟩
  case round =>
    obtain ⟨k, st, hk, hk30, rfl, rfl, HI⟩ := hrel
    by_cases h1 : k < ts.length
    · by_cases h2 : k < 30
      · have hok := (HO.out ts[k] (List.getElem_mem h1)).1
        have hrv := (HO.out ts[k] (List.getElem_mem h1)).2
        obtain ⟨b, off, rfl, hb1, hb2, hcell⟩ := HC.out.resolve_left (by rintro rfl; simp at h1)
        obtain ⟨h3, h4, h5, h6⟩ := hcell k ts[k] (List.getElem?_eq_getElem h1)
        clear hcell
        generalize ts[k] = t at *
        obtain ⟨hb, hr, ps, ns, cs, hblk, hns, hv⟩ := HI.out
        subst hns
        have h3 := (hb.cell (p := ⟨b, off + k * 4, none⟩) hb2).trans h3
        have h4 := (hb.cell (p := ⟨b, off + k * 4 + 1, none⟩) hb2).trans h4
        have h5 := (hb.cell (p := ⟨b, off + k * 4 + 2, none⟩) hb2).trans h5
        have h6 := (hb.cell (p := ⟨b, off + k * 4 + 3, none⟩) hb2).trans h6
        have s0 : wr.cell? ⟨w1.heap.size, 0, none⟩ = some (.slice ps st.left.length cs) := hblk.cell 0
        have s1 : wr.cell? ⟨w1.heap.size, 1, none⟩ = some (.int .i64 (st.code : Int)) := hblk.cell 1
        obtain ⟨pb, cb, hbv, _⟩ := hrv
        have hcall : Calls Try.prog 14 #[.pointer (some ⟨r, 0, none⟩), .agg #[.slice ps st.left.length cs, .int .i64 (st.code : Int)], thgV t] wr.drew fun e w' => ReadOut wr w' r (fun k => k < w.heap.size) e (stepR t st) :=
          (read_any r t hok st _ (fun k => k < w.heap.size) wr.drew (fun k hk => by have := HRR.out; omega) (by cases st <;> exact hv) (by cases st <;> exact hr) ⟨_, _, _, hbv⟩).mono fun e w' h => ⟨h.1, h.2.1, ⟨h.2.2.os, h.2.2.tape, h.2.2.output, h.2.2.size, h.2.2.block⟩⟩
        have hcall' := hcall
        have HB := Lib.hid hb
        have HBLK := Lib.hid hblk
        clear hcall hb hr hblk hv HI hok
        rw [thgV, hbv] at hcall'
        have HCALL := Lib.hid hcall'
        rw [hbv] at h5
        have HNR := Lib.hid (show ¬ w1.heap.size = r by have := HRL.out; omega)
        clear hcall' hbv
        generalize hst2 : stepR t st = st2 at *
        clear hst2
        go_wp2
        go_region_with ((go_at_call 14; (with_reducible refine HCALL.out.mono ?_); rintro e w5 ⟨⟨v5, rfl, hv5⟩, ho⟩; obtain ⟨p5, n5, c5, rfl⟩ := hv5.shape; have k5 := HBLK.out.foot ho.2 HNR.out; have q0 := k5.cell 0; have q1 := k5.cell 1; have q2 := k5.frozen 0; have q3 := k5.frozen 1; simp only [List.getElem?_toArray, List.getElem?_cons_succ, List.getElem?_cons_zero] at q0 q1))
        all_goals
          have hL : LInv w ((w5.setCell ⟨w1.heap.size, 0, none⟩ (.slice p5 n5 c5)).setCell ⟨w1.heap.size, 1, none⟩ (.int .i64 (st2.code : Int))) r w1.heap.size st2 := by
            have hf : Foot (fun k => k = w1.heap.size) w5 ((w5.setCell ⟨w1.heap.size, 0, none⟩ (.slice p5 n5 c5)).setCell ⟨w1.heap.size, 1, none⟩ (.int .i64 (st2.code : Int))) := ((Foot.refl (fun k => k = w1.heap.size) w5).setCell (p := ⟨w1.heap.size, 0, none⟩) (.inl rfl) _).setCell (p := ⟨w1.heap.size, 1, none⟩) (.inl rfl) _
            have hb5' : Below w.heap.size w w5 := HB.out.trans (ho.2.below HB.out.size (fun k hk => by subst hk; exact HRR.out))
            refine ⟨hb5'.trans (hf.below hb5'.size (fun k hk => by subst hk; exact HW1.out)), ho.1.foot hf (fun k hk (e : k = w1.heap.size) => by have := HRL.out; omega), p5, n5, c5, (k5.set 0 _).set 1 _, hv5.len.1, hv5.foot hf (fun k hk (e : k = w1.heap.size) => by have := HW1.out; have hk' : k < w.heap.size := hk; omega)⟩
          generalize ((w5.setCell ⟨w1.heap.size, 0, none⟩ (.slice p5 n5 c5)).setCell ⟨w1.heap.size, 1, none⟩ (.int .i64 (st2.code : Int))) = w6 at hL ⊢
          obtain ⟨_, hr6, p6, n6, c6, k6, hn6, _⟩ := id hL
          subst hn6
          have s60 : w6.cell? ⟨w1.heap.size, 0, none⟩ = some (.slice p6 st2.left.length c6) := k6.cell 0
          have s61 : w6.cell? ⟨w1.heap.size, 1, none⟩ = some (.int .i64 (st2.code : Int)) := k6.cell 1
          have HERR : Hid (∀ n, Calls Try.prog 15 #[.pointer (some ⟨r, 0, none⟩)] (w6.drewN n) fun e w' => e = .returned (.int .i64 (st2.code : Int)) ∧ w' = w6.drewN n) := Lib.hid (fun n => (Err_any r st2 (w6.drewN n) (by cases st2 <;> exact hr6)).mono fun _ _ h => ⟨h.1, h.2.symm⟩)
          have HLEFT : Hid (∀ n, Calls Try.prog 16 #[.pointer (some ⟨r, 0, none⟩)] (w6.drewN n) fun e w' => e = .returned (.int .i64 (st2.left.length : Int)) ∧ w' = w6.drewN n) := Lib.hid (fun n => (Left_any r st2 (w6.drewN n) (by cases st2 <;> exact hr6)).mono fun _ _ h => ⟨h.1, h.2.symm⟩)
          have HL := Lib.hid hL
          have t1 := neq_self_ (st2.code : Int)
          have t2 := neq_self_ (st2.left.length : Int)
          clear hL hr6 k6 ho hv5 k5 q0 q1 q2 q3 s0 s1 h3 h4 h5 h6
          go_wp2_with fail
          go_quiet ((first | (go_at_call 15; exact Calls.quiet_of_same (HERR.out _)) | (go_at_call 16; exact Calls.quiet_of_same (HLEFT.out _))))
          go_wp2
          go_roundw
          case rel => exact ⟨k + 1, st2, by omega, by omega, by go_num, rfl, Lib.hid (HL.out.drewN _)⟩
          case measure => simp [intOf]; omega
      · obtain rfl : k = 30 := by omega
        obtain ⟨hb, hr, ps, ns, cs, hblk, hns, hv⟩ := HI.out
        subst hns
        have s0 : wr.cell? ⟨w1.heap.size, 0, none⟩ = some (.slice ps st.left.length cs) := hblk.cell 0
        have s1 : wr.cell? ⟨w1.heap.size, 1, none⟩ = some (.int .i64 (st.code : Int)) := hblk.cell 1
        have HDN0 := Lib.hid (RDone_any r st wr.drew (by cases st <;> exact hr))
        have HRD0 := Lib.hid (RefDone_any (.agg #[.slice ps st.left.length cs, .int .i64 (st.code : Int)]) st (fun k => k < w.heap.size) wr.drew (by cases st <;> exact hv))
        have HRD := Lib.hid hr
        have HB := Lib.hid hb
        have HDN6 : Hid (∀ w6, Below wr.heap.size wr w6 → Calls Try.prog 17 #[.pointer (some ⟨r, 0, none⟩)] w6 fun e w' => e = .returned (.int .i64 (rdDone st : Int)) ∧ w6 = w') := Lib.hid (fun w6 hb6 => RDone_any r st w6 (HRD.out.below hb6 (Nat.le_refl _)))
        generalize rdDone st = d at *
        have teq : ((d : Int) == (d : Int)) = true := by simp
        clear hb hr hblk hv HI
        go_wp2
        go_region_with (first
          | (go_at_call 17; (with_reducible refine HDN0.out.mono ?_); rintro e w5 ⟨rfl, rfl⟩)
          | (go_at_call 17; (with_reducible refine (HDN6.out _ hb6).mono ?_); rintro e w5 ⟨rfl, rfl⟩)
          | (go_at_call 18; (with_reducible refine HRD0.out.mono ?_); rintro e w6 ⟨rfl, hb6'⟩; have hb6 : Below wr.heap.size wr w6 := ⟨hb6'.os, hb6'.tape, hb6'.output, hb6'.size, hb6'.block⟩)
          | (go_at_call 12; refine (awake_any _).mono ?_; rintro e w7 ⟨rfl, hb7⟩))
        all_goals go_wp2
        all_goals go_ret
        all_goals exact ⟨by first | rfl | simp, below_pre (below_pre HB.out hb6) hb7⟩
    · obtain rfl : k = ts.length := by omega
      obtain ⟨hb, hr, ps, ns, cs, hblk, hns, hv⟩ := HI.out
      subst hns
      have s0 : wr.cell? ⟨w1.heap.size, 0, none⟩ = some (.slice ps st.left.length cs) := hblk.cell 0
      have s1 : wr.cell? ⟨w1.heap.size, 1, none⟩ = some (.int .i64 (st.code : Int)) := hblk.cell 1
      have HDN0 := Lib.hid (RDone_any r st wr.drew (by cases st <;> exact hr))
      have HRD0 := Lib.hid (RefDone_any (.agg #[.slice ps st.left.length cs, .int .i64 (st.code : Int)]) st (fun k => k < w.heap.size) wr.drew (by cases st <;> exact hv))
      have HRD := Lib.hid hr
      have HB := Lib.hid hb
      have HDN6 : Hid (∀ w6, Below wr.heap.size wr w6 → Calls Try.prog 17 #[.pointer (some ⟨r, 0, none⟩)] w6 fun e w' => e = .returned (.int .i64 (rdDone st : Int)) ∧ w6 = w') := Lib.hid (fun w6 hb6 => RDone_any r st w6 (HRD.out.below hb6 (Nat.le_refl _)))
      generalize rdDone st = d at *
      have teq : ((d : Int) == (d : Int)) = true := by simp
      clear hb hr hblk hv HI
      go_wp2
      go_region_with (first
        | (go_at_call 17; (with_reducible refine HDN0.out.mono ?_); rintro e w5 ⟨rfl, rfl⟩)
        | (go_at_call 17; (with_reducible refine (HDN6.out _ hb6).mono ?_); rintro e w5 ⟨rfl, rfl⟩)
        | (go_at_call 18; (with_reducible refine HRD0.out.mono ?_); rintro e w6 ⟨rfl, hb6'⟩; have hb6 : Below wr.heap.size wr w6 := ⟨hb6'.os, hb6'.tape, hb6'.output, hb6'.size, hb6'.block⟩)
        | (go_at_call 12; refine (awake_any _).mono ?_; rintro e w7 ⟨rfl, hb7⟩))
      all_goals go_wp2
      all_goals go_ret
      all_goals exact ⟨by first | rfl | simp, below_pre (below_pre HB.out hb6) hb7⟩

set_option maxHeartbeats 6400000 in
theorem Reads_long (p : Option Addr) (nn c : Nat) (bl : List UInt8) (ts : List Thg) (vt : Value) (w : World) (hR : ReadsT w w.heap.size vt ts) (hcm : c ≤ maxLen) (hnc : nn ≤ c) (hnn : 300 < nn) (hb3 : bl.length = 300) (hr0 : RV w (fun k => k < w.heap.size) (.slice p 300 c) 300 1 (bl.map bV)) :
    Calls Try.prog 4 #[.slice p nn c, vt] w fun e w' => e = .returned (.bool true) ∧ Below w.heap.size w w' := by
  obtain ⟨pt, ct, rfl, hm, ho, hc⟩ := hR
  unfold maxLen at hm
  have HO := Lib.hid ho
  have HC := Lib.hid hc
  clear ho hc
  unfold maxLen at hcm
  have hr00 : RV w (fun k => k < w.heap.size) (.slice p 300 c) bl.length 1 (bl.map bV) := by rw [hb3]; exact hr0
  have hrd := Read_any w _ bl (by omega) _ hr00
  have HARG := Lib.hid hr00
  have HLEN := Lib.hid hb3
  have hb5 : bl.length ≤ 4000 := by omega
  have hd3 : decide ((300 : Int) < (nn : Int)) = true := by simp; omega
  clear hr0 hr00 hb3
  go_enter Try.func4, Try.ntmps4
  go_wp2_with fail
  refine hrd.mono ?_
  clear hrd
  rintro e w1 ⟨⟨r, rfl, hrr, hrd⟩, hb1⟩
  have hrl := hrd.lt
  have h0 : LInv w (w1.alloc (.cells #[.slice p 300 c, .int .i64 0] 39)) r w1.heap.size (.ok bl) := by
    refine ⟨hb1.alloc hb1.size _, hrd.alloc _, p, _, c, Blk.new _ _ _, ?_, ⟨⟨_, rfl, ?_⟩, hb5⟩⟩
    · exact HLEN.out.symm
    · exact (HARG.out.below hb1 (fun k _ hk => hk)).alloc _
  have H0 := Lib.hid h0
  have HRR := Lib.hid hrr
  have HRL := Lib.hid hrl
  have HW1 := Lib.hid hb1.size
  clear h0 hrd hb1 hrr hrl
  go_wp2_with fail
  go_loopw [7, 8] (fun ok i wr => ∃ (k : Nat) (st : RS), k ≤ ts.length ∧ k ≤ 30 ∧ i = .int .i64 k ∧ ok = .bool true ∧ Hid (LInv w wr r w1.heap.size st)) (fun _ i _ => ts.length - (intOf i).toNat)
  case atStart => exact ⟨0, _, by omega, by omega, rfl, rfl, H0⟩
  case round =>
    obtain ⟨k, st, hk, hk30, rfl, rfl, HI⟩ := hrel
    by_cases h1 : k < ts.length
    · by_cases h2 : k < 30
      · have hok := (HO.out ts[k] (List.getElem_mem h1)).1
        have hrv := (HO.out ts[k] (List.getElem_mem h1)).2
        obtain ⟨b, off, rfl, hb1, hb2, hcell⟩ := HC.out.resolve_left (by rintro rfl; simp at h1)
        obtain ⟨h3, h4, h5, h6⟩ := hcell k ts[k] (List.getElem?_eq_getElem h1)
        clear hcell
        generalize ts[k] = t at *
        obtain ⟨hb, hr, ps, ns, cs, hblk, hns, hv⟩ := HI.out
        subst hns
        have h3 := (hb.cell (p := ⟨b, off + k * 4, none⟩) hb2).trans h3
        have h4 := (hb.cell (p := ⟨b, off + k * 4 + 1, none⟩) hb2).trans h4
        have h5 := (hb.cell (p := ⟨b, off + k * 4 + 2, none⟩) hb2).trans h5
        have h6 := (hb.cell (p := ⟨b, off + k * 4 + 3, none⟩) hb2).trans h6
        have s0 : wr.cell? ⟨w1.heap.size, 0, none⟩ = some (.slice ps st.left.length cs) := hblk.cell 0
        have s1 : wr.cell? ⟨w1.heap.size, 1, none⟩ = some (.int .i64 (st.code : Int)) := hblk.cell 1
        obtain ⟨pb, cb, hbv, _⟩ := hrv
        have hcall : Calls Try.prog 14 #[.pointer (some ⟨r, 0, none⟩), .agg #[.slice ps st.left.length cs, .int .i64 (st.code : Int)], thgV t] wr.drew fun e w' => ReadOut wr w' r (fun k => k < w.heap.size) e (stepR t st) :=
          (read_any r t hok st _ (fun k => k < w.heap.size) wr.drew (fun k hk => by have := HRR.out; omega) (by cases st <;> exact hv) (by cases st <;> exact hr) ⟨_, _, _, hbv⟩).mono fun e w' h => ⟨h.1, h.2.1, ⟨h.2.2.os, h.2.2.tape, h.2.2.output, h.2.2.size, h.2.2.block⟩⟩
        have hcall' := hcall
        have HB := Lib.hid hb
        have HBLK := Lib.hid hblk
        clear hcall hb hr hblk hv HI hok
        rw [thgV, hbv] at hcall'
        have HCALL := Lib.hid hcall'
        rw [hbv] at h5
        have HNR := Lib.hid (show ¬ w1.heap.size = r by have := HRL.out; omega)
        clear hcall' hbv
        generalize hst2 : stepR t st = st2 at *
        clear hst2
        go_wp2
        go_region_with ((go_at_call 14; (with_reducible refine HCALL.out.mono ?_); rintro e w5 ⟨⟨v5, rfl, hv5⟩, ho⟩; obtain ⟨p5, n5, c5, rfl⟩ := hv5.shape; have k5 := HBLK.out.foot ho.2 HNR.out; have q0 := k5.cell 0; have q1 := k5.cell 1; have q2 := k5.frozen 0; have q3 := k5.frozen 1; simp only [List.getElem?_toArray, List.getElem?_cons_succ, List.getElem?_cons_zero] at q0 q1))
        all_goals
          have hL : LInv w ((w5.setCell ⟨w1.heap.size, 0, none⟩ (.slice p5 n5 c5)).setCell ⟨w1.heap.size, 1, none⟩ (.int .i64 (st2.code : Int))) r w1.heap.size st2 := by
            have hf : Foot (fun k => k = w1.heap.size) w5 ((w5.setCell ⟨w1.heap.size, 0, none⟩ (.slice p5 n5 c5)).setCell ⟨w1.heap.size, 1, none⟩ (.int .i64 (st2.code : Int))) := ((Foot.refl (fun k => k = w1.heap.size) w5).setCell (p := ⟨w1.heap.size, 0, none⟩) (.inl rfl) _).setCell (p := ⟨w1.heap.size, 1, none⟩) (.inl rfl) _
            have hb5' : Below w.heap.size w w5 := HB.out.trans (ho.2.below HB.out.size (fun k hk => by subst hk; exact HRR.out))
            refine ⟨hb5'.trans (hf.below hb5'.size (fun k hk => by subst hk; exact HW1.out)), ho.1.foot hf (fun k hk (e : k = w1.heap.size) => by have := HRL.out; omega), p5, n5, c5, (k5.set 0 _).set 1 _, hv5.len.1, hv5.foot hf (fun k hk (e : k = w1.heap.size) => by have := HW1.out; have hk' : k < w.heap.size := hk; omega)⟩
          generalize ((w5.setCell ⟨w1.heap.size, 0, none⟩ (.slice p5 n5 c5)).setCell ⟨w1.heap.size, 1, none⟩ (.int .i64 (st2.code : Int))) = w6 at hL ⊢
          obtain ⟨_, hr6, p6, n6, c6, k6, hn6, _⟩ := id hL
          subst hn6
          have s60 : w6.cell? ⟨w1.heap.size, 0, none⟩ = some (.slice p6 st2.left.length c6) := k6.cell 0
          have s61 : w6.cell? ⟨w1.heap.size, 1, none⟩ = some (.int .i64 (st2.code : Int)) := k6.cell 1
          have HERR : Hid (∀ n, Calls Try.prog 15 #[.pointer (some ⟨r, 0, none⟩)] (w6.drewN n) fun e w' => e = .returned (.int .i64 (st2.code : Int)) ∧ w' = w6.drewN n) := Lib.hid (fun n => (Err_any r st2 (w6.drewN n) (by cases st2 <;> exact hr6)).mono fun _ _ h => ⟨h.1, h.2.symm⟩)
          have HLEFT : Hid (∀ n, Calls Try.prog 16 #[.pointer (some ⟨r, 0, none⟩)] (w6.drewN n) fun e w' => e = .returned (.int .i64 (st2.left.length : Int)) ∧ w' = w6.drewN n) := Lib.hid (fun n => (Left_any r st2 (w6.drewN n) (by cases st2 <;> exact hr6)).mono fun _ _ h => ⟨h.1, h.2.symm⟩)
          have HL := Lib.hid hL
          have t1 := neq_self_ (st2.code : Int)
          have t2 := neq_self_ (st2.left.length : Int)
          clear hL hr6 k6 ho hv5 k5 q0 q1 q2 q3 s0 s1 h3 h4 h5 h6
          go_wp2_with fail
          go_quiet ((first | (go_at_call 15; exact Calls.quiet_of_same (HERR.out _)) | (go_at_call 16; exact Calls.quiet_of_same (HLEFT.out _))))
          go_wp2
          go_roundw
          case rel => exact ⟨k + 1, st2, by omega, by omega, by go_num, rfl, Lib.hid (HL.out.drewN _)⟩
          case measure => simp [intOf]; omega
      · obtain rfl : k = 30 := by omega
        obtain ⟨hb, hr, ps, ns, cs, hblk, hns, hv⟩ := HI.out
        subst hns
        have s0 : wr.cell? ⟨w1.heap.size, 0, none⟩ = some (.slice ps st.left.length cs) := hblk.cell 0
        have s1 : wr.cell? ⟨w1.heap.size, 1, none⟩ = some (.int .i64 (st.code : Int)) := hblk.cell 1
        have HDN0 := Lib.hid (RDone_any r st wr.drew (by cases st <;> exact hr))
        have HRD0 := Lib.hid (RefDone_any (.agg #[.slice ps st.left.length cs, .int .i64 (st.code : Int)]) st (fun k => k < w.heap.size) wr.drew (by cases st <;> exact hv))
        have HRD := Lib.hid hr
        have HB := Lib.hid hb
        have HDN6 : Hid (∀ w6, Below wr.heap.size wr w6 → Calls Try.prog 17 #[.pointer (some ⟨r, 0, none⟩)] w6 fun e w' => e = .returned (.int .i64 (rdDone st : Int)) ∧ w6 = w') := Lib.hid (fun w6 hb6 => RDone_any r st w6 (HRD.out.below hb6 (Nat.le_refl _)))
        generalize rdDone st = d at *
        have teq : ((d : Int) == (d : Int)) = true := by simp
        clear hb hr hblk hv HI
        go_wp2
        go_region_with (first
          | (go_at_call 17; (with_reducible refine HDN0.out.mono ?_); rintro e w5 ⟨rfl, rfl⟩)
          | (go_at_call 17; (with_reducible refine (HDN6.out _ hb6).mono ?_); rintro e w5 ⟨rfl, rfl⟩)
          | (go_at_call 18; (with_reducible refine HRD0.out.mono ?_); rintro e w6 ⟨rfl, hb6'⟩; have hb6 : Below wr.heap.size wr w6 := ⟨hb6'.os, hb6'.tape, hb6'.output, hb6'.size, hb6'.block⟩)
          | (go_at_call 12; refine (awake_any _).mono ?_; rintro e w7 ⟨rfl, hb7⟩))
        all_goals go_wp2
        all_goals go_ret
        all_goals exact ⟨by first | rfl | simp, below_pre (below_pre HB.out hb6) hb7⟩
    · obtain rfl : k = ts.length := by omega
      obtain ⟨hb, hr, ps, ns, cs, hblk, hns, hv⟩ := HI.out
      subst hns
      have s0 : wr.cell? ⟨w1.heap.size, 0, none⟩ = some (.slice ps st.left.length cs) := hblk.cell 0
      have s1 : wr.cell? ⟨w1.heap.size, 1, none⟩ = some (.int .i64 (st.code : Int)) := hblk.cell 1
      have HDN0 := Lib.hid (RDone_any r st wr.drew (by cases st <;> exact hr))
      have HRD0 := Lib.hid (RefDone_any (.agg #[.slice ps st.left.length cs, .int .i64 (st.code : Int)]) st (fun k => k < w.heap.size) wr.drew (by cases st <;> exact hv))
      have HRD := Lib.hid hr
      have HB := Lib.hid hb
      have HDN6 : Hid (∀ w6, Below wr.heap.size wr w6 → Calls Try.prog 17 #[.pointer (some ⟨r, 0, none⟩)] w6 fun e w' => e = .returned (.int .i64 (rdDone st : Int)) ∧ w6 = w') := Lib.hid (fun w6 hb6 => RDone_any r st w6 (HRD.out.below hb6 (Nat.le_refl _)))
      generalize rdDone st = d at *
      have teq : ((d : Int) == (d : Int)) = true := by simp
      clear hb hr hblk hv HI
      go_wp2
      go_region_with (first
        | (go_at_call 17; (with_reducible refine HDN0.out.mono ?_); rintro e w5 ⟨rfl, rfl⟩)
        | (go_at_call 17; (with_reducible refine (HDN6.out _ hb6).mono ?_); rintro e w5 ⟨rfl, rfl⟩)
        | (go_at_call 18; (with_reducible refine HRD0.out.mono ?_); rintro e w6 ⟨rfl, hb6'⟩; have hb6 : Below wr.heap.size wr w6 := ⟨hb6'.os, hb6'.tape, hb6'.output, hb6'.size, hb6'.block⟩)
        | (go_at_call 12; refine (awake_any _).mono ?_; rintro e w7 ⟨rfl, hb7⟩))
      all_goals go_wp2
      all_goals go_ret
      all_goals exact ⟨by first | rfl | simp, below_pre (below_pre HB.out hb6) hb7⟩

theorem Reads_walk (v : Value) (l : List UInt8) (vt : Value) (ts : List Thg) (w : World) (hr : RV w (fun k => k < w.heap.size) v l.length 1 (l.map bV)) (hR : ReadsT w w.heap.size vt ts) :
    Calls Try.prog 4 #[v, vt] w fun e w' => e = .returned (.bool true) ∧ Below w.heap.size w w' := by
  by_cases h : 300 < l.length
  · obtain ⟨p, c, rfl, hnc, hcm, hr6⟩ := hr.first 300 (by omega)
    have hlen : (l.take 300).length = 300 := by rw [List.length_take]; omega
    rw [Nat.mul_one, ← List.map_take] at hr6
    exact Reads_long p _ c (l.take 300) ts vt w hR hcm hnc h hlen hr6
  · obtain ⟨p, c, rfl, _⟩ := id hr
    exact Reads_short p _ c l ts vt w hR (by omega) hr rfl
end Go.Proofs.Ytpdlfelmdnkjdaa
