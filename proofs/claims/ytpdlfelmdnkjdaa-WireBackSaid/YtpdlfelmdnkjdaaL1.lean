/- The walk of WireWrites. -/
import Derived.Test.YtpdlfelmdnkjdaaW9
namespace Go.Proofs.Ytpdlfelmdnkjdaa
open Go.RowKit

/-- A slice of things that reads as a list; what they hold lies below block B. -/
def ReadsT (w : World) (B : Nat) (v : Value) (ts : List Thg) : Prop :=
  ∃ p c, v = .slice p ts.length c ∧ ts.length ≤ maxLen ∧ (∀ t ∈ ts, t.ok ∧ RV w (fun k => k < B) t.bv t.bs.length 1 (t.bs.map bV)) ∧
    (ts = [] ∨ ∃ b off, p = some ⟨b, off, none⟩ ∧ b < B ∧ b < w.heap.size ∧ ∀ k t, ts[k]? = some t → w.cell? ⟨b, off + k * 4, none⟩ = some (.int .u8 (t.kind : Int)) ∧ w.cell? ⟨b, off + k * 4 + 1, none⟩ = some (.int .u64 (t.x : Int)) ∧ w.cell? ⟨b, off + k * 4 + 2, none⟩ = some t.bv ∧ w.cell? ⟨b, off + k * 4 + 3, none⟩ = some (.int .i64 t.most))
theorem ReadsT.below {w w' : World} {B : Nat} {v : Value} {ts : List Thg} (h : ReadsT w B v ts) (hb : Below B w w') : ReadsT w' B v ts := by
  obtain ⟨p, c, rfl, hm, ho, hc⟩ := h
  refine ⟨p, c, rfl, hm, fun t ht => ⟨(ho t ht).1, (ho t ht).2.below hb (fun k _ hk => hk)⟩, hc.imp id fun ⟨b, off, hp, hB, hlt, hcell⟩ => ⟨b, off, hp, hB, Nat.lt_of_lt_of_le hlt hb.size, fun k t ht => ?_⟩⟩
  obtain ⟨h1, h2, h3, h4⟩ := hcell k t ht
  exact ⟨(hb.cell (p := ⟨b, _, none⟩) hB).trans h1, (hb.cell (p := ⟨b, _, none⟩) hB).trans h2, (hb.cell (p := ⟨b, _, none⟩) hB).trans h3, (hb.cell (p := ⟨b, _, none⟩) hB).trans h4⟩

/-- The bytes of the first k things. -/
def allB (ts : List Thg) (k : Nat) : List UInt8 := (ts.take k).flatMap laidB
theorem allB_snoc (ts : List Thg) (k : Nat) (t : Thg) (h : ts[k]? = some t) : allB ts (k + 1) = allB ts k ++ laidB t := by
  have hk : k < ts.length := (List.getElem?_eq_some_iff.1 h).1
  unfold allB
  rw [List.take_succ_eq_append_getElem hk, List.flatMap_append]
  have : ts[k] = t := (List.getElem?_eq_some_iff.1 h).2
  simp [this]
theorem laidB_len (t : Thg) (h : t.ok) : (laidB t).length ≤ 69 := by
  unfold laidB
  split
  · simp
  · split
    · have := numB_len t.x h.x; omega
    · split
      · simp [truB]
      · have := cut60_len t.bs
        have h9 := numB_len (cut60 t.bs).length (by omega)
        rw [bytB, List.length_append]; omega
theorem allB_len (ts : List Thg) (h : ∀ t ∈ ts, t.ok) : ∀ k, (allB ts k).length ≤ 69 * k
  | 0 => by simp [allB]
  | k + 1 => by
    by_cases hk : k < ts.length
    · have := laidB_len ts[k] (h _ (List.getElem_mem hk))
      have ih := allB_len ts h k
      rw [allB_snoc ts k ts[k] (List.getElem?_eq_getElem hk), List.length_append]; omega
    · have ih := allB_len ts h k
      have : allB ts (k + 1) = allB ts k := by unfold allB; rw [List.take_of_length_le (by omega), List.take_of_length_le (by omega)]
      rw [this]; omega
theorem laidB_pos (t : Thg) : 0 < (laidB t).length := by
  unfold laidB
  split
  · simp
  · split
    · simp [numB]
    · split
      · simp [truB]
      · simp [bytB, numB]
theorem stA_step (M : Nat) (ts : List Thg) (k : Nat) (t : Thg) (h : ts[k]? = some t) : wAdd M (wAdd M (some []) (allB ts k)) (laidB t) = wAdd M (some []) (allB ts (k + 1)) := by
  rw [wAdd_append, allB_snoc ts k t h]
theorem stA_len (M : Nat) (ts : List Thg) (h : ∀ t ∈ ts, t.ok) (k : Nat) (hk : k ≤ 30) : ∀ l, wAdd M (some []) (allB ts k) = some l → l.length ≤ 2070 := by
  intro l hl
  have h1 := allB_len ts h k
  rw [wAdd_len hl]
  simp only [List.length_nil]; omega
theorem WrAt.foot {S : Nat → Prop} {w w' : World} {B b most : Nat} {v : Value} {st : Option (List UInt8)} (h : WrAt w B b most v st) (hf : Foot S w w') (hb : ¬ S b) (hv : ∀ k, v.ownBlock = some k → ¬ S k) : WrAt w' B b most v st := by
  refine ⟨h.1, h.2.1, ?_⟩
  have h3 := h.2.2
  cases st with
  | none => exact h3.foot hf hb
  | some l => exact ⟨h3.1.foot hf hb, hf.own h3.2.1 hv, h3.2.2⟩

/-- Behind the round: the writer stands as asked, and what is wanted lies apart from it. -/
def WInv (w wr : World) (M : Nat) (st : Option (List UInt8)) (want full : Value) : Prop :=
  Below w.heap.size w wr ∧ full = .bool st.isNone ∧ ∃ v, WrAt wr w.heap.size w.heap.size M v st ∧ match st with
    | some l => wr.ownsRow w.heap.size 5 1 want l.length (l.map bV) ∧ ∀ k, want.ownBlock = some k → k ≠ w.heap.size ∧ v.ownBlock ≠ some k
    | none => True
theorem WrStep.inv {w wr w1 : World} {M : Nat} {v : Value} {st st1 : Option (List UInt8)} (hb : Below w.heap.size w wr) (h : WrAt wr w.heap.size w.heap.size M v st) (hs : WrStep wr w1 w.heap.size w.heap.size M v st1) : Below w.heap.size w w1 :=
  hb.trans (by
    obtain ⟨v1, _, hf, _⟩ := hs
    exact hf.below hb.size (fun k hk => by
      rcases hk with rfl | hk
      · exact Nat.le_refl _
      · exact h.2.1 k hk))

set_option maxHeartbeats 3200000 in
theorem Writes_pos (M : Nat) (hM : M ≤ 9223372036854775807) (v : Value) (ts : List Thg) (w : World) (hR : ReadsT w w.heap.size v ts) :
    Calls Try.prog 3 #[.int .i64 (M : Int), v] w fun e w' => e = .returned (.bool true) ∧ Below w.heap.size w w' := by
  obtain ⟨i0, hi, hz0, hz1, hz2⟩ := info_parts infoB
  obtain ⟨p, c, rfl, hm, ho, hc⟩ := hR
  unfold maxLen at hm
  have hnew := New_any (M : Int) w
  rw [show ((M : Int) : Int).toNat = M by omega] at hnew
  have HO := Lib.hid ho
  have HC := Lib.hid hc
  have HOK := Lib.hid (fun t ht => (ho t ht).1)
  clear ho hc
  go_enter Try.func3, Try.ntmps3
  go_wp2_with fail
  refine hnew.mono ?_
  clear hnew
  rintro e w0 ⟨rfl, hwr, hbel⟩
  have h0 : WInv w w0 M (wAdd M (some []) (allB ts 0)) (.slice none 0 0) (.bool false) := ⟨hbel, rfl, _, hwr, World.ownsRow_nil _ _ _ _, (fun k h => by cases h)⟩
  have H0 := Lib.hid h0
  clear hwr hbel h0
  go_wp2_with fail
  go_loopw [6, 7, 8] (fun want full i wr => ∃ k : Nat, k ≤ ts.length ∧ k ≤ 30 ∧ i = .int .i64 k ∧ Hid (WInv w wr M (wAdd M (some []) (allB ts k)) want full)) (fun _ _ i _ => ts.length - (intOf i).toNat)
  case atStart => exact ⟨0, by omega, by omega, rfl, H0⟩
  case round =>
    obtain ⟨k, hk, hk30, rfl, HI⟩ := hrel
    by_cases h1 : k < ts.length
    · by_cases h2 : k < 30
      · have hstep := stA_step M ts k ts[k] (List.getElem?_eq_getElem h1)
        have hok := HOK.out ts[k] (List.getElem_mem h1)
        have hrv := (HO.out ts[k] (List.getElem_mem h1)).2
        obtain ⟨b, off, rfl, hb1, hb2, hcell⟩ := HC.out.resolve_left (by rintro rfl; simp at h1)
        obtain ⟨h3, h4, h5, h6⟩ := hcell k ts[k] (List.getElem?_eq_getElem h1)
        have hlen := stA_len M ts HOK.out k hk30
        have hl69 := laidB_len ts[k] hok
        clear hcell
        generalize ts[k] = t at *
        generalize wAdd M (some []) (allB ts k) = st at *
        have HS := Lib.hid hstep
        clear hstep
        have HI' := HI.out
        obtain ⟨hb, rfl, v1, hw1, hown⟩ := HI'
        have h3 := (hb.cell (p := ⟨b, off + k * 4, none⟩) hb2).trans h3
        have h4 := (hb.cell (p := ⟨b, off + k * 4 + 1, none⟩) hb2).trans h4
        have h5 := (hb.cell (p := ⟨b, off + k * 4 + 2, none⟩) hb2).trans h5
        have h6 := (hb.cell (p := ⟨b, off + k * 4 + 3, none⟩) hb2).trans h6
        have hrv1 : RV wr (fun k => k ≠ w.heap.size ∧ v1.ownBlock ≠ some k) t.bv t.bs.length 1 (t.bs.map bV) :=
          (hrv.below hb (fun k hk _ => hk)).mono (fun k _ hk => ⟨by omega, fun e => by have := hw1.2.1 k e; omega⟩)
        have hwt := write_any t hok wr hrv1 (fun l h => by have := hlen l h; omega) (by unfold maxLen; omega) hw1
        have HRV := Lib.hid hrv
        have HB := Lib.hid hb
        have HW1 := Lib.hid hw1
        have HL := Lib.hid hlen
        have HOWN := Lib.hid hown
        have HK := Lib.hid hok
        clear hrv hrv1 hb hw1 HI hlen hown hok
        go_wp2_with fail
        refine hwt.mono ?_
        clear hwt
        rintro e w2 ⟨rfl, hs⟩
        have hb2' := WrStep.inv HB.out HW1.out hs
        have h3' : w2.cell? ⟨b, off + k * 4, none⟩ = some (.int .u8 (t.kind : Int)) := (hb2'.cell (p := ⟨b, off + k * 4, none⟩) hb1).trans ((HB.out.cell (p := ⟨b, off + k * 4, none⟩) hb1).symm.trans h3)
        have h4' : w2.cell? ⟨b, off + k * 4 + 1, none⟩ = some (.int .u64 (t.x : Int)) := (hb2'.cell (p := ⟨b, off + k * 4 + 1, none⟩) hb1).trans ((HB.out.cell (p := ⟨b, off + k * 4 + 1, none⟩) hb1).symm.trans h4)
        have h5' : w2.cell? ⟨b, off + k * 4 + 2, none⟩ = some t.bv := (hb2'.cell (p := ⟨b, off + k * 4 + 2, none⟩) hb1).trans ((HB.out.cell (p := ⟨b, off + k * 4 + 2, none⟩) hb1).symm.trans h5)
        have h6' : w2.cell? ⟨b, off + k * 4 + 3, none⟩ = some (.int .i64 t.most) := (hb2'.cell (p := ⟨b, off + k * 4 + 3, none⟩) hb1).trans ((HB.out.cell (p := ⟨b, off + k * 4 + 3, none⟩) hb1).symm.trans h6)
        clear h3 h4 h5 h6
        have hld := laid_any t HK.out w2 _ (HRV.out.below hb2' (fun k hk _ => hk))
        have HB2 := Lib.hid hb2'
        have HS2 := Lib.hid hs
        clear hb2' hs
        go_wp2_with fail
        refine hld.mono ?_
        clear hld
        rintro e w3 ⟨x, rfl, hx, hb3⟩
        obtain ⟨v2, hw2, hf2, hv2⟩ := HS2.out
        have hw3 := hw2.below hb3 (Nat.le_refl _)
        have HB3 := Lib.hid (HB2.out.trans (hb3.mono HB2.out.size))
        cases st with
        | none =>
          have hfin : WInv w w3 M (wAdd M (some []) (allB ts (k + 1))) u6 (.bool true) := by
            rw [← HS.out]
            exact ⟨HB3.out, rfl, v2, hw3, trivial⟩
          have HF := Lib.hid hfin
          obtain ⟨p', c', rfl, _⟩ := RV.of_own hx
          clear hfin hw3 hw2 hf2 hv2 hx hb3
          go_wp2
          go_roundw
          case rel => exact ⟨k + 1, by omega, by omega, by go_num, HF⟩
          case measure => simp [intOf]; omega
        | some l =>
          obtain ⟨hown, hdis⟩ := HOWN.out
          have hown2 := hf2.own hown (fun j hj e => by
            rcases e with e | e
            · exact (hdis j hj).1 e
            · exact (hdis j hj).2 e)
          have hown3 := (Foot.of_below (fun _ => False) hb3).own hown2 (fun _ _ => id)
          have hlw := hown2.lt
          have hll := HL.out l rfl
          obtain ⟨p2, c2, rfl, _⟩ := RV.of_own hown
          have hrx := RV.of_own hx
          obtain ⟨p', c', rfl, _⟩ := RV.of_own hx
          by_cases hov : M < l.length + (laidB t).length
          · have hnone : wAdd M (some l) (laidB t) = none := by simp only [wAdd, Option.bind_some, if_pos hov]
            have hfin : WInv w w3 M (wAdd M (some []) (allB ts (k + 1))) (.slice p2 l.length c2) (.bool true) := by
              rw [← HS.out]
              rw [hnone] at hw3 ⊢
              exact ⟨HB3.out, rfl, v2, hw3, trivial⟩
            have HF := Lib.hid hfin
            have hdec : decide (((laidB t).length : Int) > (M : Int) - (l.length : Int)) = true := by simp; omega
            clear hfin hw3 hw2 hf2 hv2 hx hb3 hown hown2 hown3 hdis hlw hnone hov hrx
            go_wp2
            go_roundw
            case rel => exact ⟨k + 1, by omega, by omega, by go_num, HF⟩
            case measure => simp [intOf]; omega
          · have hsome : wAdd M (some l) (laidB t) = some (l ++ laidB t) := by simp only [wAdd, Option.bind_some, if_neg hov]
            have hdec : decide (((laidB t).length : Int) > (M : Int) - (l.length : Int)) = false := by simp; omega
            rw [hsome] at hw3 hw2
            have hv2lt := hw2.2.2.2.1.lt
            have hd2 : ∀ j, (Value.slice p2 l.length c2).ownBlock = some j → j ≠ w.heap.size ∧ v2.ownBlock ≠ some j := by
              intro j hj
              refine ⟨(hdis j hj).1, ?_⟩
              rcases hv2 with e | e
              · rw [e]; exact (hdis j hj).2
              · intro h
                have h1 := e j h
                have h2 := (hown.lt j hj).2
                omega
            have HW3 := Lib.hid hw3
            have HX := Lib.hid hx
            have HV2 := Lib.hid hv2lt
            have HD2 := Lib.hid hd2
            have HLW := Lib.hid hlw
            have HS3 := Lib.hid hb3.size
            clear hw3 hw2 hf2 hv2 hx hb3 hown hown2 hdis hlw hov hd2 hv2lt
            go_wp2_with (at_builtin; refine wpList_append_rv _ rfl _ _ 25 rfl w.heap.size 5 i0 (.int .u8 0) 1 1 Try.underlying25 hi hz0 hz1 hz2 rfl (by decide) (.slice p2 l.length c2) _ _ rfl hown3 _ _ _ _ rfl hrx (all_one bV bV_one _) (by unfold maxLen; omega) (by omega) HB3.out.size ?_; clear hrx; intro v4 w4 hown4 hgrow hat)
            have hfin : WInv w w4 M (wAdd M (some []) (allB ts (k + 1))) v4 (.bool false) := by
              rw [← HS.out, hsome]
              have hs4 := HS3.out
              refine ⟨HB3.out.grown hgrow HB3.out.size (fun j hj => (hown3.lt j hj).1), rfl, v2, HW3.out.foot (Foot.of_grown hgrow) (fun e => (HD2.out _ e).1 rfl) (fun j hj e => (HD2.out _ e).2 hj), ?_, ?_⟩
              · rw [List.length_append, List.map_append]; exact hown4
              · intro j hj
                rcases hat with e | e
                · rw [e] at hj; exact HD2.out j hj
                · rw [e] at hj
                  injection hj with hj
                  subst hj
                  refine ⟨?_, fun h => ?_⟩
                  · have := HW3.out.2.2.1.lt; omega
                  · have := (HV2.out _ h).2; omega
            have HF := Lib.hid hfin
            clear hfin hown3 hown4 hgrow hat hsome
            go_roundw
            case rel => exact ⟨k + 1, by omega, by omega, by go_num, HF⟩
            case measure => simp [intOf]; omega
      · obtain rfl : k = 30 := by omega
        have hlen := stA_len M ts HOK.out 30 (by omega)
        generalize wAdd M (some []) (allB ts 30) = st at *
        obtain ⟨hb, rfl, v1, hw1, hown⟩ := HI.out
        have HB := Lib.hid hb
        cases st with
        | none =>
          have hd := WDone_full wr hw1
          clear HI hw1 hown hb hlen
          go_wp2_with (first
            | (go_at_call 11; refine hd.mono ?_; clear hd; rintro e w2 ⟨rfl, hb2⟩)
            | (go_at_call 12; refine (awake_any _).mono ?_; rintro e w3 ⟨rfl, hb3⟩))
          go_ret
          exact ⟨rfl, below_pre (below_pre HB.out hb2) hb3⟩
        | some l =>
          have hd := WDone_some wr l (by have := hlen l rfl; omega) hw1
          obtain ⟨hown, _⟩ := hown
          have HO1 := Lib.hid hown
          obtain ⟨p2, c2, rfl, _⟩ := RV.of_own hown
          clear HI hw1 hb hlen hown
          go_wp2_with fail
          refine hd.mono ?_
          clear hd
          rintro e w2 ⟨x, rfl, hx, hb2⟩
          have hcx := text_rv 25 5 9 Try.underlying25 Try.underlying5 Try.underlying9 (RV.of_own hx)
          have hcw := text_rv 25 5 9 Try.underlying25 Try.underlying5 Try.underlying9 ((RV.of_own HO1.out).below hb2 (fun k hk _ => hk))
          have HB2 := Lib.hid (below_pre HB.out hb2)
          obtain ⟨px, cx, rfl, _⟩ := RV.of_own hx
          generalize (ByteArray.mk l.toArray) = txt at hcx hcw
          clear hx hb2
          go_wp2_with (go_at_call 12; refine (awake_any _).mono ?_; rintro e w3 ⟨rfl, hb3⟩)
          go_ret
          exact ⟨rfl, below_pre HB2.out hb3⟩
    · obtain rfl : k = ts.length := by omega
      have hlen := stA_len M ts HOK.out ts.length (by omega)
      generalize wAdd M (some []) (allB ts ts.length) = st at *
      obtain ⟨hb, rfl, v1, hw1, hown⟩ := HI.out
      have HB := Lib.hid hb
      cases st with
      | none =>
        have hd := WDone_full wr hw1
        clear HI hw1 hown hb hlen
        go_wp2_with (first
          | (go_at_call 11; refine hd.mono ?_; clear hd; rintro e w2 ⟨rfl, hb2⟩)
          | (go_at_call 12; refine (awake_any _).mono ?_; rintro e w3 ⟨rfl, hb3⟩))
        go_ret
        exact ⟨rfl, below_pre (below_pre HB.out hb2) hb3⟩
      | some l =>
        have hd := WDone_some wr l (by have := hlen l rfl; omega) hw1
        obtain ⟨hown, _⟩ := hown
        have HO1 := Lib.hid hown
        obtain ⟨p2, c2, rfl, _⟩ := RV.of_own hown
        clear HI hw1 hb hlen hown
        go_wp2_with fail
        refine hd.mono ?_
        clear hd
        rintro e w2 ⟨x, rfl, hx, hb2⟩
        have hcx := text_rv 25 5 9 Try.underlying25 Try.underlying5 Try.underlying9 (RV.of_own hx)
        have hcw := text_rv 25 5 9 Try.underlying25 Try.underlying5 Try.underlying9 ((RV.of_own HO1.out).below hb2 (fun k hk _ => hk))
        have HB2 := Lib.hid (below_pre HB.out hb2)
        obtain ⟨px, cx, rfl, _⟩ := RV.of_own hx
        generalize (ByteArray.mk l.toArray) = txt at hcx hcw
        clear hx hb2
        go_wp2_with (go_at_call 12; refine (awake_any _).mono ?_; rintro e w3 ⟨rfl, hb3⟩)
        go_ret
        exact ⟨rfl, below_pre HB2.out hb3⟩

set_option maxHeartbeats 3200000 in
theorem Writes_neg (most : Int) (hneg : most < 0) (v : Value) (ts : List Thg) (w : World) (hR : ReadsT w w.heap.size v ts) :
    Calls Try.prog 3 #[.int .i64 most, v] w fun e w' => e = .returned (.bool true) ∧ Below w.heap.size w w' := by
  obtain ⟨i0, hi, hz0, hz1, hz2⟩ := info_parts infoB
  obtain ⟨p, c, rfl, hm, ho, hc⟩ := hR
  unfold maxLen at hm
  have hnew := New_any most w
  rw [show (most : Int).toNat = 0 by omega] at hnew
  have HO := Lib.hid ho
  have HC := Lib.hid hc
  have HOK := Lib.hid (fun t ht => (ho t ht).1)
  clear ho hc
  go_enter Try.func3, Try.ntmps3
  go_wp2_with fail
  refine hnew.mono ?_
  clear hnew
  rintro e w0 ⟨rfl, hwr, hbel⟩
  have h0 : WInv w w0 0 (wAdd 0 (some []) (allB ts 0)) (.slice none 0 0) (.bool false) := ⟨hbel, rfl, _, hwr, World.ownsRow_nil _ _ _ _, (fun k h => by cases h)⟩
  have H0 := Lib.hid h0
  clear hwr hbel h0
  go_wp2_with fail
  go_loopw [6, 7, 8] (fun want full i wr => ∃ k : Nat, k ≤ ts.length ∧ k ≤ 30 ∧ i = .int .i64 k ∧ Hid (WInv w wr 0 (wAdd 0 (some []) (allB ts k)) want full)) (fun _ _ i _ => ts.length - (intOf i).toNat)
  case atStart => exact ⟨0, by omega, by omega, rfl, H0⟩
  case round =>
    obtain ⟨k, hk, hk30, rfl, HI⟩ := hrel
    by_cases h1 : k < ts.length
    · by_cases h2 : k < 30
      · have hstep := stA_step 0 ts k ts[k] (List.getElem?_eq_getElem h1)
        have hok := HOK.out ts[k] (List.getElem_mem h1)
        have hrv := (HO.out ts[k] (List.getElem_mem h1)).2
        obtain ⟨b, off, rfl, hb1, hb2, hcell⟩ := HC.out.resolve_left (by rintro rfl; simp at h1)
        obtain ⟨h3, h4, h5, h6⟩ := hcell k ts[k] (List.getElem?_eq_getElem h1)
        have hlen := stA_len 0 ts HOK.out k hk30
        have hl69 := laidB_len ts[k] hok
        clear hcell
        generalize ts[k] = t at *
        generalize wAdd 0 (some []) (allB ts k) = st at *
        have HS := Lib.hid hstep
        clear hstep
        have HI' := HI.out
        obtain ⟨hb, rfl, v1, hw1, hown⟩ := HI'
        have h3 := (hb.cell (p := ⟨b, off + k * 4, none⟩) hb2).trans h3
        have h4 := (hb.cell (p := ⟨b, off + k * 4 + 1, none⟩) hb2).trans h4
        have h5 := (hb.cell (p := ⟨b, off + k * 4 + 2, none⟩) hb2).trans h5
        have h6 := (hb.cell (p := ⟨b, off + k * 4 + 3, none⟩) hb2).trans h6
        have hrv1 : RV wr (fun k => k ≠ w.heap.size ∧ v1.ownBlock ≠ some k) t.bv t.bs.length 1 (t.bs.map bV) :=
          (hrv.below hb (fun k hk _ => hk)).mono (fun k _ hk => ⟨by omega, fun e => by have := hw1.2.1 k e; omega⟩)
        have hwt := write_any t hok wr hrv1 (fun l h => by have := hlen l h; omega) (by unfold maxLen; omega) hw1
        have HRV := Lib.hid hrv
        have HB := Lib.hid hb
        have HW1 := Lib.hid hw1
        have hw1l : Hid (∀ l, st = some l → l.length ≤ 0) := Lib.hid (fun l e => by subst e; exact hw1.2.2.2.2)
        have HL := Lib.hid hlen
        have HOWN := Lib.hid hown
        have HK := Lib.hid hok
        clear hrv hrv1 hb hw1 HI hlen hown hok
        go_wp2_with fail
        refine hwt.mono ?_
        clear hwt
        rintro e w2 ⟨rfl, hs⟩
        have hb2' := WrStep.inv HB.out HW1.out hs
        have h3' : w2.cell? ⟨b, off + k * 4, none⟩ = some (.int .u8 (t.kind : Int)) := (hb2'.cell (p := ⟨b, off + k * 4, none⟩) hb1).trans ((HB.out.cell (p := ⟨b, off + k * 4, none⟩) hb1).symm.trans h3)
        have h4' : w2.cell? ⟨b, off + k * 4 + 1, none⟩ = some (.int .u64 (t.x : Int)) := (hb2'.cell (p := ⟨b, off + k * 4 + 1, none⟩) hb1).trans ((HB.out.cell (p := ⟨b, off + k * 4 + 1, none⟩) hb1).symm.trans h4)
        have h5' : w2.cell? ⟨b, off + k * 4 + 2, none⟩ = some t.bv := (hb2'.cell (p := ⟨b, off + k * 4 + 2, none⟩) hb1).trans ((HB.out.cell (p := ⟨b, off + k * 4 + 2, none⟩) hb1).symm.trans h5)
        have h6' : w2.cell? ⟨b, off + k * 4 + 3, none⟩ = some (.int .i64 t.most) := (hb2'.cell (p := ⟨b, off + k * 4 + 3, none⟩) hb1).trans ((HB.out.cell (p := ⟨b, off + k * 4 + 3, none⟩) hb1).symm.trans h6)
        clear h3 h4 h5 h6
        have hld := laid_any t HK.out w2 _ (HRV.out.below hb2' (fun k hk _ => hk))
        have HB2 := Lib.hid hb2'
        have HS2 := Lib.hid hs
        clear hb2' hs
        go_wp2_with fail
        refine hld.mono ?_
        clear hld
        rintro e w3 ⟨x, rfl, hx, hb3⟩
        obtain ⟨v2, hw2, hf2, hv2⟩ := HS2.out
        have hw3 := hw2.below hb3 (Nat.le_refl _)
        have HB3 := Lib.hid (HB2.out.trans (hb3.mono HB2.out.size))
        cases st with
        | none =>
          have hfin : WInv w w3 0 (wAdd 0 (some []) (allB ts (k + 1))) u6 (.bool true) := by
            rw [← HS.out]
            exact ⟨HB3.out, rfl, v2, hw3, trivial⟩
          have HF := Lib.hid hfin
          obtain ⟨p', c', rfl, _⟩ := RV.of_own hx
          clear hfin hw3 hw2 hf2 hv2 hx hb3
          go_wp2
          go_roundw
          case rel => exact ⟨k + 1, by omega, by omega, by go_num, HF⟩
          case measure => simp [intOf]; omega
        | some l =>
          obtain ⟨hown, hdis⟩ := HOWN.out
          have hown2 := hf2.own hown (fun j hj e => by
            rcases e with e | e
            · exact (hdis j hj).1 e
            · exact (hdis j hj).2 e)
          have hown3 := (Foot.of_below (fun _ => False) hb3).own hown2 (fun _ _ => id)
          have hlw := hown2.lt
          have hll := HL.out l rfl
          obtain ⟨p2, c2, rfl, _⟩ := RV.of_own hown
          have hrx := RV.of_own hx
          obtain ⟨p', c', rfl, _⟩ := RV.of_own hx
          obtain rfl : l = [] := List.length_eq_zero_iff.1 (by have := hw1l.out l rfl; omega)
          have hlp := laidB_pos t
          have hov : 0 < ([] : List UInt8).length + (laidB t).length := by simp; omega
          · have hnone : wAdd 0 (some []) (laidB t) = none := by simp only [wAdd, Option.bind_some, if_pos hov]
            have hfin : WInv w w3 0 (wAdd 0 (some []) (allB ts (k + 1))) (.slice p2 0 c2) (.bool true) := by
              rw [← HS.out]
              rw [hnone] at hw3 ⊢
              exact ⟨HB3.out, rfl, v2, hw3, trivial⟩
            have HF := Lib.hid hfin
            have hdec : decide (((laidB t).length : Int) > 0) = true := by simp; omega
            have hdec2 : decide (0 < (laidB t).length) = true := by simp; omega
            clear hfin hw3 hw2 hf2 hv2 hx hb3 hown hown2 hown3 hdis hlw hnone hov hrx
            go_wp2
            go_roundw
            case rel => exact ⟨k + 1, by omega, by omega, by go_num, HF⟩
            case measure => simp [intOf]; omega
      · obtain rfl : k = 30 := by omega
        have hlen := stA_len 0 ts HOK.out 30 (by omega)
        generalize wAdd 0 (some []) (allB ts 30) = st at *
        obtain ⟨hb, rfl, v1, hw1, hown⟩ := HI.out
        have HB := Lib.hid hb
        cases st with
        | none =>
          have hd := WDone_full wr hw1
          clear HI hw1 hown hb hlen
          go_wp2_with (first
            | (go_at_call 11; refine hd.mono ?_; clear hd; rintro e w2 ⟨rfl, hb2⟩)
            | (go_at_call 12; refine (awake_any _).mono ?_; rintro e w3 ⟨rfl, hb3⟩))
          go_ret
          exact ⟨rfl, below_pre (below_pre HB.out hb2) hb3⟩
        | some l =>
          have hd := WDone_some wr l (by have := hlen l rfl; omega) hw1
          obtain ⟨hown, _⟩ := hown
          have HO1 := Lib.hid hown
          obtain ⟨p2, c2, rfl, _⟩ := RV.of_own hown
          clear HI hw1 hb hlen hown
          go_wp2_with fail
          refine hd.mono ?_
          clear hd
          rintro e w2 ⟨x, rfl, hx, hb2⟩
          have hcx := text_rv 25 5 9 Try.underlying25 Try.underlying5 Try.underlying9 (RV.of_own hx)
          have hcw := text_rv 25 5 9 Try.underlying25 Try.underlying5 Try.underlying9 ((RV.of_own HO1.out).below hb2 (fun k hk _ => hk))
          have HB2 := Lib.hid (below_pre HB.out hb2)
          obtain ⟨px, cx, rfl, _⟩ := RV.of_own hx
          generalize (ByteArray.mk l.toArray) = txt at hcx hcw
          clear hx hb2
          go_wp2_with (go_at_call 12; refine (awake_any _).mono ?_; rintro e w3 ⟨rfl, hb3⟩)
          go_ret
          exact ⟨rfl, below_pre HB2.out hb3⟩
    · obtain rfl : k = ts.length := by omega
      have hlen := stA_len 0 ts HOK.out ts.length (by omega)
      generalize wAdd 0 (some []) (allB ts ts.length) = st at *
      obtain ⟨hb, rfl, v1, hw1, hown⟩ := HI.out
      have HB := Lib.hid hb
      cases st with
      | none =>
        have hd := WDone_full wr hw1
        clear HI hw1 hown hb hlen
        go_wp2_with (first
          | (go_at_call 11; refine hd.mono ?_; clear hd; rintro e w2 ⟨rfl, hb2⟩)
          | (go_at_call 12; refine (awake_any _).mono ?_; rintro e w3 ⟨rfl, hb3⟩))
        go_ret
        exact ⟨rfl, below_pre (below_pre HB.out hb2) hb3⟩
      | some l =>
        have hd := WDone_some wr l (by have := hlen l rfl; omega) hw1
        obtain ⟨hown, _⟩ := hown
        have HO1 := Lib.hid hown
        obtain ⟨p2, c2, rfl, _⟩ := RV.of_own hown
        clear HI hw1 hb hlen hown
        go_wp2_with fail
        refine hd.mono ?_
        clear hd
        rintro e w2 ⟨x, rfl, hx, hb2⟩
        have hcx := text_rv 25 5 9 Try.underlying25 Try.underlying5 Try.underlying9 (RV.of_own hx)
        have hcw := text_rv 25 5 9 Try.underlying25 Try.underlying5 Try.underlying9 ((RV.of_own HO1.out).below hb2 (fun k hk _ => hk))
        have HB2 := Lib.hid (below_pre HB.out hb2)
        obtain ⟨px, cx, rfl, _⟩ := RV.of_own hx
        generalize (ByteArray.mk l.toArray) = txt at hcx hcw
        clear hx hb2
        go_wp2_with (go_at_call 12; refine (awake_any _).mono ?_; rintro e w3 ⟨rfl, hb3⟩)
        go_ret
        exact ⟨rfl, below_pre HB2.out hb3⟩

theorem Writes_walk (most : Int) (hm : -9223372036854775808 ≤ most ∧ most ≤ 9223372036854775807) (v : Value) (ts : List Thg) (w : World) (hR : ReadsT w w.heap.size v ts) :
    Calls Try.prog 3 #[.int .i64 most, v] w fun e w' => e = .returned (.bool true) ∧ Below w.heap.size w w' := by
  by_cases h : most < 0
  · exact Writes_neg most h v ts w hR
  · obtain ⟨M, rfl⟩ := Int.eq_ofNat_of_zero_le (show 0 ≤ most by omega)
    exact Writes_pos M (by omega) v ts w hR
end Go.Proofs.Ytpdlfelmdnkjdaa
