/- The contract of duty's Parse. -/
import Derived.Test.YtbdimfcdpkldpaaGreatDoorZ13
import Derived.Test.YtbdimfcdpkldpaaGreatDoorZ14
import Derived.Test.YtbdimfcdpkldpaaGreatDoorTC
namespace Go.Proofs.YtbdimfcdpkldpaaGreatDoor
open Go.RowKit

theorem OPP.low {tS tD : TypeId} {w : World} {B : Nat} {v : Value} {pss : List (List Deed)} (h : OPP tS tD w B v pss) : RPP w (fun k => B ≤ k ∧ k < w.heap.size) v pss := by
  obtain ⟨us, hl, ho, he, _⟩ := h
  exact ⟨us, hl, RV.mono (RV.of_own ho) (fun k hk hk2 => ⟨(ho.lt k hk2).1, hk⟩), fun k u ps hu hp => RV.mono (RV.of_own (he k u ps hu hp)) (fun j hj hj2 => ⟨((he k u ps hu hp).lt j hj2).1, hj⟩)⟩
theorem OSS.low {w : World} {B : Nat} {v : Value} {xss : List (List Nat)} (h : OSS w B v xss) : RXX w (fun k => B ≤ k ∧ k < w.heap.size) v xss := by
  obtain ⟨us, hl, ho, he⟩ := h
  exact ⟨us, hl, RV.mono (RV.of_own ho) (fun k hk hk2 => ⟨(ho.lt k hk2).1, hk⟩), fun k u xs hu hx => RV.mono (RV.of_own (he k u xs hu hx)) (fun j hj hj2 => ⟨((he k u xs hu hx).lt j hj2).1, hj⟩)⟩
theorem goY_end (i : Nat) (dr : Dr) : goY i (drS dr) [] = (retD dr, i, checkY (drS dr)) := by
  unfold goY retD
  by_cases h : checkY (drS dr) = 0
  · rw [if_pos h, if_pos h, h]
  · rw [if_neg h, if_neg h]
theorem cut_parts {S : ByteArray} (h : S.data.toList ≠ []) : linesGo [] S.data.toList = (cutB S.data.toList).1 :: linesGo [] (cutB S.data.toList).2.1 := by
  have := lines_cutB S.data.toList [] (.inr h)
  simpa using this
/-- What Parse answers: three results, the duty in memory that was not there. -/
def ToldY (w' : World) (B : Nat) (e : Ending) (R : Dut × Nat × Nat) : Prop := ∃ vp vs, e = .returned (.tuple #[.agg (R.1.cells vp vs), .int .i64 (R.2.1 : Int), .int .i64 (R.2.2 : Int)]) ∧ DV w' (fun k => B ≤ k) vp vs R.1

set_option maxRecDepth 100000 in
set_option maxHeartbeats 8000000 in
theorem ParseY_any (s : ByteArray) (hs : s.size ≤ 1000000) (hz : ∀ z ∈ linesL s.data.toList, z.length ≤ 4000) (hn : (linesL s.data.toList).length ≤ 18000) (w : World) :
    Calls Tryz.prog 12 #[.string s] w fun e w' => ToldY w' (w.heap.size + 1) e (prsY s.data.toList) ∧ Below w.heap.size w w' := by
  have k0 := Blk.new w 27 (zeroY.cells (.slice none 0 0) (.slice none 0 0))
  have hb0 := below_alloc1 w (.cells (zeroY.cells (.slice none 0 0) (.slice none 0 0)) 27)
  have t0 : decide ((s.size : Int) > 1048576) = false := by simp; omega
  have hl1 : ¬ 1048576 < s.data.toList.length := by show ¬ 1048576 < s.size; omega
  by_cases h0 : s.size = 0
  · have he : s = ⟨#[]⟩ := ByteArray.ext (Array.eq_empty_of_size_eq_zero h0)
    subst he
    have hR : prsY (ByteArray.mk #[]).data.toList = (zeroY, 0, 2) := by
      unfold prsY
      rw [if_neg hl1, show linesL (ByteArray.mk #[]).data.toList = [] from rfl, if_pos rfl]
    rw [hR]
    clear hR hl1 hs hz hn h0 t0
    go_enter Tryz.func12, Tryz.ntmps12
    go_wp2_with (first
      | (refine wpList_alloc_agg rfl 27 rfl (zeroY.cells (.slice none 0 0) (.slice none 0 0)) zeroYR ?_)
      | (refine wpList_store_row rfl 27 _ _ rfl w.heap.size (zeroY.cells (.slice none 0 0) (.slice none 0 0)) rfl rfl 27 _ k0 (sizeY _ _ _) rfl (oneY _ _ _ _ _ _ _) ?_))
    refine bodyPost_ret (results_row_tmp2 rfl _ _ w.heap.size 27 (zeroY.cells (.slice none 0 0) (.slice none 0 0)) (0, 0) _ rfl (k0.row _) Tryz.underlying27 rfl (sizeY _ _ _)) rfl ?_
    exact ⟨⟨_, _, rfl, ⟨RPP.nil _ _, RSs.nil _ _⟩⟩, hb0.trans (foot_row _ (Nat.le_refl _))⟩
  · have hne' : s.data.toList ≠ [] := fun e => h0 (by rw [← list_size, e]; rfl)
    have hem : s.toList.isEmpty = false := by
      cases hl : s.toList with
      | nil => rw [Lib.toList_data] at hl; exact absurd hl hne'
      | cons c r => rfl
    have hR : prsY s.data.toList = goY 0 (drS emptyDr) (linesGo [] s.data.toList) := by
      unfold prsY
      rw [if_neg hl1, if_neg (by unfold linesL; rw [cut_parts hne']; simp), emptyDr_zero]
      rfl
    obtain ⟨R, hRR⟩ : ∃ R, prsY s.data.toList = R := ⟨_, rfl⟩
    rw [hRR] at hR ⊢
    have HR0 : Hid (goY 0 (drS emptyDr) (linesGo [] s.data.toList) = R) := Lib.hid hR.symm
    have HZ0 : Hid (∀ z ∈ linesGo [] s.data.toList, z.length ≤ 4000) := Lib.hid hz
    have HN0 : Hid (0 + (linesGo [] s.data.toList).length ≤ 18000) := Lib.hid (by have : (linesL s.data.toList).length = (linesGo [] s.data.toList).length := rfl; omega)
    have hp0 : 0 < s.size := by omega
    have k1 := Blk.new (w.alloc (.cells (zeroY.cells (.slice none 0 0) (.slice none 0 0)) 27)) 71 #[.slice none 0 0, .slice none 0 0, .slice none 0 0]
    have hb1 := below_alloc2 w (.cells (zeroY.cells (.slice none 0 0) (.slice none 0 0)) 27) (.cells #[.slice none 0 0, .slice none 0 0, .slice none 0 0] 71)
    have HD0 : Hid (DrAt ((w.alloc (.cells (zeroY.cells (.slice none 0 0) (.slice none 0 0)) 27)).alloc (.cells #[.slice none 0 0, .slice none 0 0, .slice none 0 0] 71)) (w.heap.size + 1) (w.heap.size + 1) emptyDr) := Lib.hid ⟨Nat.le_refl _, _, _, _, two_new w _ _ _, fun _ => rfl, World.ownsRow_nil _ _ _ _, OPP.nil _ _, OSS.nil _ _⟩
    have HK0 : Hid (Blk ((w.alloc (.cells (zeroY.cells (.slice none 0 0) (.slice none 0 0)) 27)).alloc (.cells #[.slice none 0 0, .slice none 0 0, .slice none 0 0] 71)) w.heap.size 27 (zeroY.cells (.slice none 0 0) (.slice none 0 0))) := Lib.hid (k0.alloc _)
    clear hR hRR hl1 hz hn h0 k0 hb0 k1 hne'
    go_enter Tryz.func12, Tryz.ntmps12
    go_wp2_with (first
      | (refine wpList_alloc_agg rfl 27 rfl (zeroY.cells (.slice none 0 0) (.slice none 0 0)) zeroYR ?_))
    try simp only [World.size_alloc]
    clear hem t0
    go_loopw [0, 6] (fun x t wr => ∃ (i : Nat) (S : ByteArray) (dr : Dr), x = .string S ∧ t = .int .i64 i ∧ Hid (goY i (drS dr) (linesGo [] S.data.toList) = R) ∧ Hid (∀ z ∈ linesGo [] S.data.toList, z.length ≤ 4000) ∧ Hid (i + (linesGo [] S.data.toList).length ≤ 18000) ∧ i ≤ 18000 ∧ S.size ≤ 1000000 ∧ (i = 0 → 0 < S.size) ∧ Hid dr.ok ∧ Hid (dr.few i) ∧ Hid (dr.head.isEmpty = (i == 0)) ∧ Hid (DrAt wr (w.heap.size + 1) (w.heap.size + 1) dr) ∧ Hid (Blk wr w.heap.size 27 (zeroY.cells (.slice none 0 0) (.slice none 0 0))) ∧ Below w.heap.size w wr) (fun x _ _ => (match x with | .string S => S.size | _ => 0))
    case atStart => exact ⟨0, s, emptyDr, rfl, rfl, HR0, HZ0, HN0, by omega, hs, fun _ => hp0, Lib.hid emptyDr_ok, Lib.hid emptyDr_few, Lib.hid rfl, HD0, HK0, hb1⟩
    case round =>
      obtain ⟨i, S, dr, rfl, rfl, hg, hz, hn, hi, hS, hi0, hok, hfew, hemp, hD, hK, hb⟩ := hrel
      clear HR0 HZ0 HN0 HD0 HK0 hb1
      by_cases h0 : S.size = 0
      · have he : S = ⟨#[]⟩ := ByteArray.ext (Array.eq_empty_of_size_eq_zero h0)
        have hip : i ≠ 0 := fun e => by have := hi0 e; omega
        subst he
        have hgo := hg.out
        rw [show linesGo [] (ByteArray.mk #[]).data.toList = [] from rfl, goY_end] at hgo
        have h7 : dr.head.length = 7 := by
          rcases hok.out.head with e | e
          · have := hemp.out
            rw [e] at this
            have : (i == 0) = true := this.symm
            exact absurd (by simpa using this) hip
          · exact e
        obtain ⟨_, hv, pv, sv, hk, _, ho1, ho2, ho3⟩ := hD.out
        rw [h7] at ho1
        have hcall := DutyOf_any dr hok.out h7 (by have := hfew.out.2.1; omega) hv pv sv (fun k => w.heap.size + 1 ≤ k ∧ k < wr.heap.size) wr (fun k hk => hk.2) (RV.mono (RV.of_own ho1) (fun k hk hk2 => ⟨(ho1.lt k hk2).1, hk⟩)) ho2.low ho3.low
        obtain ⟨RD, hRD⟩ : ∃ RD, retD dr = RD := ⟨_, rfl⟩
        obtain ⟨code, hcd⟩ : ∃ code, checkY (drS dr) = code := ⟨_, rfl⟩
        rw [hRD, hcd] at hcall hgo
        have HGO := Lib.hid hgo
        clear hgo hRD hcd
        obtain ⟨hvp, hvc, rfl⟩ := own_shape9 ho1
        obtain ⟨pvp, pvc, rfl⟩ : ∃ p c, pv = .slice p dr.progs.length c := by
          obtain ⟨us, _, ho, _⟩ := ho2
          exact own_shape9 ho
        obtain ⟨svp, svc, rfl⟩ : ∃ p c, sv = .slice p dr.starts.length c := by
          obtain ⟨us, _, ho, _⟩ := ho3
          exact own_shape9 ho
        have c0 := hk.cell 0
        have c1 := hk.cell 1
        have c2 := hk.cell 2
        have hKK := hK.out
        have hbs := hb.size
        have hkl := hk.lt
        clear hg hz hn hok hfew hemp h7 ho1 ho2 ho3 hD hK
        go_wp2_with (first
          | (go_at_call 37; (with_reducible refine hcall.mono ?_); clear hcall; rintro e w2 ⟨⟨vp, vs, rfl, hdv⟩, hb2⟩; have hK2 := hKK.below hb2 hKK.lt; obtain ⟨rp, rc, rfl, _, _⟩ := hdv.progs.shape; obtain ⟨sp, sc, rfl, _, _⟩ := hdv.starts.shape; have hDV := Lib.hid hdv; have hlt2 : w.heap.size < w2.heap.size := hK2.lt)
          | (refine wpList_alloc_agg rfl 27 rfl (zeroY.cells (.slice none 0 0) (.slice none 0 0)) zeroYR ?_)
          | (refine wpList_store_row rfl 27 _ _ rfl w2.heap.size (RD.cells (.slice rp RD.progs.length rc) (.slice sp RD.starts.length sc)) rfl rfl 27 _ (heap_alloc_new w2 _) (sizeY _ _ _) rfl (oneY _ _ _ _ _ _ _) ?_; rw [World.setRow_alloc_new]; have hK3 := hK2.alloc (.cells (RD.cells (.slice rp RD.progs.length rc) (.slice sp RD.starts.length sc)) 27); have hN3 := Blk.new w2 27 (RD.cells (.slice rp RD.progs.length rc) (.slice sp RD.starts.length sc)))
          | (refine wpList_load_row rfl 27 _ rfl w2.heap.size rfl 27 _ (0, 0) _ hN3 Tryz.underlying27 rfl (sizeY _ _ _) ?_)
          | (refine wpList_store_row rfl 27 _ _ rfl w.heap.size (RD.cells (.slice rp RD.progs.length rc) (.slice sp RD.starts.length sc)) rfl rfl 27 _ hK3 (sizeY _ _ _) rfl (oneY _ _ _ _ _ _ _) ?_))
        refine bodyPost_ret (results_row_tmp2 rfl _ _ w.heap.size 27 (RD.cells (.slice rp RD.progs.length rc) (.slice sp RD.starts.length sc)) (0, 0) _ rfl (hK3.row _) Tryz.underlying27 rfl (sizeY _ _ _)) rfl ?_
        rw [← HGO.out]
        refine ⟨⟨_, _, rfl, ?_⟩, ((below_pre hb hb2).alloc (by omega) _).trans (foot_row _ (Nat.le_refl _))⟩
        refine DV.foot ((hDV.out.grow (G' := fun k => w.heap.size + 1 ≤ k) (fun k hk => by rcases hk with hk | hk <;> omega)).later (below_alloc1 w2 _)) (foot_setRow _ _ _) (fun k hk e => by omega)
      · have hne' : S.data.toList ≠ [] := fun e => h0 (by rw [← list_size, e]; rfl)
        have hem : S.toList.isEmpty = false := by
          cases hl : S.toList with
          | nil => rw [Lib.toList_data] at hl; exact absurd hl hne'
          | cons c r => rfl
        have hcut := fun W => cut_any S (by omega) W
        have hcl := cutB_len S.data.toList hne'
        have hgo := hg.out
        have hzz := hz.out
        have hnn := hn.out
        rw [cut_parts hne'] at hgo hzz hnn
        rw [List.length_cons] at hnn
        unfold sV at hcut
        obtain ⟨Z1, hZ1⟩ : ∃ Z : ByteArray, Z = ⟨(cutB S.data.toList).1.toArray⟩ := ⟨_, rfl⟩
        obtain ⟨Z2, hZ2⟩ : ∃ Z : ByteArray, Z = ⟨(cutB S.data.toList).2.1.toArray⟩ := ⟨_, rfl⟩
        have hZl1 : Z1.data.toList = (cutB S.data.toList).1 := by rw [hZ1]
        have hZl2 : Z2.data.toList = (cutB S.data.toList).2.1 := by rw [hZ2]
        have hzs1 : Z1.size ≤ 4000 := by
          rw [← list_size, hZl1]
          exact hzz _ (by simp)
        have hzs2 : Z2.size < S.size := by
          rw [← list_size, ← list_size, hZl2]
          exact hcl
        rw [← hZ1, ← hZ2] at hcut
        rw [← hZl1, ← hZl2] at hgo hzz
        rw [← hZl2] at hnn
        have hadd := fun W (hBW : w.heap.size + 1 ≤ W.heap.size) (hW : DrAt W (w.heap.size + 1) (w.heap.size + 1) dr) => AddLine_any (w.heap.size + 1) (w.heap.size + 1) dr hok.out i hfew.out (by omega) Z1 hzs1 W hBW hW
        rw [hemp.out] at hadd
        rw [goY_cons] at hgo
        generalize (cutB S.data.toList).2.2 = found at *
        have hbs : w.heap.size + 1 ≤ wr.heap.size := by
          obtain ⟨_, _, _, _, hk, _⟩ := hD.out
          exact Nat.le_of_lt hk.lt
        have hKK := hK.out
        have hDD := hD.out
        clear hZ1 hZ2 hZl1 hZl2 hcl hne' hg hz hn hemp hok hfew hD hK h0
        by_cases hcode : (lineY (drS dr) Z1.data.toList (i == 0)).2 = 0
        · rw [if_pos hcode] at hgo
          generalize lineY (drS dr) Z1.data.toList (i == 0) = Q at *
          rw [hcode] at hadd
          have HG := Lib.hid hgo
          have HZ : Hid (∀ z ∈ linesGo [] Z2.data.toList, z.length ≤ 4000) := Lib.hid fun z hz => hzz z (List.mem_cons_of_mem _ hz)
          have HN : Hid (i + 1 + (linesGo [] Z2.data.toList).length ≤ 18000) := Lib.hid (by omega)
          have hi1 : i + 1 ≤ 18000 := by omega
          have HQ := Lib.hid hcode
          clear hgo hzz hnn hcode hzs1
          go_wp2_with (first
            | (go_at_call 35; (with_reducible refine (hcut _).mono ?_); clear hcut; rintro e w2 ⟨rfl, hb2⟩; have hD2 := hDD.below hb2; have hK2 := hKK.below hb2 hKK.lt; have hbw2 := below_pre hb hb2)
            | (go_at_call 36; (with_reducible refine (hadd _ (Nat.le_trans hbs hb2.size) hD2).mono ?_); clear hadd; rintro e w3 ⟨rfl, hb3, hst⟩; have HST := Lib.hid hst; clear hst; have hK3 := hK2.below hb3 (by omega); have hbw3 := hbw2.trans (hb3.mono (by omega))))
          obtain ⟨dr', hok', hne', hfew', hD', hdr'⟩ := HST.out HQ.out
          go_roundw
          case rel => exact ⟨i + 1, Z2, dr', rfl, by go_num, Lib.hid (by rw [hdr']; exact HG.out), HZ, HN, hi1, by omega, fun e => by omega, Lib.hid hok', Lib.hid hfew', Lib.hid (by
            cases hq : dr'.head with
            | nil => exact absurd hq hne'
            | cons x xs => rfl), Lib.hid hD', Lib.hid hK3, hbw3⟩
          case measure => simpa using hzs2
        · rw [if_neg hcode] at hgo
          generalize lineY (drS dr) Z1.data.toList (i == 0) = Q at *
          obtain ⟨Q1, code⟩ := Q
          simp only at hgo hcode hadd
          have hne : ((code : Int) != 0) = true := by simp; omega
          have HGO := Lib.hid hgo
          clear hzz hnn hcode hzs1 hgo
          go_wp2_with (first
            | (go_at_call 35; (with_reducible refine (hcut _).mono ?_); clear hcut; rintro e w2 ⟨rfl, hb2⟩; have hD2 := hDD.below hb2; have hK2 := hKK.below hb2 hKK.lt; have hbw2 := below_pre hb hb2)
            | (go_at_call 36; (with_reducible refine (hadd _ (Nat.le_trans hbs hb2.size) hD2).mono ?_); clear hadd; rintro e w3 ⟨rfl, hb3, _⟩; have hK3 := hK2.below hb3 (by omega); have hbw3 := hbw2.trans (hb3.mono (by omega)))
            | (refine wpList_store_row rfl 27 _ _ rfl w.heap.size (zeroY.cells (.slice none 0 0) (.slice none 0 0)) rfl rfl 27 _ hK3 (sizeY _ _ _) rfl (oneY _ _ _ _ _ _ _) ?_))
          refine bodyPost_ret (results_row_tmp2 rfl _ _ w.heap.size 27 (zeroY.cells (.slice none 0 0) (.slice none 0 0)) (0, 0) _ rfl (hK3.row _) Tryz.underlying27 rfl (sizeY _ _ _)) rfl ?_
          rw [← HGO.out]
          exact ⟨⟨_, _, rfl, ⟨RPP.nil _ _, RSs.nil _ _⟩⟩, hbw3.trans (foot_row _ (Nat.le_refl _))⟩
end Go.Proofs.YtbdimfcdpkldpaaGreatDoor
