/- The contract of the reference's Parse of duties. -/
import Derived.Test.YtbdimfcdpkldpaaGreatDoorJ6
import Derived.Test.YtbdimfcdpkldpaaGreatDoorT3
import Derived.Test.YtbdimfcdpkldpaaGreatDoorZ15
import Derived.Test.YtbdimfcdpkldpaaGreatDoorZ2
namespace Go.Proofs.YtbdimfcdpkldpaaGreatDoor
open Go.RowKit

set_option maxRecDepth 100000 in
set_option maxHeartbeats 8000000 in
theorem RParseY_any (s : ByteArray) (hs : s.size ≤ 1000000) (hz : ∀ z ∈ linesL s.data.toList, z.length ≤ 4000) (hn : (linesL s.data.toList).length ≤ 18000) (w : World) :
    Calls Tryz.prog 14 #[.string s] w fun e w' => ToldY w' w.heap.size e (prsY s.data.toList) ∧ Below w.heap.size w w' := by
  obtain ⟨D, hD⟩ : ∃ D, linesL s.data.toList = D := ⟨_, rfl⟩
  have hln := fun W => RLines_any s (by omega) D hD W
  have k0 := Blk.new w 27 (zeroY.cells (.slice none 0 0) (.slice none 0 0))
  have hb0 := below_alloc1 w (.cells (zeroY.cells (.slice none 0 0) (.slice none 0 0)) 27)
  have t0 : decide ((s.size : Int) > 1048576) = false := by simp; omega
  have hl1 : ¬ 1048576 < s.data.toList.length := by show ¬ 1048576 < s.size; omega
  rw [hD] at hz hn
  by_cases h0 : D.length = 0
  · have hR : prsY s.data.toList = (zeroY, 0, 2) := by
      unfold prsY
      rw [if_neg hl1, hD, if_pos (List.eq_nil_of_length_eq_zero h0)]
    rw [hR]
    have te : ((D.length : Int) == 0) = true := by rw [h0]; rfl
    clear hR hl1 hs hz hn h0 hD
    go_enter Tryz.func14, Tryz.ntmps14
    go_wp2_with (first
      | (refine wpList_alloc_agg rfl 27 rfl (zeroY.cells (.slice none 0 0) (.slice none 0 0)) zeroYR ?_)
      | (go_at_call 39; (with_reducible refine (hln _).mono ?_); clear hln; rintro e w1 ⟨lv, rfl, hlo, hb1⟩; obtain ⟨lp, lc, rfl, _⟩ := id (RV.of_own hlo); have k1 := k0.below hb1 k0.lt; have hb01 := below_pre hb0 hb1)
      | (refine wpList_store_row rfl 27 _ _ rfl w.heap.size (zeroY.cells (.slice none 0 0) (.slice none 0 0)) rfl rfl 27 _ k1 (sizeY _ _ _) rfl (oneY _ _ _ _ _ _ _) ?_))
    refine bodyPost_ret (results_row_tmp2 rfl _ _ w.heap.size 27 (zeroY.cells (.slice none 0 0) (.slice none 0 0)) (0, 0) _ rfl (k1.row _) Tryz.underlying27 rfl (sizeY _ _ _)) rfl ?_
    exact ⟨⟨_, _, rfl, ⟨RPP.nil _ _, RSs.nil _ _⟩⟩, hb01.trans (foot_row _ (Nat.le_refl _))⟩
  · have te : ((D.length : Int) == 0) = false := by rw [beq_eq_false_iff_ne]; omega
    obtain ⟨R, hRR⟩ : ∃ R, prsY s.data.toList = R := ⟨_, rfl⟩
    have hR : goY 0 zeroY (D.drop 0) = R := by
      rw [← hRR]
      unfold prsY
      rw [if_neg hl1, hD, if_neg (fun e => h0 (by rw [e]; rfl))]
      rfl
    rw [hRR]
    have HR0 := Lib.hid hR
    have HZ := Lib.hid hz
    have HDL := Lib.hid hD
    clear hR hRR hl1 hz hD h0
    go_enter Tryz.func14, Tryz.ntmps14
    go_wp2_with (first
      | (refine wpList_alloc_agg rfl 27 rfl (zeroY.cells (.slice none 0 0) (.slice none 0 0)) zeroYR ?_)
      | (go_at_call 39; (with_reducible refine (hln _).mono ?_); clear hln; rintro e w1 ⟨lv, rfl, hlo, hb1⟩; obtain ⟨lp, lc, rfl, _⟩ := id (RV.of_own hlo); have k1 := k0.below hb1 k0.lt; have hb01 := below_pre hb0 hb1)
      | (refine wpList_store_row rfl 27 _ _ rfl w1.heap.size (zeroY.cells (.slice none 0 0) (.slice none 0 0)) rfl rfl 27 _ (heap_alloc_new w1 _) (sizeY _ _ _) rfl (oneY _ _ _ _ _ _ _) ?_; rw [World.setRow_alloc_new]))
    have hs1 : w.heap.size + 1 ≤ w1.heap.size := by have := hb1.size; simpa using this
    have ha2 := below_alloc1 w1 (.cells (zeroY.cells (.slice none 0 0) (.slice none 0 0)) 27)
    have HB2 := Lib.hid (below_pre hb01 ha2)
    have HK2 := Lib.hid (k1.below ha2 k1.lt)
    have HN2 := Lib.hid (Blk.new w1 27 (zeroY.cells (.slice none 0 0) (.slice none 0 0)))
    have HL2 : Hid (RV (w1.alloc (.cells (zeroY.cells (.slice none 0 0) (.slice none 0 0)) 27)) (fun k => w.heap.size + 1 ≤ k ∧ k < w1.heap.size) (.slice lp D.length lc) D.length 1 (D.map sV)) := Lib.hid (RV.below ((RV.of_own hlo).mono (fun k hk hk2 => ⟨by have := (hlo.lt k hk2).1; simpa using this, hk⟩)) ha2 (fun k hk _ => hk))
    have HO2 : Hid (DOwn (w1.alloc (.cells (zeroY.cells (.slice none 0 0) (.slice none 0 0)) 27)) (w1.heap.size + 1) (.slice none 0 0) (.slice none 0 0) zeroY) := Lib.hid (DOwn.zero _ _ _ rfl rfl)
    have HSZ : Hid (w1.heap.size + 1 ≤ (w1.alloc (.cells (zeroY.cells (.slice none 0 0) (.slice none 0 0)) 27)).heap.size) := Lib.hid (by simp)
    clear k0 k1 hb0 hb1 hb01 ha2 hlo
    go_loopw [7] (fun t wr => ∃ (i : Nat) (d : Dut) (dp sp : Option Addr) (dn dc sn sc : Nat), t = .int .i64 i ∧ i ≤ D.length ∧ Hid (goY i d (D.drop i) = R) ∧ Hid d.ok ∧ Hid (d.few i) ∧ Hid (DOwn wr (w1.heap.size + 1) (.slice dp dn dc) (.slice sp sn sc) d) ∧ Hid (Blk wr w1.heap.size 27 (d.cells (.slice dp dn dc) (.slice sp sn sc))) ∧ Hid (Blk wr w.heap.size 27 (zeroY.cells (.slice none 0 0) (.slice none 0 0))) ∧ Hid (RV wr (fun k => w.heap.size + 1 ≤ k ∧ k < w1.heap.size) (.slice lp D.length lc) D.length 1 (D.map sV)) ∧ Hid (w1.heap.size + 1 ≤ wr.heap.size) ∧ Below w.heap.size w wr) (fun t _ => D.length - (intOf t).toNat)
    case atStart => exact ⟨0, zeroY, none, none, 0, 0, 0, 0, rfl, by omega, HR0, Lib.hid zeroY_ok, Lib.hid ⟨by decide, by decide, fun p hp => nomatch hp⟩, HO2, HN2, HK2, HL2, HSZ, HB2.out⟩
    case round =>
      clear HR0 HK2 HN2 HL2 HO2 HSZ HB2
      obtain ⟨i, d, dp, sp, dn, dc, sn, sc, rfl, hi, hg, hok, hfew, hO, hN, hK, hL, hSZ, hb⟩ := hrel
      by_cases hlt : i < D.length
      · obtain ⟨l, hl⟩ : ∃ l, D[i]? = some l := ⟨_, List.getElem?_eq_getElem hlt⟩
        obtain ⟨b, off, rfl, hbl, ⟨hbG1, hbG2⟩, hcell⟩ := hL.out.at1 i (sV l) (by rw [List.getElem?_map, hl]; rfl)
        obtain ⟨Z, hZ⟩ : ∃ Z : ByteArray, Z = ⟨l.toArray⟩ := ⟨_, rfl⟩
        have hZl : Z.data.toList = l := by rw [hZ]
        have hZs : Z.size ≤ 4000 := by rw [← list_size, hZl]; exact HZ.out l (List.mem_of_getElem? hl)
        have hgo := hg.out
        rw [drop_at9 hl, goY_cons] at hgo
        unfold sV at hcell
        rw [← hZ] at hcell
        rw [← hZl] at hgo
        have hbt : ((i : Int) == 0) = (i == 0) := by
          cases hi0 : (i == 0) with
          | false => simpa using hi0
          | true => simpa using hi0
        have hline := fun W (hW : w1.heap.size + 1 ≤ W.heap.size) (hd : DOwn W (w1.heap.size + 1) (.slice dp dn dc) (.slice sp sn sc) d) => RLineY_any (w1.heap.size + 1) d _ _ Z hZs (i == 0) W hW hd i (by omega) hfew.out
        have hokL := lineY_ok hok.out Z.data.toList (i == 0)
        have hfewL := lineY_few hfew.out Z.data.toList (i == 0)
        generalize (i == 0) = b0 at *
        have hOW : DOwn wr.drew (w1.heap.size + 1) (.slice dp dn dc) (.slice sp sn sc) d := hO.out.later ((Below.refl _ wr).drew)
        have hNW : Blk wr.drew w1.heap.size 27 (d.cells (.slice dp dn dc) (.slice sp sn sc)) := hN.out
        have hKW : Blk wr.drew w.heap.size 27 (zeroY.cells (.slice none 0 0) (.slice none 0 0)) := hK.out
        have hLW : RV wr.drew (fun k => w.heap.size + 1 ≤ k ∧ k < w1.heap.size) (.slice (some ⟨b, off, none⟩) D.length lc) D.length 1 (D.map sV) := hL.out
        have hbW : Below w.heap.size w wr.drew := hb.drew
        have hszW : w1.heap.size + 1 ≤ wr.drew.heap.size := hSZ.out
        clear hg hok hfew hO hN hK hL hSZ hb hZ hZl hZs hl
        obtain ⟨Q, hQ⟩ : ∃ Q, lineY d Z.data.toList b0 = Q := ⟨_, rfl⟩
        rw [hQ] at hline hokL hfewL hgo
        obtain ⟨Q1, code⟩ := Q
        simp only at hokL hfewL hgo
        clear hQ
        by_cases hcode : code = 0
        · subst hcode
          rw [if_pos rfl] at hgo
          have HGO := Lib.hid hgo
          clear hgo
          go_wp2
          refine wp_region_held_drew (S := fun w' => ∀ k, k < w1.heap.size + 1 → w'.heap[k]? = wr.drew.heap[k]?) (by kernel_rfl) (fun _ _ => rfl) (fun hS0 => ?_)
          refine wpAnyH_take (i := 0) (v := .agg (d.cells (.slice dp dn dc) (.slice sp sn sc))) rfl (by kernel_rfl) (by kernel_rfl) (by kernel_rfl) (fun _ _ _ h => h) (yields_row rfl 27 _ rfl w1.heap.size rfl 27 _ (0, 0) _ (fun w1' hS1 => (hS1 w1.heap.size (by omega)).trans hNW) Tryz.underlying27 rfl (sizeY _ _ _)) hS0 ?_
          try simp only [List.getElem_toArray, List.getElem_cons_zero, Act.put, List.setIfInBounds_toArray, List.set_cons_zero, List.set_cons_succ]
          refine wpAnyH_take (i := 1) (v := ?_) rfl (by kernel_rfl) (by kernel_rfl) (by kernel_rfl) (fun _ _ _ h => h) (Or.inl ⟨by rfl, ?_⟩) hS0 ?_
          rotate_left
          · intro w1 _; go_simp; with_reducible rfl
          try simp only [List.getElem_toArray, List.getElem_cons_zero, List.getElem_cons_succ, Act.put, List.setIfInBounds_toArray, List.set_cons_zero, List.set_cons_succ]
          refine wpAnyH_take (i := 2) (v := ?_) rfl (by kernel_rfl) (by kernel_rfl) (by kernel_rfl) (fun _ _ _ h => h) (Or.inl ⟨by rfl, ?_⟩) hS0 ?_
          rotate_left
          · intro w1 _; go_simp; with_reducible rfl
          try simp only [List.getElem_toArray, List.getElem_cons_zero, List.getElem_cons_succ, Act.put, List.setIfInBounds_toArray, List.set_cons_zero, List.set_cons_succ]
          refine wpAnyH_take (i := 3) (v := ?_) rfl (by kernel_rfl) (by kernel_rfl) (by kernel_rfl) (fun _ _ _ h => h) (Or.inl ⟨by rfl, ?_⟩) hS0 ?_
          rotate_left
          · intro w1 _; go_simp; with_reducible rfl
          try simp only [List.getElem_toArray, List.getElem_cons_zero, List.getElem_cons_succ, Act.put, List.setIfInBounds_toArray, List.set_cons_zero, List.set_cons_succ]
          refine wpAnyH_take (i := 4) (v := .string Z) rfl (by kernel_rfl) (by kernel_rfl) (by kernel_rfl) (fun _ _ _ h => h) (Or.inl ⟨by rfl, fun w1' hS1 => by have h0 : w1'.cell? ⟨b, off + i, none⟩ = some (.string Z) := (World.cell?_of_block (a := ⟨b, off + i, none⟩) (hS1 b (by omega))).trans hcell; go_simp⟩) hS0 ?_
          try simp only [List.getElem_toArray, List.getElem_cons_zero, List.getElem_cons_succ, Act.put, List.setIfInBounds_toArray, List.set_cons_zero, List.set_cons_succ]
          refine wpAnyH_take (i := 5) (v := ?_) rfl (by kernel_rfl) (by kernel_rfl) (by kernel_rfl) (fun _ _ _ h => h) (Or.inl ⟨by rfl, ?_⟩) hS0 ?_
          rotate_left
          · intro w1 _; go_simp; with_reducible rfl
          try simp only [List.getElem_toArray, List.getElem_cons_zero, List.getElem_cons_succ, Act.put, List.setIfInBounds_toArray, List.set_cons_zero, List.set_cons_succ]
          refine wpAnyH_take (i := 6) (v := .bool b0) rfl (by kernel_rfl) (by kernel_rfl) (by kernel_rfl) (fun _ _ _ h => h) (Or.inl ⟨by rfl, fun w1' hS1 => by go_simp⟩) hS0 ?_
          try simp only [List.getElem_toArray, List.getElem_cons_zero, List.getElem_cons_succ, Act.put, List.setIfInBounds_toArray, List.set_cons_zero, List.set_cons_succ]
          refine wpAnyH_ready (rs := [7, 11]) (by kernel_rfl) (by simp) ?_
          refine AllReadyH.cons rfl (fun K hK => ?_) (AllReadyH.cons rfl (fun K hK => ?_) AllReadyH.nil)
          · go_simp
            refine (hline wr.drew hszW hOW).mono ?_
            rintro e w3 ⟨⟨pp3, n3, c3, ps3, m3, e3, rfl, hdo3⟩, hb3, hk3⟩
            dsimp only
            refine hK.out _ _ (fun k hk => (hb3.block k hk).trans (hS0 k hk)) (fun hS1 => ?_); clear hK K
            refine wpAnyH_take (i := 8) (v := ?_) rfl (by kernel_rfl) (by kernel_rfl) (by kernel_rfl) (fun _ _ _ h => h) (Or.inl ⟨by rfl, ?_⟩) hS1 ?_
            rotate_left
            · intro w1 _; go_simp; with_reducible rfl
            try simp only [List.getElem_toArray, List.getElem_cons_zero, List.getElem_cons_succ, Act.put, List.setIfInBounds_toArray, List.set_cons_zero, List.set_cons_succ]
            refine wpAnyH_take (i := 9) (v := ?_) rfl (by kernel_rfl) (by kernel_rfl) (by kernel_rfl) (fun _ _ _ h => h) (Or.inl ⟨by rfl, ?_⟩) hS1 ?_
            rotate_left
            · intro w1 _; go_simp; with_reducible rfl
            try simp only [List.getElem_toArray, List.getElem_cons_zero, List.getElem_cons_succ, Act.put, List.setIfInBounds_toArray, List.set_cons_zero, List.set_cons_succ]
            refine wpAnyH_take (i := 10) (v := ?_) rfl (by kernel_rfl) (by kernel_rfl) (by kernel_rfl) (fun _ _ _ h => h) (Or.inl ⟨by rfl, ?_⟩) hS1 ?_
            rotate_left
            · intro w1 _; go_simp; with_reducible rfl
            try simp only [List.getElem_toArray, List.getElem_cons_zero, List.getElem_cons_succ, Act.put, List.setIfInBounds_toArray, List.set_cons_zero, List.set_cons_succ]
            refine wpAnyH_ready (rs := [11]) (by kernel_rfl) (by simp) ?_
            refine AllReadyH.cons rfl (fun K hK => ?_) AllReadyH.nil
            refine step_alloc_agg rfl 27 rfl (zeroY.cells (.slice none 0 0) (.slice none 0 0)) zeroYR ?_
            refine hK.out _ _ (fun k hk => (Below.heap_alloc _ _ k (Nat.lt_of_lt_of_le hk (Nat.le_trans hszW hb3.size))).trans (hS1 k hk)) (fun hS2 => ?_); clear hK K
            refine wpAnyH_ready (rs := [12]) (by kernel_rfl) (by simp) ?_
            refine AllReadyH.cons rfl (fun K hK => ?_) AllReadyH.nil
            refine step_store_row rfl 27 _ _ rfl w3.heap.size (Q1.cells (.slice pp3 n3 c3) (.slice ps3 m3 e3)) rfl rfl 27 _ (heap_alloc_new w3 _) (sizeY _ _ _) rfl (oneY _ _ _ _ _ _ _) ?_
            rw [World.setRow_alloc_new]
            refine hK.out _ _ (fun k hk => (Below.heap_alloc w3 _ k (Nat.lt_of_lt_of_le hk (Nat.le_trans hszW hb3.size))).trans (hS1 k hk)) (fun hS3 => ?_); clear hK K
            refine wpAnyH_take (i := 13) (v := ?_) rfl (by kernel_rfl) (by kernel_rfl) (by kernel_rfl) (fun _ _ _ h => h) (Or.inl ⟨by rfl, ?_⟩) hS3 ?_
            rotate_left
            · intro w1 _; go_simp; with_reducible rfl
            try simp only [List.getElem_toArray, List.getElem_cons_zero, List.getElem_cons_succ, Act.put, List.setIfInBounds_toArray, List.set_cons_zero, List.set_cons_succ]
            refine wpAnyH_done (by kernel_rfl) ?_ _
            obtain ⟨g8, hg8⟩ : ∃ g8, g8 = w3.heap.size := ⟨_, rfl⟩
            obtain ⟨W8, hW8⟩ : ∃ W8, W8 = w3.alloc (.cells (Q1.cells (.slice pp3 n3 c3) (.slice ps3 m3 e3)) 27) := ⟨_, rfl⟩
            have h8 : Blk W8 g8 27 (Q1.cells (.slice pp3 n3 c3) (.slice ps3 m3 e3)) := by rw [hg8, hW8]; exact Blk.new w3 _ _
            have hlt8 : w1.heap.size + 1 ≤ g8 := by rw [hg8]; exact Nat.le_trans hszW hb3.size
            have hO8 : DOwn W8 (w1.heap.size + 1) (.slice pp3 n3 c3) (.slice ps3 m3 e3) Q1 := by rw [hW8]; exact (hdo3 rfl).later (below_alloc1 _ _)
            have hB8 : Below (w1.heap.size + 1) wr.drew W8 := by rw [hW8]; exact hb3.alloc (Nat.le_trans hszW hb3.size) _
            rw [← hW8, ← hg8]
            clear hW8 hg8 hdo3 hb3 hk3
            have hN8 := hNW.below hB8 (by omega)
            have hK8 := hKW.below hB8 (by omega)
            have hL8 := RV.below hLW hB8 (fun k _ hk => by omega)
            have hbw8 := hbW.trans (hB8.mono (by omega))
            have hsz8 := Nat.le_trans hszW hB8.size
            have HL8 := Lib.hid hL8
            have HS8 := Lib.hid hsz8
            have HO8 := Lib.hid hO8
            clear hS0 hS1 hS2 hS3 hL8 hsz8 hO8 hB8 hLW hOW hNW hKW hbW hszW hline hcell
            go_wp2_with (first
              | (refine wpList_load_row rfl 27 _ rfl g8 rfl 27 _ (0, 0) _ h8 Tryz.underlying27 rfl (sizeY _ _ _) ?_)
              | (refine wpList_store_row rfl 27 _ _ rfl w1.heap.size (Q1.cells (.slice pp3 n3 c3) (.slice ps3 m3 e3)) rfl rfl 27 _ hN8 (sizeY _ _ _) rfl (oneY _ _ _ _ _ _ _) ?_))
            have hfr := foot_setRow W8 w1.heap.size (Q1.cells (.slice pp3 n3 c3) (.slice ps3 m3 e3))
            have hO9 := HO8.out.far hN8 (by decide) (by decide) (by decide) hfr
            have hK9 := hK8.foot hfr (by omega)
            have hN9 := hN8.row (Q1.cells (.slice pp3 n3 c3) (.slice ps3 m3 e3))
            have hL9 := RV.foot HL8.out hfr (fun k hk e => by omega)
            have hb9 := hbw8.trans (foot_row (w := W8) (Q1.cells (.slice pp3 n3 c3) (.slice ps3 m3 e3)) (Nat.le_trans (Nat.le_succ _) hs1))
            have hz9 : w1.heap.size + 1 ≤ (W8.setRow w1.heap.size (Q1.cells (.slice pp3 n3 c3) (.slice ps3 m3 e3))).heap.size := Nat.le_trans HS8.out hfr.size
            go_roundw
            case rel => exact ⟨i + 1, Q1, pp3, ps3, n3, c3, m3, e3, by go_num, by omega, HGO, Lib.hid hokL, Lib.hid hfewL, Lib.hid hO9, Lib.hid hN9, Lib.hid hK9, Lib.hid hL9, Lib.hid hz9, hb9⟩
            case measure => simp [intOf]; omega
          · refine step_alloc_agg rfl 27 rfl (zeroY.cells (.slice none 0 0) (.slice none 0 0)) zeroYR ?_
            refine hK.out _ _ (fun k hk => (Below.heap_alloc _ _ k (Nat.lt_of_lt_of_le hk hszW)).trans (hS0 k hk)) (fun hS1 => ?_); clear hK K
            refine wpAnyH_ready (rs := [7]) (by kernel_rfl) (by simp) ?_
            refine AllReadyH.cons rfl (fun K hK => ?_) AllReadyH.nil
            go_simp
            refine (hline (wr.drew.alloc (.cells (zeroY.cells (.slice none 0 0) (.slice none 0 0)) 27)) (Nat.le_trans hszW (below_alloc1 wr.drew (.cells (zeroY.cells (.slice none 0 0) (.slice none 0 0)) 27)).size) (hOW.later (below_alloc1 _ _))).mono ?_
            rintro e w3 ⟨⟨pp3, n3, c3, ps3, m3, e3, rfl, hdo3⟩, hb3, hk3⟩
            dsimp only
            refine hK.out _ _ (fun k hk => (hb3.block k hk).trans (hS1 k hk)) (fun hS2 => ?_); clear hK K
            refine wpAnyH_take (i := 8) (v := ?_) rfl (by kernel_rfl) (by kernel_rfl) (by kernel_rfl) (fun _ _ _ h => h) (Or.inl ⟨by rfl, ?_⟩) hS2 ?_
            rotate_left
            · intro w1 _; go_simp; with_reducible rfl
            try simp only [List.getElem_toArray, List.getElem_cons_zero, List.getElem_cons_succ, Act.put, List.setIfInBounds_toArray, List.set_cons_zero, List.set_cons_succ]
            refine wpAnyH_take (i := 9) (v := ?_) rfl (by kernel_rfl) (by kernel_rfl) (by kernel_rfl) (fun _ _ _ h => h) (Or.inl ⟨by rfl, ?_⟩) hS2 ?_
            rotate_left
            · intro w1 _; go_simp; with_reducible rfl
            try simp only [List.getElem_toArray, List.getElem_cons_zero, List.getElem_cons_succ, Act.put, List.setIfInBounds_toArray, List.set_cons_zero, List.set_cons_succ]
            refine wpAnyH_take (i := 10) (v := ?_) rfl (by kernel_rfl) (by kernel_rfl) (by kernel_rfl) (fun _ _ _ h => h) (Or.inl ⟨by rfl, ?_⟩) hS2 ?_
            rotate_left
            · intro w1 _; go_simp; with_reducible rfl
            try simp only [List.getElem_toArray, List.getElem_cons_zero, List.getElem_cons_succ, Act.put, List.setIfInBounds_toArray, List.set_cons_zero, List.set_cons_succ]
            refine wpAnyH_ready (rs := [12]) (by kernel_rfl) (by simp) ?_
            refine AllReadyH.cons rfl (fun K hK => ?_) AllReadyH.nil
            have hk8 := hk3 wr.drew.heap.size _ _ (Blk.new wr.drew 27 (zeroY.cells (.slice none 0 0) (.slice none 0 0))) (by decide) (by decide) (by decide)
            refine step_store_row rfl 27 _ _ rfl wr.drew.heap.size (Q1.cells (.slice pp3 n3 c3) (.slice ps3 m3 e3)) rfl rfl 27 _ hk8 (sizeY _ _ _) rfl (oneY _ _ _ _ _ _ _) ?_
            refine hK.out _ _ (fun k hk => (setRow_other w3 wr.drew.heap.size k _ (by omega)).trans (hS2 k hk)) (fun hS3 => ?_); clear hK K
            refine wpAnyH_take (i := 13) (v := ?_) rfl (by kernel_rfl) (by kernel_rfl) (by kernel_rfl) (fun _ _ _ h => h) (Or.inl ⟨by rfl, ?_⟩) hS3 ?_
            rotate_left
            · intro w1 _; go_simp; with_reducible rfl
            try simp only [List.getElem_toArray, List.getElem_cons_zero, List.getElem_cons_succ, Act.put, List.setIfInBounds_toArray, List.set_cons_zero, List.set_cons_succ]
            refine wpAnyH_done (by kernel_rfl) ?_ _
            obtain ⟨g8, hg8⟩ : ∃ g8, g8 = wr.heap.size := ⟨_, rfl⟩
            obtain ⟨W8, hW8⟩ : ∃ W8, W8 = w3.setRow wr.drew.heap.size (Q1.cells (.slice pp3 n3 c3) (.slice ps3 m3 e3)) := ⟨_, rfl⟩
            have h8 : Blk W8 g8 27 (Q1.cells (.slice pp3 n3 c3) (.slice ps3 m3 e3)) := by rw [hg8, hW8]; exact hk8.row _
            have hlt8 : w1.heap.size + 1 ≤ g8 := by rw [hg8]; exact hszW
            have hO8 : DOwn W8 (w1.heap.size + 1) (.slice pp3 n3 c3) (.slice ps3 m3 e3) Q1 := by rw [hW8]; exact (hdo3 rfl).far hk8 (by decide) (by decide) (by decide) (foot_setRow _ _ _)
            have hB8 : Below (w1.heap.size + 1) wr.drew W8 := by rw [hW8]; exact ((((Below.refl _ wr.drew).alloc hszW _).trans hb3).trans (foot_row _ hszW))
            rw [← hW8, ← hg8]
            clear hW8 hg8 hdo3 hb3 hk3 hk8
            have hN8 := hNW.below hB8 (by omega)
            have hK8 := hKW.below hB8 (by omega)
            have hL8 := RV.below hLW hB8 (fun k _ hk => by omega)
            have hbw8 := hbW.trans (hB8.mono (by omega))
            have hsz8 := Nat.le_trans hszW hB8.size
            have HL8 := Lib.hid hL8
            have HS8 := Lib.hid hsz8
            have HO8 := Lib.hid hO8
            clear hS0 hS1 hS2 hS3 hL8 hsz8 hO8 hB8 hLW hOW hNW hKW hbW hszW hline hcell
            go_wp2_with (first
              | (refine wpList_load_row rfl 27 _ rfl g8 rfl 27 _ (0, 0) _ h8 Tryz.underlying27 rfl (sizeY _ _ _) ?_)
              | (refine wpList_store_row rfl 27 _ _ rfl w1.heap.size (Q1.cells (.slice pp3 n3 c3) (.slice ps3 m3 e3)) rfl rfl 27 _ hN8 (sizeY _ _ _) rfl (oneY _ _ _ _ _ _ _) ?_))
            have hfr := foot_setRow W8 w1.heap.size (Q1.cells (.slice pp3 n3 c3) (.slice ps3 m3 e3))
            have hO9 := HO8.out.far hN8 (by decide) (by decide) (by decide) hfr
            have hK9 := hK8.foot hfr (by omega)
            have hN9 := hN8.row (Q1.cells (.slice pp3 n3 c3) (.slice ps3 m3 e3))
            have hL9 := RV.foot HL8.out hfr (fun k hk e => by omega)
            have hb9 := hbw8.trans (foot_row (w := W8) (Q1.cells (.slice pp3 n3 c3) (.slice ps3 m3 e3)) (Nat.le_trans (Nat.le_succ _) hs1))
            have hz9 : w1.heap.size + 1 ≤ (W8.setRow w1.heap.size (Q1.cells (.slice pp3 n3 c3) (.slice ps3 m3 e3))).heap.size := Nat.le_trans HS8.out hfr.size
            go_roundw
            case rel => exact ⟨i + 1, Q1, pp3, ps3, n3, c3, m3, e3, by go_num, by omega, HGO, Lib.hid hokL, Lib.hid hfewL, Lib.hid hO9, Lib.hid hN9, Lib.hid hK9, Lib.hid hL9, Lib.hid hz9, hb9⟩
            case measure => simp [intOf]; omega
        · rw [if_neg hcode] at hgo
          have hne : ((code : Int) != 0) = true := by simp; omega
          have HGO := Lib.hid hgo
          clear hgo hcode
          go_wp2
          refine wp_region_held_drew (S := fun w' => ∀ k, k < w1.heap.size + 1 → w'.heap[k]? = wr.drew.heap[k]?) (by kernel_rfl) (fun _ _ => rfl) (fun hS0 => ?_)
          refine wpAnyH_take (i := 0) (v := .agg (d.cells (.slice dp dn dc) (.slice sp sn sc))) rfl (by kernel_rfl) (by kernel_rfl) (by kernel_rfl) (fun _ _ _ h => h) (yields_row rfl 27 _ rfl w1.heap.size rfl 27 _ (0, 0) _ (fun w1' hS1 => (hS1 w1.heap.size (by omega)).trans hNW) Tryz.underlying27 rfl (sizeY _ _ _)) hS0 ?_
          try simp only [List.getElem_toArray, List.getElem_cons_zero, Act.put, List.setIfInBounds_toArray, List.set_cons_zero, List.set_cons_succ]
          refine wpAnyH_take (i := 1) (v := ?_) rfl (by kernel_rfl) (by kernel_rfl) (by kernel_rfl) (fun _ _ _ h => h) (Or.inl ⟨by rfl, ?_⟩) hS0 ?_
          rotate_left
          · intro w1 _; go_simp; with_reducible rfl
          try simp only [List.getElem_toArray, List.getElem_cons_zero, List.getElem_cons_succ, Act.put, List.setIfInBounds_toArray, List.set_cons_zero, List.set_cons_succ]
          refine wpAnyH_take (i := 2) (v := ?_) rfl (by kernel_rfl) (by kernel_rfl) (by kernel_rfl) (fun _ _ _ h => h) (Or.inl ⟨by rfl, ?_⟩) hS0 ?_
          rotate_left
          · intro w1 _; go_simp; with_reducible rfl
          try simp only [List.getElem_toArray, List.getElem_cons_zero, List.getElem_cons_succ, Act.put, List.setIfInBounds_toArray, List.set_cons_zero, List.set_cons_succ]
          refine wpAnyH_take (i := 3) (v := ?_) rfl (by kernel_rfl) (by kernel_rfl) (by kernel_rfl) (fun _ _ _ h => h) (Or.inl ⟨by rfl, ?_⟩) hS0 ?_
          rotate_left
          · intro w1 _; go_simp; with_reducible rfl
          try simp only [List.getElem_toArray, List.getElem_cons_zero, List.getElem_cons_succ, Act.put, List.setIfInBounds_toArray, List.set_cons_zero, List.set_cons_succ]
          refine wpAnyH_take (i := 4) (v := .string Z) rfl (by kernel_rfl) (by kernel_rfl) (by kernel_rfl) (fun _ _ _ h => h) (Or.inl ⟨by rfl, fun w1' hS1 => by have h0 : w1'.cell? ⟨b, off + i, none⟩ = some (.string Z) := (World.cell?_of_block (a := ⟨b, off + i, none⟩) (hS1 b (by omega))).trans hcell; go_simp⟩) hS0 ?_
          try simp only [List.getElem_toArray, List.getElem_cons_zero, List.getElem_cons_succ, Act.put, List.setIfInBounds_toArray, List.set_cons_zero, List.set_cons_succ]
          refine wpAnyH_take (i := 5) (v := ?_) rfl (by kernel_rfl) (by kernel_rfl) (by kernel_rfl) (fun _ _ _ h => h) (Or.inl ⟨by rfl, ?_⟩) hS0 ?_
          rotate_left
          · intro w1 _; go_simp; with_reducible rfl
          try simp only [List.getElem_toArray, List.getElem_cons_zero, List.getElem_cons_succ, Act.put, List.setIfInBounds_toArray, List.set_cons_zero, List.set_cons_succ]
          refine wpAnyH_take (i := 6) (v := .bool b0) rfl (by kernel_rfl) (by kernel_rfl) (by kernel_rfl) (fun _ _ _ h => h) (Or.inl ⟨by rfl, fun w1' hS1 => by go_simp⟩) hS0 ?_
          try simp only [List.getElem_toArray, List.getElem_cons_zero, List.getElem_cons_succ, Act.put, List.setIfInBounds_toArray, List.set_cons_zero, List.set_cons_succ]
          refine wpAnyH_ready (rs := [7, 11]) (by kernel_rfl) (by simp) ?_
          refine AllReadyH.cons rfl (fun K hK => ?_) (AllReadyH.cons rfl (fun K hK => ?_) AllReadyH.nil)
          · go_simp
            refine (hline wr.drew hszW hOW).mono ?_
            rintro e w3 ⟨⟨pp3, n3, c3, ps3, m3, e3, rfl, hdo3⟩, hb3, hk3⟩
            dsimp only
            refine hK.out _ _ (fun k hk => (hb3.block k hk).trans (hS0 k hk)) (fun hS1 => ?_); clear hK K
            refine wpAnyH_take (i := 8) (v := ?_) rfl (by kernel_rfl) (by kernel_rfl) (by kernel_rfl) (fun _ _ _ h => h) (Or.inl ⟨by rfl, ?_⟩) hS1 ?_
            rotate_left
            · intro w1 _; go_simp; with_reducible rfl
            try simp only [List.getElem_toArray, List.getElem_cons_zero, List.getElem_cons_succ, Act.put, List.setIfInBounds_toArray, List.set_cons_zero, List.set_cons_succ]
            refine wpAnyH_take (i := 9) (v := ?_) rfl (by kernel_rfl) (by kernel_rfl) (by kernel_rfl) (fun _ _ _ h => h) (Or.inl ⟨by rfl, ?_⟩) hS1 ?_
            rotate_left
            · intro w1 _; go_simp; with_reducible rfl
            try simp only [List.getElem_toArray, List.getElem_cons_zero, List.getElem_cons_succ, Act.put, List.setIfInBounds_toArray, List.set_cons_zero, List.set_cons_succ]
            refine wpAnyH_take (i := 10) (v := ?_) rfl (by kernel_rfl) (by kernel_rfl) (by kernel_rfl) (fun _ _ _ h => h) (Or.inl ⟨by rfl, ?_⟩) hS1 ?_
            rotate_left
            · intro w1 _; go_simp; with_reducible rfl
            try simp only [List.getElem_toArray, List.getElem_cons_zero, List.getElem_cons_succ, Act.put, List.setIfInBounds_toArray, List.set_cons_zero, List.set_cons_succ]
            refine wpAnyH_ready (rs := [11]) (by kernel_rfl) (by simp) ?_
            refine AllReadyH.cons rfl (fun K hK => ?_) AllReadyH.nil
            refine step_alloc_agg rfl 27 rfl (zeroY.cells (.slice none 0 0) (.slice none 0 0)) zeroYR ?_
            refine hK.out _ _ (fun k hk => (Below.heap_alloc _ _ k (Nat.lt_of_lt_of_le hk (Nat.le_trans hszW hb3.size))).trans (hS1 k hk)) (fun hS2 => ?_); clear hK K
            refine wpAnyH_ready (rs := [12]) (by kernel_rfl) (by simp) ?_
            refine AllReadyH.cons rfl (fun K hK => ?_) AllReadyH.nil
            refine step_store_row rfl 27 _ _ rfl w3.heap.size (Q1.cells (.slice pp3 n3 c3) (.slice ps3 m3 e3)) rfl rfl 27 _ (heap_alloc_new w3 _) (sizeY _ _ _) rfl (oneY _ _ _ _ _ _ _) ?_
            rw [World.setRow_alloc_new]
            refine hK.out _ _ (fun k hk => (Below.heap_alloc w3 _ k (Nat.lt_of_lt_of_le hk (Nat.le_trans hszW hb3.size))).trans (hS1 k hk)) (fun hS3 => ?_); clear hK K
            refine wpAnyH_take (i := 13) (v := ?_) rfl (by kernel_rfl) (by kernel_rfl) (by kernel_rfl) (fun _ _ _ h => h) (Or.inl ⟨by rfl, ?_⟩) hS3 ?_
            rotate_left
            · intro w1 _; go_simp; with_reducible rfl
            try simp only [List.getElem_toArray, List.getElem_cons_zero, List.getElem_cons_succ, Act.put, List.setIfInBounds_toArray, List.set_cons_zero, List.set_cons_succ]
            refine wpAnyH_done (by kernel_rfl) ?_ _
            obtain ⟨g8, hg8⟩ : ∃ g8, g8 = w3.heap.size := ⟨_, rfl⟩
            obtain ⟨W8, hW8⟩ : ∃ W8, W8 = w3.alloc (.cells (Q1.cells (.slice pp3 n3 c3) (.slice ps3 m3 e3)) 27) := ⟨_, rfl⟩
            have h8 : Blk W8 g8 27 (Q1.cells (.slice pp3 n3 c3) (.slice ps3 m3 e3)) := by rw [hg8, hW8]; exact Blk.new w3 _ _
            have hlt8 : w1.heap.size + 1 ≤ g8 := by rw [hg8]; exact Nat.le_trans hszW hb3.size
            have hB8 : Below (w1.heap.size + 1) wr.drew W8 := by rw [hW8]; exact hb3.alloc (Nat.le_trans hszW hb3.size) _
            rw [← hW8, ← hg8]
            clear hW8 hg8 hdo3 hb3 hk3
            have hN8 := hNW.below hB8 (by omega)
            have hK8 := hKW.below hB8 (by omega)
            have hL8 := RV.below hLW hB8 (fun k _ hk => by omega)
            have hbw8 := hbW.trans (hB8.mono (by omega))
            have hsz8 := Nat.le_trans hszW hB8.size
            have HL8 := Lib.hid hL8
            have HS8 := Lib.hid hsz8
            clear hS0 hS1 hS2 hS3 hL8 hsz8 hB8 hLW hOW hNW hKW hbW hszW hline hcell
            go_wp2_with (first
              | (refine wpList_store_row rfl 27 _ _ rfl w.heap.size (zeroY.cells (.slice none 0 0) (.slice none 0 0)) rfl rfl 27 _ hK8 (sizeY _ _ _) rfl (oneY _ _ _ _ _ _ _) ?_))
            refine bodyPost_ret (results_row_tmp2 rfl _ _ w.heap.size 27 (zeroY.cells (.slice none 0 0) (.slice none 0 0)) (0, 0) _ rfl (hK8.row _) Tryz.underlying27 rfl (sizeY _ _ _)) rfl ?_
            rw [← HGO.out]
            exact ⟨⟨_, _, rfl, ⟨RPP.nil _ _, RSs.nil _ _⟩⟩, hbw8.trans (foot_row _ (Nat.le_refl _))⟩
          · refine step_alloc_agg rfl 27 rfl (zeroY.cells (.slice none 0 0) (.slice none 0 0)) zeroYR ?_
            refine hK.out _ _ (fun k hk => (Below.heap_alloc _ _ k (Nat.lt_of_lt_of_le hk hszW)).trans (hS0 k hk)) (fun hS1 => ?_); clear hK K
            refine wpAnyH_ready (rs := [7]) (by kernel_rfl) (by simp) ?_
            refine AllReadyH.cons rfl (fun K hK => ?_) AllReadyH.nil
            go_simp
            refine (hline (wr.drew.alloc (.cells (zeroY.cells (.slice none 0 0) (.slice none 0 0)) 27)) (Nat.le_trans hszW (below_alloc1 wr.drew (.cells (zeroY.cells (.slice none 0 0) (.slice none 0 0)) 27)).size) (hOW.later (below_alloc1 _ _))).mono ?_
            rintro e w3 ⟨⟨pp3, n3, c3, ps3, m3, e3, rfl, hdo3⟩, hb3, hk3⟩
            dsimp only
            refine hK.out _ _ (fun k hk => (hb3.block k hk).trans (hS1 k hk)) (fun hS2 => ?_); clear hK K
            refine wpAnyH_take (i := 8) (v := ?_) rfl (by kernel_rfl) (by kernel_rfl) (by kernel_rfl) (fun _ _ _ h => h) (Or.inl ⟨by rfl, ?_⟩) hS2 ?_
            rotate_left
            · intro w1 _; go_simp; with_reducible rfl
            try simp only [List.getElem_toArray, List.getElem_cons_zero, List.getElem_cons_succ, Act.put, List.setIfInBounds_toArray, List.set_cons_zero, List.set_cons_succ]
            refine wpAnyH_take (i := 9) (v := ?_) rfl (by kernel_rfl) (by kernel_rfl) (by kernel_rfl) (fun _ _ _ h => h) (Or.inl ⟨by rfl, ?_⟩) hS2 ?_
            rotate_left
            · intro w1 _; go_simp; with_reducible rfl
            try simp only [List.getElem_toArray, List.getElem_cons_zero, List.getElem_cons_succ, Act.put, List.setIfInBounds_toArray, List.set_cons_zero, List.set_cons_succ]
            refine wpAnyH_take (i := 10) (v := ?_) rfl (by kernel_rfl) (by kernel_rfl) (by kernel_rfl) (fun _ _ _ h => h) (Or.inl ⟨by rfl, ?_⟩) hS2 ?_
            rotate_left
            · intro w1 _; go_simp; with_reducible rfl
            try simp only [List.getElem_toArray, List.getElem_cons_zero, List.getElem_cons_succ, Act.put, List.setIfInBounds_toArray, List.set_cons_zero, List.set_cons_succ]
            refine wpAnyH_ready (rs := [12]) (by kernel_rfl) (by simp) ?_
            refine AllReadyH.cons rfl (fun K hK => ?_) AllReadyH.nil
            have hk8 := hk3 wr.drew.heap.size _ _ (Blk.new wr.drew 27 (zeroY.cells (.slice none 0 0) (.slice none 0 0))) (by decide) (by decide) (by decide)
            refine step_store_row rfl 27 _ _ rfl wr.drew.heap.size (Q1.cells (.slice pp3 n3 c3) (.slice ps3 m3 e3)) rfl rfl 27 _ hk8 (sizeY _ _ _) rfl (oneY _ _ _ _ _ _ _) ?_
            refine hK.out _ _ (fun k hk => (setRow_other w3 wr.drew.heap.size k _ (by omega)).trans (hS2 k hk)) (fun hS3 => ?_); clear hK K
            refine wpAnyH_take (i := 13) (v := ?_) rfl (by kernel_rfl) (by kernel_rfl) (by kernel_rfl) (fun _ _ _ h => h) (Or.inl ⟨by rfl, ?_⟩) hS3 ?_
            rotate_left
            · intro w1 _; go_simp; with_reducible rfl
            try simp only [List.getElem_toArray, List.getElem_cons_zero, List.getElem_cons_succ, Act.put, List.setIfInBounds_toArray, List.set_cons_zero, List.set_cons_succ]
            refine wpAnyH_done (by kernel_rfl) ?_ _
            obtain ⟨g8, hg8⟩ : ∃ g8, g8 = wr.heap.size := ⟨_, rfl⟩
            obtain ⟨W8, hW8⟩ : ∃ W8, W8 = w3.setRow wr.drew.heap.size (Q1.cells (.slice pp3 n3 c3) (.slice ps3 m3 e3)) := ⟨_, rfl⟩
            have h8 : Blk W8 g8 27 (Q1.cells (.slice pp3 n3 c3) (.slice ps3 m3 e3)) := by rw [hg8, hW8]; exact hk8.row _
            have hlt8 : w1.heap.size + 1 ≤ g8 := by rw [hg8]; exact hszW
            have hB8 : Below (w1.heap.size + 1) wr.drew W8 := by rw [hW8]; exact ((((Below.refl _ wr.drew).alloc hszW _).trans hb3).trans (foot_row _ hszW))
            rw [← hW8, ← hg8]
            clear hW8 hg8 hdo3 hb3 hk3 hk8
            have hN8 := hNW.below hB8 (by omega)
            have hK8 := hKW.below hB8 (by omega)
            have hL8 := RV.below hLW hB8 (fun k _ hk => by omega)
            have hbw8 := hbW.trans (hB8.mono (by omega))
            have hsz8 := Nat.le_trans hszW hB8.size
            have HL8 := Lib.hid hL8
            have HS8 := Lib.hid hsz8
            clear hS0 hS1 hS2 hS3 hL8 hsz8 hB8 hLW hOW hNW hKW hbW hszW hline hcell
            go_wp2_with (first
              | (refine wpList_store_row rfl 27 _ _ rfl w.heap.size (zeroY.cells (.slice none 0 0) (.slice none 0 0)) rfl rfl 27 _ hK8 (sizeY _ _ _) rfl (oneY _ _ _ _ _ _ _) ?_))
            refine bodyPost_ret (results_row_tmp2 rfl _ _ w.heap.size 27 (zeroY.cells (.slice none 0 0) (.slice none 0 0)) (0, 0) _ rfl (hK8.row _) Tryz.underlying27 rfl (sizeY _ _ _)) rfl ?_
            rw [← HGO.out]
            exact ⟨⟨_, _, rfl, ⟨RPP.nil _ _, RSs.nil _ _⟩⟩, hbw8.trans (foot_row _ (Nat.le_refl _))⟩
      · obtain rfl : i = D.length := by omega
        have hgo := hg.out
        rw [List.drop_length] at hgo
        unfold goY at hgo
        have hchk := fun W (hW : DV W (fun k => w1.heap.size + 1 ≤ k) (.slice dp dn dc) (.slice sp sn sc) d) => RCheckY_any d hok.out _ _ _ W hW
        have hDV := hO.out.dv
        have hNN := hN.out
        have hKK := hK.out
        have hll : ¬ (D.length : Int) < (D.length : Int) := by omega
        by_cases hc : checkY d = 0
        · rw [if_pos hc] at hgo
          rw [hc] at hchk
          have HGO := Lib.hid hgo
          clear hc hgo hg hok hfew hO hN hK hL hSZ hlt hi hn
          go_wp2_with (first
            | (refine wpList_load_row rfl 27 _ rfl w1.heap.size rfl 27 _ (0, 0) _ hNN Tryz.underlying27 rfl (sizeY _ _ _) ?_)
            | (go_at_call 11; (with_reducible refine (hchk _ hDV).mono ?_); clear hchk; rintro e w9 ⟨rfl, hb9⟩; have hN9 := hNN.below hb9 hNN.lt; have hK9 := hKK.below hb9 hKK.lt; have hbw9 := below_pre hb hb9; have HDV9 := Lib.hid (hDV.later hb9))
            | (refine wpList_load_row rfl 27 _ rfl w1.heap.size rfl 27 _ (0, 0) _ hN9 Tryz.underlying27 rfl (sizeY _ _ _) ?_)
            | (refine wpList_store_row rfl 27 _ _ rfl w.heap.size (d.cells (.slice dp dn dc) (.slice sp sn sc)) rfl rfl 27 _ hK9 (sizeY _ _ _) rfl (oneY _ _ _ _ _ _ _) ?_))
          refine bodyPost_ret (results_row_tmp2 rfl _ _ w.heap.size 27 (d.cells (.slice dp dn dc) (.slice sp sn sc)) (0, 0) _ rfl (hK9.row _) Tryz.underlying27 rfl (sizeY _ _ _)) rfl ?_
          rw [← HGO.out]
          exact ⟨⟨_, _, rfl, (DV.foot HDV9.out (foot_setRow w9 w.heap.size (d.cells (.slice dp dn dc) (.slice sp sn sc))) (fun k hk e => by omega)).grow (fun k hk => by omega)⟩, hbw9.trans (foot_row _ (Nat.le_refl _))⟩
        · rw [if_neg hc] at hgo
          have hne : ((checkY d : Int) != 0) = true := by simp; omega
          have HGO := Lib.hid hgo
          generalize checkY d = code at *
          clear hc hgo hg hok hfew hO hN hK hL hSZ hlt hi hn
          go_wp2_with (first
            | (refine wpList_load_row rfl 27 _ rfl w1.heap.size rfl 27 _ (0, 0) _ hNN Tryz.underlying27 rfl (sizeY _ _ _) ?_)
            | (go_at_call 11; (with_reducible refine (hchk _ hDV).mono ?_); clear hchk; rintro e w9 ⟨rfl, hb9⟩; have hK9 := hKK.below hb9 hKK.lt; have hbw9 := below_pre hb hb9)
            | (refine wpList_store_row rfl 27 _ _ rfl w.heap.size (zeroY.cells (.slice none 0 0) (.slice none 0 0)) rfl rfl 27 _ hK9 (sizeY _ _ _) rfl (oneY _ _ _ _ _ _ _) ?_))
          refine bodyPost_ret (results_row_tmp2 rfl _ _ w.heap.size 27 (zeroY.cells (.slice none 0 0) (.slice none 0 0)) (0, 0) _ rfl (hK9.row _) Tryz.underlying27 rfl (sizeY _ _ _)) rfl ?_
          rw [← HGO.out]
          exact ⟨⟨_, _, rfl, ⟨RPP.nil _ _, RSs.nil _ _⟩⟩, hbw9.trans (foot_row _ (Nat.le_refl _))⟩
end Go.Proofs.YtbdimfcdpkldpaaGreatDoor
