/- ProgBytes. -/
import Derived.Test.YtlgjbcmkhcgigaaDoorLV1
import Derived.Test.YtlgjbcmkhcgigaaDoorLW2
import Derived.OrdersHeld
import Derived.Deep.RegionHeld
namespace Go.Proofs.YtlgjbcmkhcgigaaDoor
open Go.RowKit
open Wire (bV)

set_option maxRecDepth 100000 in
set_option maxHeartbeats 8000000 in
theorem pbytes_walk (v : Value) (ps : List Deed) (hok : ∀ d ∈ ps, d.ok) (w : World) (hr : RP w (fun k => k < w.heap.size) v ps) (hT : Tabs w) :
    Calls Tryd.prog 6 #[v] w fun e w' => e = .returned (.bool true) ∧ Below w.heap.size w w' := by
  obtain ⟨p, c, M, qs, rfl, hnc, hcm, hqM, hM3, hq, hqok, hcut⟩ := few_reads hr hok
  have hfew := few_any p ps.length c M hnc hcm hcut
  subst hqM
  have hrchk := fun W (h : RP W (fun k => k < w.heap.size) (.slice p qs.length c) qs) => RCheck_any p c qs _ W h
  have HH := Lib.hid (fun (W : World) (hs : w.heap.size ≤ W.heap.size) (h : RP W (fun k => k < w.heap.size) (.slice p qs.length c) qs) => handed_any p c qs hqok _ W (fun k hk => Nat.lt_of_lt_of_le hk hs) h)
  have t3 : ((checkN qs : Int) != (checkN qs : Int)) = false := by simp
  have HA := Lib.hid awake_any
  have HT := Lib.hid hT
  have HP := Lib.hid hq
  have g : Hid (Below w.heap.size w w) := Lib.hid (Below.refl _ _)
  clear hr hq hok hT hnc hcm hcut
  by_cases h0 : checkN qs = 0
  · have henc := fun (W : World) (hs : w.heap.size ≤ W.heap.size) (h : RP W (fun k => k < w.heap.size) (.slice p qs.length c) qs) => Encode_good p c qs hqok _ W (fun k hk => Nat.lt_of_lt_of_le hk hs) h h0
    have HRB := Lib.hid (fun (W : World) (hs : w.heap.size ≤ W.heap.size) (h : RP W (fun k => k < w.heap.size) (.slice p qs.length c) qs) => RBytes8_any p c _ qs rfl hqok _ W (fun k hk => Nat.lt_of_lt_of_le hk hs) h h0)
    have hlen := bytesP_len qs hqok h0
    have hdec := decP_bytes qs hqok h0
    have h256 := (checkN_zero.1 h0).1
    have HDC := Lib.hid (fun (x : Value) (G : Nat → Prop) (W : World) (hr : RV W G x (bytesP qs).length 1 ((bytesP qs).map bV)) => (show Calls Tryd.prog 25 #[x] W fun e w' => ∃ v, e = .returned (.tuple #[v, .int .i64 0]) ∧ w'.ownsRow W.heap.size 45 7 v qs.length (qs.flatMap dCells) ∧ Below W.heap.size W w' from by
      have := Decode_any x (bytesP qs) (by omega) G W hr
      rw [hdec] at this
      exact this))
    have HZM : Hid (∀ (p' : Option Addr) (c' : Nat) (W : World), RP W (fun k => k < w.heap.size) (.slice p qs.length c) qs → RP W (fun _ => True) (.slice p' qs.length c') qs → Calls Tryd.prog 21 #[.slice p qs.length c, .slice p' qs.length c'] W fun e w' => e = .returned (.bool true) ∧ Below W.heap.size W w') := Lib.hid (fun p' c' W h h' => by
      have := Same_any p p' c c' qs qs (by omega) _ _ W h h'
      rw [(sameP_iff qs qs).2 rfl] at this
      exact this)
    have HENC := Lib.hid henc
    rw [h0] at hrchk t3
    generalize bytesP qs = T at *
    obtain ⟨TX, hTX⟩ : ∃ TX : ByteArray, TX = ⟨T.toArray⟩ := ⟨_, rfl⟩
    have HTX := Lib.hid hTX
    clear hTX h0 hlen hdec hqok hM3 henc
    go_enter Tryd.func6, Tryd.ntmps6
    go_wp2_with (first
      | (go_at_call 8; (with_reducible refine (hfew _).mono ?_); clear hfew; rintro e w1 ⟨rfl, rfl⟩)
      | (go_at_call 12; (with_reducible refine (hrchk _ HP.out).mono ?_); clear hrchk; rintro e w1 ⟨rfl, hb1⟩; replace HX := Lib.hid (RV.below HX.out hb1 (fun _ hk _ => hk)); replace g := Lib.hid (g.out.trans (hb1.mono g.out.size)); replace HP := Lib.hid (HP.out.later hb1); clear hb1)
      | (go_at_call 15; (with_reducible refine (HA.out _ (HT.out.below g.out (Nat.le_refl _))).mono ?_); rintro e w1 ⟨rfl, hb1⟩; replace HX := Lib.hid (RV.below HX.out hb1 (fun _ hk _ => hk)); replace g := Lib.hid (g.out.trans (hb1.mono g.out.size)); replace HP := Lib.hid (HP.out.later hb1); clear hb1)
      | (go_at_call 24; (with_reducible refine (HH.out _ g.out.size HP.out).mono ?_); rintro e w1 ⟨rfl, hb1⟩; replace HX := Lib.hid (RV.below HX.out hb1 (fun _ hk _ => hk)); replace g := Lib.hid (g.out.trans (hb1.mono g.out.size)); replace HP := Lib.hid (HP.out.later hb1); clear hb1)
      | (go_at_call 23; (with_reducible refine (HENC.out _ g.out.size HP.out).mono ?_); rintro e w1 ⟨x1, rfl, hown1, hb1⟩; obtain ⟨px, cx, rfl, _⟩ := id (RV.of_own hown1); have HX := Lib.hid (RV.mono (G' := fun _ => True) (RV.of_own hown1) (fun _ _ _ => trivial)); clear hown1; replace g := Lib.hid (g.out.trans (hb1.mono g.out.size)); replace HP := Lib.hid (HP.out.later hb1); clear hb1)
      | (go_at_call 25; (with_reducible refine (HDC.out _ _ _ HX.out).mono ?_); rintro e W ⟨x9, rfl, hown9, hb1⟩; obtain ⟨p9, c9, rfl, hq9⟩ := rp_own hown9 rfl; have HQ := Lib.hid hq9; clear hown9 hq9; replace HX := Lib.hid (RV.below HX.out hb1 (fun _ hk _ => hk)); replace g := Lib.hid (g.out.trans (hb1.mono g.out.size)); replace HP := Lib.hid (HP.out.later hb1); clear hb1))
    have HBW : Hid (Below w.heap.size w W.drew) := Lib.hid g.out.drew
    have HPW : Hid (∀ w1, Below W.heap.size W.drew w1 → RP w1 (fun k => k < w.heap.size) (.slice p qs.length c) qs) := Lib.hid (fun w1 h1 => RP.later (w := W.drew) (RV.drew HP.out) h1)
    have HQW : Hid (∀ w1, Below W.heap.size W.drew w1 → RP w1 (fun _ => True) (.slice p9 qs.length c9) qs) := Lib.hid (fun w1 h1 => RP.later (w := W.drew) (RV.drew HQ.out) h1)
    have HCV : Hid (∀ w1, Below W.heap.size W.drew w1 → (convert 37 9 (.slice px T.length cx)).run Tryd.prog w1 = .ok (.string TX) w1) := Lib.hid (fun w1 h1 => by
      have hr := RV.below (RV.drew HX.out) h1 (fun k hk _ => hk)
      have := Wire.text_rv (P := Tryd.prog) 37 5 9 Tryd.underlying37 Tryd.underlying5 Tryd.underlying9 hr
      rw [← HTX.out] at this
      exact this)
    refine wp_region_held_drew (S := fun w' => Below W.heap.size W.drew w') (by kernel_rfl) (Below.refl _ _) (fun hS0 => ?_)
    refine wpAnyH_take (i := 0) (v := ?_) rfl (by kernel_rfl) (by kernel_rfl) (by kernel_rfl) (fun _ _ _ h => h) (Or.inl ⟨by rfl, ?_⟩) hS0 ?_
    rotate_left
    · intro w1 _; go_simp; with_reducible rfl
    try simp only [List.getElem_toArray, List.getElem_cons_zero, Act.put, List.setIfInBounds_toArray, List.set_cons_zero, List.set_cons_succ]
    refine wpAnyH_take (i := 1) (v := .string TX) rfl (by kernel_rfl) (by kernel_rfl) (by kernel_rfl) (fun _ _ _ h => h) (Or.inl ⟨by rfl, fun w1 hS1 => by have hcv := HCV.out w1 hS1; go_simp⟩) hS0 ?_
    try simp only [List.getElem_toArray, List.getElem_cons_zero, List.getElem_cons_succ, Act.put, List.setIfInBounds_toArray, List.set_cons_zero, List.set_cons_succ]
    refine wpAnyH_take (i := 2) (v := ?_) rfl (by kernel_rfl) (by kernel_rfl) (by kernel_rfl) (fun _ _ _ h => h) (Or.inl ⟨by rfl, ?_⟩) hS0 ?_
    rotate_left
    · intro w1 _; go_simp; with_reducible rfl
    try simp only [List.getElem_toArray, List.getElem_cons_zero, List.getElem_cons_succ, Act.put, List.setIfInBounds_toArray, List.set_cons_zero, List.set_cons_succ]
    refine wpAnyH_ready (rs := [3]) (by kernel_rfl) (by simp) ?_
    refine AllReadyH.cons rfl (fun K hK => ?_) AllReadyH.nil
    go_simp
    have hzz := Below.size hS0
    have hzw := Nat.le_trans HBW.out.size hzz
    refine (HRB.out _ hzw (HPW.out _ hS0)).mono ?_
    rintro e w5 ⟨v5, rfl, hown5, hb5⟩
    dsimp only
    have hr5 := RV.of_own hown5
    obtain ⟨p5, c5, rfl, _⟩ := id hr5
    have hcv5 := Wire.text_rv (P := Tryd.prog) 37 5 9 Tryd.underlying37 Tryd.underlying5 Tryd.underlying9 hr5
    rw [← HTX.out] at hcv5
    refine hK.out _ _ (Below.trans hS0 (hb5.mono hzz)) (fun hS1 => ?_); clear hK K
    refine wpAnyH_ready (rs := [4]) (by kernel_rfl) (by simp) ?_
    refine AllReadyH.cons rfl (fun K hK => ?_) AllReadyH.nil
    go_simp
    refine hK.out _ _ (hS1) (fun hS2 => ?_); clear hK K
    refine wpAnyH_take (i := 5) (v := .bool true) rfl (by kernel_rfl) (by kernel_rfl) (by kernel_rfl) (fun _ _ _ h => h) (Or.inl ⟨by rfl, fun w1 hS1 => by first | (go_simp; done) | (go_simp; simp)⟩) hS2 ?_
    try simp only [List.getElem_toArray, List.getElem_cons_zero, List.getElem_cons_succ, Act.put, List.setIfInBounds_toArray, List.set_cons_zero, List.set_cons_succ]
    refine wpAnyH_take (i := 6) (v := ?_) rfl (by kernel_rfl) (by kernel_rfl) (by kernel_rfl) (fun _ _ _ h => h) (Or.inl ⟨by rfl, ?_⟩) hS2 ?_
    rotate_left
    · intro w1 _; go_simp; with_reducible rfl
    try simp only [List.getElem_toArray, List.getElem_cons_zero, List.getElem_cons_succ, Act.put, List.setIfInBounds_toArray, List.set_cons_zero, List.set_cons_succ]
    refine wpAnyH_take (i := 7) (v := ?_) rfl (by kernel_rfl) (by kernel_rfl) (by kernel_rfl) (fun _ _ _ h => h) (Or.inl ⟨by rfl, ?_⟩) hS2 ?_
    rotate_left
    · intro w1 _; go_simp; with_reducible rfl
    try simp only [List.getElem_toArray, List.getElem_cons_zero, List.getElem_cons_succ, Act.put, List.setIfInBounds_toArray, List.set_cons_zero, List.set_cons_succ]
    refine wpAnyH_take (i := 8) (v := ?_) rfl (by kernel_rfl) (by kernel_rfl) (by kernel_rfl) (fun _ _ _ h => h) (Or.inl ⟨by rfl, ?_⟩) hS2 ?_
    rotate_left
    · intro w1 _; go_simp; with_reducible rfl
    try simp only [List.getElem_toArray, List.getElem_cons_zero, List.getElem_cons_succ, Act.put, List.setIfInBounds_toArray, List.set_cons_zero, List.set_cons_succ]
    refine wpAnyH_ready (rs := [9]) (by kernel_rfl) (by simp) ?_
    refine AllReadyH.cons rfl (fun K hK => ?_) AllReadyH.nil
    go_simp
    have hyy := Below.size hS2
    refine (HZM.out _ _ _ (HPW.out _ hS2) (HQW.out _ hS2)).mono ?_
    rintro e w6 ⟨rfl, hb6⟩
    dsimp only
    refine hK.out _ _ (Below.trans hS2 (hb6.mono hyy)) (fun hS3 => ?_); clear hK K
    refine wpAnyH_take (i := 10) (v := ?_) rfl (by kernel_rfl) (by kernel_rfl) (by kernel_rfl) (fun _ _ _ h => h) (Or.inl ⟨by rfl, ?_⟩) hS3 ?_
    rotate_left
    · intro w1 _; go_simp; with_reducible rfl
    try simp only [List.getElem_toArray, List.getElem_cons_zero, List.getElem_cons_succ, Act.put, List.setIfInBounds_toArray, List.set_cons_zero, List.set_cons_succ]
    refine wpAnyH_take (i := 11) (v := ?_) rfl (by kernel_rfl) (by kernel_rfl) (by kernel_rfl) (fun _ _ _ h => h) (Or.inl ⟨by rfl, ?_⟩) hS3 ?_
    rotate_left
    · intro w1 _; go_simp; with_reducible rfl
    try simp only [List.getElem_toArray, List.getElem_cons_zero, List.getElem_cons_succ, Act.put, List.setIfInBounds_toArray, List.set_cons_zero, List.set_cons_succ]
    refine wpAnyH_take (i := 12) (v := ?_) rfl (by kernel_rfl) (by kernel_rfl) (by kernel_rfl) (fun _ _ _ h => h) (Or.inl ⟨by rfl, ?_⟩) hS3 ?_
    rotate_left
    · intro w1 _; go_simp; with_reducible rfl
    try simp only [List.getElem_toArray, List.getElem_cons_zero, List.getElem_cons_succ, Act.put, List.setIfInBounds_toArray, List.set_cons_zero, List.set_cons_succ]
    refine wpAnyH_take (i := 13) (v := .bool true) rfl (by kernel_rfl) (by kernel_rfl) (by kernel_rfl) (fun _ _ _ h => h) (Or.inl ⟨by rfl, fun w1 hS1 => by first | (go_simp; done) | (go_simp; simp)⟩) hS3 ?_
    try simp only [List.getElem_toArray, List.getElem_cons_zero, List.getElem_cons_succ, Act.put, List.setIfInBounds_toArray, List.set_cons_zero, List.set_cons_succ]
    refine wpAnyH_take (i := 14) (v := ?_) rfl (by kernel_rfl) (by kernel_rfl) (by kernel_rfl) (fun _ _ _ h => h) (Or.inl ⟨by rfl, ?_⟩) hS3 ?_
    rotate_left
    · intro w1 _; go_simp; with_reducible rfl
    try simp only [List.getElem_toArray, List.getElem_cons_zero, List.getElem_cons_succ, Act.put, List.setIfInBounds_toArray, List.set_cons_zero, List.set_cons_succ]
    refine wpAnyH_take (i := 15) (v := ?_) rfl (by kernel_rfl) (by kernel_rfl) (by kernel_rfl) (fun _ _ _ h => h) (Or.inl ⟨by rfl, ?_⟩) hS3 ?_
    rotate_left
    · intro w1 _; go_simp; with_reducible rfl
    try simp only [List.getElem_toArray, List.getElem_cons_zero, List.getElem_cons_succ, Act.put, List.setIfInBounds_toArray, List.set_cons_zero, List.set_cons_succ]
    refine wpAnyH_done (by kernel_rfl) ?_ _
    have hbf := HBW.out.trans (Below.mono hS3 HBW.out.size)
    go_wp2
    go_ret
    exact ⟨rfl, hbf⟩
  · have hencb := fun (W : World) (h : RP W (fun k => k < w.heap.size) (.slice p qs.length c) qs) => Encode_bad p c qs hqok _ W h h0
    have tc : ((checkN qs : Int) != 0) = true := by simp; omega
    clear h0 hqok hM3
    go_enter Tryd.func6, Tryd.ntmps6
    go_wp2_with (first
      | (go_at_call 8; (with_reducible refine (hfew _).mono ?_); clear hfew; rintro e w1 ⟨rfl, rfl⟩)
      | (go_at_call 12; (with_reducible refine (hrchk _ HP.out).mono ?_); clear hrchk; rintro e w1 ⟨rfl, hb1⟩; replace g := Lib.hid (g.out.trans (hb1.mono g.out.size)); replace HP := Lib.hid (HP.out.later hb1); clear hb1)
      | (go_at_call 15; (with_reducible refine (HA.out _ (HT.out.below g.out (Nat.le_refl _))).mono ?_); rintro e w1 ⟨rfl, hb1⟩; replace g := Lib.hid (g.out.trans (hb1.mono g.out.size)); replace HP := Lib.hid (HP.out.later hb1); clear hb1)
      | (go_at_call 24; (with_reducible refine (HH.out _ g.out.size HP.out).mono ?_); rintro e w1 ⟨rfl, hb1⟩; replace g := Lib.hid (g.out.trans (hb1.mono g.out.size)); replace HP := Lib.hid (HP.out.later hb1); clear hb1)
      | (go_at_call 23; (with_reducible refine (hencb _ HP.out).mono ?_); clear hencb; rintro e w1 ⟨rfl, hb1⟩; replace g := Lib.hid (g.out.trans (hb1.mono g.out.size)); replace HP := Lib.hid (HP.out.later hb1); clear hb1))
    go_ret
    exact ⟨rfl, g.out⟩
end Go.Proofs.YtlgjbcmkhcgigaaDoor
