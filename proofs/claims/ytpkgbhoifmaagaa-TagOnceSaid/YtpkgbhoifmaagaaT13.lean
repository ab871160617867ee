/- The walk of TagOnce. -/
import Derived.Test.YtpkgbhoifmaagaaT12
import Derived.Deep.QuietTactic
import Derived.BigQuiet
namespace Go.Proofs.Ytpkgbhoifmaagaa
open Go.RowKit

theorem capN_self (n : Nat) : capN n ≤ n := by unfold capN; split <;> omega
/-- The slot of byte k. -/
def slotO (xs : List UInt8) (k : Nat) : Nat := (xs.getD k 0).toNat % 8
theorem slotO_lt (xs : List UInt8) (k : Nat) : slotO xs k < 64 := by unfold slotO; omega

theorem sub_last (i n0 cn : Nat) (hi : i ≤ 60) (h : ¬ cn + i < lastN) (hc : cn ≤ n0) : ∃ q : Int, 72057594037927935 - (i : Int) = q ∧ q ≤ (n0 : Int) := by
  refine ⟨_, rfl, ?_⟩
  unfold lastN at h
  omega

set_option maxRecDepth 100000 in
set_option maxHeartbeats 16000000 in
theorem once_walk (n0 : Nat) (hn0 : n0 < 18446744073709551616) (xs : List UInt8) (p : Option Addr) (nn c : Nat) (hnn : nn = xs.length) (w : World) (hr : RV w (fun k => k < w.heap.size) (.slice p nn c) xs.length 1 (xs.map fun c => Value.int .u8 (c.toNat : Int))) :
    Calls Try.prog 5 #[.int .u64 (n0 : Int), .slice p nn c] w fun e w' => e = .returned (.bool true) ∧ Below w.heap.size w w' := by
  subst hnn
  obtain ⟨i0, hi0, hz0, hz1, hz2⟩ := info_parts infoU
  have HR := Lib.hid hr
  have hnew := Lib.hid (New_any n0)
  have HC := Lib.hid (capN_self n0)
  have HN0 := Lib.hid hn0
  clear hr hn0
  generalize capN n0 = cn at *
  go_enter Try.func5, Try.ntmps5
  go_wp2_with fail
  refine (hnew.out _).mono ?_
  rintro e w1 ⟨rfl, hat, hb1⟩
  have HI := Lib.hid (show On w w1 w.heap.size cn (fun _ => 0) (.slice none 0 0) [] from ⟨hat, World.ownsRow_nil _ _ _ _, hb1, Nat.le_refl _, fun x h => by cases h⟩)
  clear hat hb1
  generalize w.heap.size = b at HI ⊢
  go_wp2_with fail
  go_loopw [6, 7] (fun g t wr => ∃ i : Nat, i ≤ xs.length ∧ i ≤ 60 ∧ t = .int .i64 i ∧ Hid (On w wr b (cn + i) (stO cn (slotO xs) i) g (glO cn (slotO xs) i))) (fun _ t _ => 60 - (intOf t).toNat)
  case atStart => exact ⟨0, by omega, by omega, rfl, HI⟩
  case round =>
    obtain ⟨i, hi, hi6, rfl, HS⟩ := hrel
    by_cases hlt : i < xs.length
    · by_cases hl4 : i < 60
      · obtain ⟨pg, cg, rfl, _⟩ := RV.of_own HS.out.own
        rw [glO_len] at HS ⊢
        obtain ⟨bl, off, rfl, HX⟩ : ∃ bl off, p = some ⟨bl, off, none⟩ ∧ Hid (∀ W, Below w.heap.size w W → ∀ j, j < xs.length → W.cell? ⟨bl, off + j, none⟩ = some (.int .u8 ((xs.getD j 0).toNat : Int))) := by
          obtain ⟨p', c', hv, _, _, _, _, hc⟩ := HR.out
          obtain ⟨bl, off, hp, hbl, _, hc⟩ := hc.resolve_left (by omega)
          injection hv with hv
          refine ⟨bl, off, by rw [hv, hp], Lib.hid fun W hW j hj => ?_⟩
          rw [hW.cell (p := ⟨bl, off + j, none⟩) hbl]
          exact hc j _ (getD_map (fun c : UInt8 => Value.int .u8 (c.toNat : Int)) xs 0 j hj)
        have c0 := HX.out wr HS.out.bel i hlt
        have hNx := Next_any b (cn + i) _ ((slotO xs i : Nat) : Int) _ HS.out.book
        have hsl : ((xs.getD i 0).toNat : Int) % 8 = ((slotO xs i : Nat) : Int) := by unfold slotO; omega
        have hin := inB_nat _ (slotO_lt xs i)
        generalize (xs.getD i 0).toNat = x at *
        by_cases hm : cn + i < lastN
        · have hmay : mayN (cn + i) ((slotO xs i : Nat) : Int) = true := by unfold mayN; rw [hin]; simpa using hm
          by_cases hz : 0 < i
          · obtain ⟨i1, rfl⟩ : ∃ i1, i = i1 + 1 := ⟨i - 1, by omega⟩
            clear hz
            have hnx : nextN (cn + (i1 + 1)) (stO cn (slotO xs) (i1 + 1)) ((slotO xs (i1 + 1) : Nat) : Int) = (cn + (i1 + 1) + 1, stO cn (slotO xs) ((i1 + 1) + 1), wd (cn + (i1 + 1) + 1) (slotO xs (i1 + 1))) := by unfold nextN; rw [hmay]; rfl
            rw [hnx, hmay] at hNx
            have HXL := Lib.hid (wd_lt (cn + (i1 + 1) + 1) (slotO xs (i1 + 1)) hm (slotO_lt xs (i1 + 1)))
            have HGS := Lib.hid (glO_succ cn (slotO xs) (i1 + 1))
            have hlen := glO_len cn (slotO xs) (i1 + 1)
            have HXY := Lib.hid (show ¬ wd (cn + (i1 + 1) + 1) (slotO xs (i1 + 1)) ≤ wd (cn + i1 + 1) (slotO xs i1) by unfold wd slotO; rw [if_neg (by omega), if_neg (by omega)]; omega)
            obtain ⟨bl3, off3, hp3, hcell3, _⟩ := HS.out.word i1 (by rw [glO_len]; omega)
            subst hp3
            rw [glO_get cn _ _ i1 (by omega)] at hcell3
            have HC3 := Lib.hid (fun (w4 : World) (hf : Foot (fun k => k = b) wr w4) => (hf.own HS.out.own (fun k hk e => own_ne_blk HS.out.own HS.out.book.1 (by decide) (by rw [hk, e]))))
            clear hcell3
            generalize wd (cn + (i1 + 1) + 1) (slotO xs (i1 + 1)) = X at *
            have HNx := Lib.hid hNx
            clear hNx
            clear hnx
            go_wp2_with fail
            refine HNx.out.mono ?_
            rintro e w4 ⟨rfl, hat, hf⟩
            have hS2 := Lib.hid (HS.out.setBook hat hf)
            have hO := (hS2.out.below (below_alloc1 w4 (.cells #[.int .u64 (X : Int)] 22))).own
            rw [glO_len] at hO
            have hO := Lib.hid hO
            have HBS := Lib.hid (show w.heap.size ≤ w4.heap.size + 1 by have := hS2.out.bel.size; omega)
            have HLQ := Lib.hid (fun w5 v' (h : World.ownsRow w5 w.heap.size 22 1 v' ((i1 + 1) + 1) ((glO cn (slotO xs) (i1 + 1)).map uV ++ [.int .u64 (X : Int)])) => show World.ownsRow w5 w.heap.size 22 1 v' ((glO cn (slotO xs) (i1 + 1)).length + 1) ((glO cn (slotO xs) (i1 + 1)).map uV ++ [.int .u64 (X : Int)]) by rw [glO_len]; exact h)
            have HAP := Lib.hid (fun w5 v' ho hg => show On w w5 b (cn + (i1 + 1) + 1) (stO cn (slotO xs) ((i1 + 1) + 1)) v' (glO cn (slotO xs) ((i1 + 1) + 1)) by rw [← HGS.out]; exact (hS2.out.below (below_alloc1 w4 (.cells #[.int .u64 (X : Int)] 22))).app HXL.out ho hg)
            clear hat hf hlen
            obtain ⟨bl6, off6, hp6, hcell6, _⟩ := hS2.out.word i1 (by rw [glO_len]; omega)
            injection hp6 with hp6
            injection hp6 with hp7 hp8
            subst hp7 hp8
            rw [glO_get cn _ _ i1 (by omega)] at hcell6
            generalize wd (cn + i1 + 1) (slotO xs i1) = Y0 at *
            have hXY := HXY.out
            have hXYi : ¬ (X : Int) ≤ (Y0 : Int) := by omega
            go_wp2_with (at_builtin; refine wpList_append_own _ rfl _ _ 40 rfl w.heap.size 22 i0 (.int .u64 0) 1 8 Try.underlying40 hi0 hz0 hz1 hz2 rfl (by decide) _ _ _ rfl hO.out ⟨w4.heap.size, 0, none⟩ 1 1 [.int .u64 (X : Int)] rfl rfl (cell_one_new _ _ _) (by simp [Value.oneCell']) (by unfold maxLen; omega) (by omega) (by simp; exact HBS.out) ?_; intro v' w5 hown' hgrow _; have hown'' := HLQ.out w5 v' hown'; have hS3 := Lib.hid (HAP.out w5 v' hown'' hgrow); have hshape := Lib.hid (RV.of_own hown'); clear hown' hgrow hown''; obtain ⟨p', c', rfl, _⟩ := hshape.out)
            have h0w := hS3.out.word 0 (by rw [glO_len]; omega)
            obtain ⟨bl4, off4, hp4, _, _⟩ := h0w
            subst hp4
            go_loopw [10] (fun t wr2 => ∃ k : Nat, k ≤ (i1 + 1) + 1 ∧ t = .int .i64 k ∧ Hid (On w wr2 b (cn + (i1 + 1) + 1) (stO cn (slotO xs) ((i1 + 1) + 1)) (.slice (some ⟨bl4, off4, none⟩) ((i1 + 1) + 1) c') (glO cn (slotO xs) ((i1 + 1) + 1)))) (fun t _ => (i1 + 1) + 1 - (intOf t).toNat)
            case atStart => exact ⟨0, by omega, rfl, hS3⟩
            case round =>
              obtain ⟨k, hk, rfl, HS4⟩ := hrel
              by_cases hk1 : k < (i1 + 1) + 1
              · obtain ⟨d, hd⟩ : ∃ d, (i1 + 1) + 1 = k + 1 + d := ⟨(i1 + 1) - k, by omega⟩
                obtain ⟨hl, hL⟩ := live_word cn (slotO xs) k d (slotO_lt xs k)
                obtain ⟨bl5, off5, hp5, hcell, hsm⟩ := HS4.out.word k (by rw [glO_len]; omega)
                injection hp5 with hp5
                injection hp5 with hp6 hp7
                subst hp6 hp7
                rw [glO_get cn _ _ k (by omega)] at hcell hsm
                have hLv := Live_at b _ _ _ hsm _ HS4.out.book
                rw [← hd] at hl hL
                rw [hl] at hLv
                generalize wd (cn + k + 1) (slotO xs k) = Y at *
                generalize liveK (stO cn (slotO xs) ((i1 + 1) + 1)) Y = L at *
                have hLv := Lib.hid hLv
                have HD := Lib.hid hd
                have HLL := Lib.hid hL
                clear hl hL hsm hd
                go_wp2_with fail
                refine hLv.out.mono ?_
                rintro e w6 ⟨rfl, hb6⟩
                have HS5 := Lib.hid (HS4.out.below hb6)
                clear hb6
                go_wp2_with fail
                go_loopw [13, 14] (fun l t wr3 => ∃ m e : Nat, m ≤ (i1 + 1) + 1 ∧ t = .int .i64 m ∧ l = .bool (laterR (slotO xs) k e) ∧ Hid (m = k + 1 + e) ∧ Hid (On w wr3 b (cn + (i1 + 1) + 1) (stO cn (slotO xs) ((i1 + 1) + 1)) (.slice (some ⟨bl4, off4, none⟩) ((i1 + 1) + 1) c') (glO cn (slotO xs) ((i1 + 1) + 1)))) (fun _ t _ => (i1 + 1) + 1 - (intOf t).toNat)
                case atStart => exact ⟨k + 1, 0, by omega, by go_num, rfl, Lib.hid rfl, HS5⟩
                case round =>
                  obtain ⟨m, e, hm, rfl, rfl, HM, HS6⟩ := hrel
                  by_cases hm1 : m < (i1 + 1) + 1
                  · have cm := HX.out _ HS6.out.bel m (by omega)
                    have ck := HX.out _ HS6.out.bel k (by omega)
                    have HML := Lib.hid (show m < xs.length by omega)
                    have HKL := Lib.hid (show k < xs.length by omega)
                    have hml := HML.out
                    have hkl := HKL.out
                    have HLS := Lib.hid (show laterR (slotO xs) k (e + 1) = (laterR (slotO xs) k e || (slotO xs m == slotO xs k)) by rw [HM.out]; rfl)
                    cases hlr : laterR (slotO xs) k e with
                    | true =>
                      rw [hlr, Bool.true_or] at HLS
                      clear cm ck
                      go_wp2_with fail
                      go_quiet (fail)
                      go_wp2_with fail
                      go_roundw
                      case rel => exact ⟨m + 1, e + 1, by omega, by go_num, by rw [HLS.out], Lib.hid (by have := HM.out; omega), Lib.hid (HS6.out.drewN _)⟩
                      case measure => simp [intOf]; omega
                    | false =>
                      rw [hlr, Bool.false_or] at HLS
                      have hbb : (((xs.getD m 0).toNat : Int) % 8 == ((xs.getD k 0).toNat : Int) % 8) = (slotO xs m == slotO xs k) := by
                        unfold slotO; rw [Bool.eq_iff_iff]; simp only [beq_iff_eq]; omega
                      generalize (slotO xs m == slotO xs k) = bb at *
                      generalize (xs.getD m 0).toNat = xm at *
                      generalize (xs.getD k 0).toNat = xk at *
                      go_wp2_with fail
                      go_quiet (fail)
                      go_wp2_with fail
                      go_roundw
                      case rel => exact ⟨m + 1, e + 1, by omega, by go_num, by rw [HLS.out], Lib.hid (by have := HM.out; omega), Lib.hid (HS6.out.drewN _)⟩
                      case measure => simp [intOf]; omega
                  · have he : e = d := by have := HM.out; have := HD.out; omega
                    subst he
                    have ck := HX.out _ HS6.out.bel k (by omega)
                    have HKL := Lib.hid (show k < xs.length by omega)
                    have hkl := HKL.out
                    cases hlr : laterR (slotO xs) k e with
                    | true =>
                      clear ck
                      go_wp2_with fail
                      go_roundw
                      case rel => exact ⟨k + 1, by omega, by go_num, HS6⟩
                      case measure => simp [intOf]; omega
                    | false =>
                      have hLe := HLL.out hlr
                      have hsk : ((xs.getD k 0).toNat : Int) % 8 = ((slotO xs k : Nat) : Int) := by unfold slotO; omega
                      rw [← hLe] at hsk
                      clear hLe
                      generalize (xs.getD k 0).toNat = xk at *
                      go_wp2_with fail
                      go_roundw
                      case rel => exact ⟨k + 1, by omega, by go_num, HS6⟩
                      case measure => simp [intOf]; omega
              · obtain rfl : k = (i1 + 1) + 1 := by omega
                go_wp2_with fail
                go_roundw
                case rel => exact ⟨(i1 + 1) + 1, by omega, by omega, by go_num, HS4⟩
                case measure => simp [intOf]; omega
          · have hnx : nextN (cn + i) (stO cn (slotO xs) i) ((slotO xs i : Nat) : Int) = (cn + i + 1, stO cn (slotO xs) (i + 1), wd (cn + i + 1) (slotO xs i)) := by unfold nextN; rw [hmay]; rfl
            rw [hnx, hmay] at hNx
            have HXL := Lib.hid (wd_lt (cn + i + 1) (slotO xs i) hm (slotO_lt xs i))
            have HGS := Lib.hid (glO_succ cn (slotO xs) i)
            have hlen := glO_len cn (slotO xs) i
            generalize wd (cn + i + 1) (slotO xs i) = X at *
            have HNx := Lib.hid hNx
            clear hNx
            clear hnx
            go_wp2_with fail
            refine HNx.out.mono ?_
            rintro e w4 ⟨rfl, hat, hf⟩
            have hS2 := Lib.hid (HS.out.setBook hat hf)
            have hO := (hS2.out.below (below_alloc1 w4 (.cells #[.int .u64 (X : Int)] 22))).own
            rw [glO_len] at hO
            have hO := Lib.hid hO
            have HBS := Lib.hid (show w.heap.size ≤ w4.heap.size + 1 by have := hS2.out.bel.size; omega)
            have HLQ := Lib.hid (fun w5 v' (h : World.ownsRow w5 w.heap.size 22 1 v' (i + 1) ((glO cn (slotO xs) i).map uV ++ [.int .u64 (X : Int)])) => show World.ownsRow w5 w.heap.size 22 1 v' ((glO cn (slotO xs) i).length + 1) ((glO cn (slotO xs) i).map uV ++ [.int .u64 (X : Int)]) by rw [glO_len]; exact h)
            have HAP := Lib.hid (fun w5 v' ho hg => show On w w5 b (cn + i + 1) (stO cn (slotO xs) (i + 1)) v' (glO cn (slotO xs) (i + 1)) by rw [← HGS.out]; exact (hS2.out.below (below_alloc1 w4 (.cells #[.int .u64 (X : Int)] 22))).app HXL.out ho hg)
            clear hat hf hlen
            go_wp2_with (at_builtin; refine wpList_append_own _ rfl _ _ 40 rfl w.heap.size 22 i0 (.int .u64 0) 1 8 Try.underlying40 hi0 hz0 hz1 hz2 rfl (by decide) _ _ _ rfl hO.out ⟨w4.heap.size, 0, none⟩ 1 1 [.int .u64 (X : Int)] rfl rfl (cell_one_new _ _ _) (by simp [Value.oneCell']) (by unfold maxLen; omega) (by omega) (by simp; exact HBS.out) ?_; intro v' w5 hown' hgrow _; have hown'' := HLQ.out w5 v' hown'; have hS3 := Lib.hid (HAP.out w5 v' hown'' hgrow); have hshape := Lib.hid (RV.of_own hown'); clear hown' hgrow hown''; obtain ⟨p', c', rfl, _⟩ := hshape.out)
            have h0w := hS3.out.word 0 (by rw [glO_len]; omega)
            obtain ⟨bl4, off4, hp4, _, _⟩ := h0w
            subst hp4
            go_loopw [10] (fun t wr2 => ∃ k : Nat, k ≤ i + 1 ∧ t = .int .i64 k ∧ Hid (On w wr2 b (cn + i + 1) (stO cn (slotO xs) (i + 1)) (.slice (some ⟨bl4, off4, none⟩) (i + 1) c') (glO cn (slotO xs) (i + 1)))) (fun t _ => i + 1 - (intOf t).toNat)
            case atStart => exact ⟨0, by omega, rfl, hS3⟩
            case round =>
              obtain ⟨k, hk, rfl, HS4⟩ := hrel
              by_cases hk1 : k < i + 1
              · obtain ⟨d, hd⟩ : ∃ d, i + 1 = k + 1 + d := ⟨i - k, by omega⟩
                obtain ⟨hl, hL⟩ := live_word cn (slotO xs) k d (slotO_lt xs k)
                obtain ⟨bl5, off5, hp5, hcell, hsm⟩ := HS4.out.word k (by rw [glO_len]; omega)
                injection hp5 with hp5
                injection hp5 with hp6 hp7
                subst hp6 hp7
                rw [glO_get cn _ _ k (by omega)] at hcell hsm
                have hLv := Live_at b _ _ _ hsm _ HS4.out.book
                rw [← hd] at hl hL
                rw [hl] at hLv
                generalize wd (cn + k + 1) (slotO xs k) = Y at *
                generalize liveK (stO cn (slotO xs) (i + 1)) Y = L at *
                have hLv := Lib.hid hLv
                have HD := Lib.hid hd
                have HLL := Lib.hid hL
                clear hl hL hsm hd
                go_wp2_with fail
                refine hLv.out.mono ?_
                rintro e w6 ⟨rfl, hb6⟩
                have HS5 := Lib.hid (HS4.out.below hb6)
                clear hb6
                go_wp2_with fail
                go_loopw [13, 14] (fun l t wr3 => ∃ m e : Nat, m ≤ i + 1 ∧ t = .int .i64 m ∧ l = .bool (laterR (slotO xs) k e) ∧ Hid (m = k + 1 + e) ∧ Hid (On w wr3 b (cn + i + 1) (stO cn (slotO xs) (i + 1)) (.slice (some ⟨bl4, off4, none⟩) (i + 1) c') (glO cn (slotO xs) (i + 1)))) (fun _ t _ => i + 1 - (intOf t).toNat)
                case atStart => exact ⟨k + 1, 0, by omega, by go_num, rfl, Lib.hid rfl, HS5⟩
                case round =>
                  obtain ⟨m, e, hm, rfl, rfl, HM, HS6⟩ := hrel
                  by_cases hm1 : m < i + 1
                  · have cm := HX.out _ HS6.out.bel m (by omega)
                    have ck := HX.out _ HS6.out.bel k (by omega)
                    have HML := Lib.hid (show m < xs.length by omega)
                    have HKL := Lib.hid (show k < xs.length by omega)
                    have hml := HML.out
                    have hkl := HKL.out
                    have HLS := Lib.hid (show laterR (slotO xs) k (e + 1) = (laterR (slotO xs) k e || (slotO xs m == slotO xs k)) by rw [HM.out]; rfl)
                    cases hlr : laterR (slotO xs) k e with
                    | true =>
                      rw [hlr, Bool.true_or] at HLS
                      clear cm ck
                      go_wp2_with fail
                      go_quiet (fail)
                      go_wp2_with fail
                      go_roundw
                      case rel => exact ⟨m + 1, e + 1, by omega, by go_num, by rw [HLS.out], Lib.hid (by have := HM.out; omega), Lib.hid (HS6.out.drewN _)⟩
                      case measure => simp [intOf]; omega
                    | false =>
                      rw [hlr, Bool.false_or] at HLS
                      have hbb : (((xs.getD m 0).toNat : Int) % 8 == ((xs.getD k 0).toNat : Int) % 8) = (slotO xs m == slotO xs k) := by
                        unfold slotO; rw [Bool.eq_iff_iff]; simp only [beq_iff_eq]; omega
                      generalize (slotO xs m == slotO xs k) = bb at *
                      generalize (xs.getD m 0).toNat = xm at *
                      generalize (xs.getD k 0).toNat = xk at *
                      go_wp2_with fail
                      go_quiet (fail)
                      go_wp2_with fail
                      go_roundw
                      case rel => exact ⟨m + 1, e + 1, by omega, by go_num, by rw [HLS.out], Lib.hid (by have := HM.out; omega), Lib.hid (HS6.out.drewN _)⟩
                      case measure => simp [intOf]; omega
                  · have he : e = d := by have := HM.out; have := HD.out; omega
                    subst he
                    have ck := HX.out _ HS6.out.bel k (by omega)
                    have HKL := Lib.hid (show k < xs.length by omega)
                    have hkl := HKL.out
                    cases hlr : laterR (slotO xs) k e with
                    | true =>
                      clear ck
                      go_wp2_with fail
                      go_roundw
                      case rel => exact ⟨k + 1, by omega, by go_num, HS6⟩
                      case measure => simp [intOf]; omega
                    | false =>
                      have hLe := HLL.out hlr
                      have hsk : ((xs.getD k 0).toNat : Int) % 8 = ((slotO xs k : Nat) : Int) := by unfold slotO; omega
                      rw [← hLe] at hsk
                      clear hLe
                      generalize (xs.getD k 0).toNat = xk at *
                      go_wp2_with fail
                      go_roundw
                      case rel => exact ⟨k + 1, by omega, by go_num, HS6⟩
                      case measure => simp [intOf]; omega
              · obtain rfl : k = i + 1 := by omega
                go_wp2_with fail
                go_roundw
                case rel => exact ⟨i + 1, by omega, by omega, by go_num, HS4⟩
                case measure => simp [intOf]; omega
        · have hmay : mayN (cn + i) ((slotO xs i : Nat) : Int) = false := by unfold mayN; rw [hin]; simpa using hm
          have hnx : nextN (cn + i) (stO cn (slotO xs) i) ((slotO xs i : Nat) : Int) = (cn + i, stO cn (slotO xs) i, 0) := by unfold nextN; rw [hmay]; rfl
          rw [hnx, hmay] at hNx
          have HNx := Lib.hid hNx
          clear hNx
          obtain ⟨q, hwq, hqn⟩ := sub_last i n0 cn hi6 (by omega) HC.out
          have HWQ := Lib.hid (show 72057594037927935 - (i : Int) = q from hwq)
          clear hnx hm hwq hmay hin
          go_wp2_with fail
          refine HNx.out.mono ?_
          rintro e w4 ⟨rfl, hat, hf⟩
          have hS2 := Lib.hid (HS.out.setBook hat hf)
          clear hat hf
          go_wp2_with (first | (go_at_call 10; refine (awake_any _).mono ?_; rintro e w9 ⟨rfl, hb9⟩) | rw [HWQ.out])
          go_ret
          exact ⟨rfl, below_pre hS2.out.bel hb9⟩
      · obtain rfl : i = 60 := by omega
        go_wp2_with (go_at_call 10; refine (awake_any _).mono ?_; rintro e w9 ⟨rfl, hb9⟩)
        go_ret
        exact ⟨rfl, below_pre HS.out.bel hb9⟩
    · obtain rfl : i = xs.length := by omega
      go_wp2_with (go_at_call 10; refine (awake_any _).mono ?_; rintro e w9 ⟨rfl, hb9⟩)
      go_ret
      exact ⟨rfl, below_pre HS.out.bel hb9⟩
end Go.Proofs.Ytpkgbhoifmaagaa
