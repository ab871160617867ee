/- The contracts of Run and of its reference. -/
import Derived.Test.YtjfgjblpaojjkaaE2
import Derived.WalkSpells
import Derived.Deep.RegionWith
namespace Go.Proofs.Ytjfgjblpaojjkaa
open Go.RowKit

theorem wrap_nat_u64 (n : Nat) (h : n < 18446744073709551616) : IntKind.u64.wrap (n : Int) = (n : Int) := by rw [IntKind.wrap_u64]; omega

set_option maxHeartbeats 4000000 in
theorem Run_any (l : Int) (t : Nat) (ht : t < 18446744073709551616) (w : World) :
    Calls Try.prog 19 #[.int .i64 l, .int .u64 t] w fun e w' => e = .returned (.tuple #[.int .i64 (runL l t).1, .int .u64 (runL l t).2]) ∧ Below w.heap.size w w' := by
  have h := holdN_le l
  obtain ⟨k, hk⟩ : ∃ k, holdN l = k := ⟨_, rfl⟩
  obtain ⟨R, hR⟩ : ∃ R, runL l t = R := ⟨_, rfl⟩
  rw [hR]
  unfold runL at hR
  rw [hk] at h hR
  have HK := Lib.hid hk
  have HR := Lib.hid hR
  have HT := Lib.hid ht
  clear hk hR ht
  go_enter Try.func19, Try.ntmps19
  go_wp2_with (go_at_call 8; refine (Hold_any _ _).mono ?_; rintro e w' ⟨rfl, rfl⟩; rw [HK.out])
  go_loopw [1, 4] (fun a b wr => ∃ k t : Nat, k ≤ 7 ∧ a = .int .u64 t ∧ b = .int .i64 k ∧ Hid (t < 18446744073709551616) ∧ Hid (runN (7 - k) k t = R) ∧ Below w.heap.size w wr) (fun _ b _ => 7 - (intOf b).toNat)
  case atStart => exact ⟨k, t, h, rfl, rfl, HT, HR, Below.refl _ _⟩
  case round =>
    obtain ⟨k, t, hk7, rfl, rfl, HT, HR, hb⟩ := hrel
    have hq := qN_pos k hk7
    have hq8 := qN_le k
    have HN := Lib.hid (holdN_nat k hk7)
    obtain ⟨q, hqe⟩ : ∃ q, qN k = q := ⟨_, rfl⟩
    rw [hqe] at hq hq8
    have HQ := Lib.hid hqe
    clear hqe
    by_cases hk : k < 7
    · have HD := Lib.hid (show downN k = k + 1 by unfold downN; rw [if_pos hk])
      obtain ⟨f, hf⟩ : ∃ f, 7 - k = f + 1 := ⟨6 - k, by omega⟩
      have hR := HR.out
      rw [hf, runN, HQ.out] at hR
      by_cases hlt : q ≤ t
      · rw [if_pos hlt] at hR
        have HR2 := Lib.hid hR
        have HF := Lib.hid (show 7 - (k + 1) = f by omega)
        clear hR hf
        go_wp2_with (first
          | (go_at_call 12; refine (Quantum_any _ _).mono ?_; rintro e w1 ⟨rfl, hb1⟩; rw [HN.out, HQ.out])
          | (go_at_call 14; refine (Down_any _ _).mono ?_; rintro e w1 ⟨rfl, rfl⟩; rw [HN.out]))
        go_roundw
        case rel =>
          rename_i w3 hb3
          have := HT.out
          exact ⟨k + 1, t - q, by omega, by rw [← Int.natCast_sub hlt]; rw [wrap_nat_u64 _ (by omega)], by rw [HD.out], Lib.hid (by omega), Lib.hid (by rw [HF.out]; exact HR2.out), (hb.trans (hb3.mono hb.size)).trans (hb1.mono (hb.trans (hb3.mono hb.size)).size)⟩
        case measure => rw [HD.out]; simp [intOf]; omega
      · rw [if_neg hlt] at hR
        have HR2 := Lib.hid hR
        clear hR hf
        go_wp2_with (go_at_call 12; refine (Quantum_any _ _).mono ?_; rintro e w1 ⟨rfl, hb1⟩; rw [HN.out, HQ.out])
        go_region_with (go_at_call 12; refine (Quantum_any _ _).mono ?_; rintro e w2 ⟨rfl, hb2⟩; rw [HN.out, HQ.out])
        all_goals go_wp2
        all_goals go_ret2
        all_goals exact ⟨by rw [← HR2.out]; rfl, (hb.trans (hb1.mono hb.size)).drew.trans (hb2.mono (hb.trans (hb1.mono hb.size)).size)⟩
    · obtain rfl : k = 7 := by omega
      have HN7 := Lib.hid (show holdN 7 = 7 by decide)
      have HR2 := HR
      simp only [Nat.sub_self, runN] at HR2
      rw [HQ.out] at HR2
      go_wp2
      go_region_with (go_at_call 12; refine (Quantum_any _ _).mono ?_; rintro e w2 ⟨rfl, hb2⟩; rw [HN7.out, HQ.out])
      all_goals go_wp2
      all_goals go_ret2
      all_goals exact ⟨by rw [← HR2.out]; rfl, hb.drew.trans (hb2.mono hb.size)⟩
set_option maxHeartbeats 4000000 in
theorem RRun_any (l : Int) (t : Nat) (ht : t < 18446744073709551616) (w : World) :
    Calls Try.prog 20 #[.int .i64 l, .int .u64 t] w fun e w' => e = .returned (.tuple #[.int .i64 (runL l t).1, .int .u64 (runL l t).2]) ∧ Below w.heap.size w w' := by
  have h := holdN_le l
  obtain ⟨k, hk⟩ : ∃ k, holdN l = k := ⟨_, rfl⟩
  obtain ⟨R, hR⟩ : ∃ R, runL l t = R := ⟨_, rfl⟩
  rw [hR]
  unfold runL at hR
  rw [hk] at h hR
  have HK := Lib.hid hk
  have HR := Lib.hid hR
  have HT := Lib.hid ht
  clear hk hR ht
  go_enter Try.func20, Try.ntmps20
  go_wp2_with (go_at_call 9; refine (RHold_any _ _).mono ?_; rintro e w' ⟨rfl, rfl⟩; rw [HK.out])
  go_loopw [0, 1] (fun b a wr => ∃ k t : Nat, k ≤ 7 ∧ a = .int .u64 t ∧ b = .int .i64 k ∧ Hid (t < 18446744073709551616) ∧ Hid (runN (7 - k) k t = R) ∧ Below w.heap.size w wr) (fun b _ _ => 7 - (intOf b).toNat)
  case atStart => exact ⟨k, t, h, rfl, rfl, HT, HR, Below.refl _ _⟩
  case round =>
    obtain ⟨k, t, hk7, rfl, rfl, HT, HR, hb⟩ := hrel
    have hq := qN_pos k hk7
    have hq8 := qN_le k
    have HN := Lib.hid (holdN_nat k hk7)
    obtain ⟨q, hqe⟩ : ∃ q, qN k = q := ⟨_, rfl⟩
    rw [hqe] at hq hq8
    have HQ := Lib.hid hqe
    clear hqe
    by_cases hk : k < 7
    · obtain ⟨f, hf⟩ : ∃ f, 7 - k = f + 1 := ⟨6 - k, by omega⟩
      have hR := HR.out
      rw [hf, runN, HQ.out] at hR
      by_cases hlt : q ≤ t
      · rw [if_pos hlt] at hR
        have HR2 := Lib.hid hR
        have HF := Lib.hid (show 7 - (k + 1) = f by omega)
        clear hR hf
        go_wp2_with (go_at_call 13; refine (RQuantum_any _ _).mono ?_; rintro e w1 ⟨rfl, hb1⟩; rw [HN.out, HQ.out])
        go_roundw
        case rel =>
          rename_i w3 hb3
          have := HT.out
          exact ⟨k + 1, t - q, by omega, by rw [← Int.natCast_sub hlt]; rw [wrap_nat_u64 _ (by omega)], by go_num, Lib.hid (by omega), Lib.hid (by rw [HF.out]; exact HR2.out), (hb.trans (hb3.mono hb.size)).trans (hb1.mono (hb.trans (hb3.mono hb.size)).size)⟩
        case measure => simp [intOf]; omega
      · rw [if_neg hlt] at hR
        have HR2 := Lib.hid hR
        clear hR hf
        go_wp2_with (go_at_call 13; refine (RQuantum_any _ _).mono ?_; rintro e w1 ⟨rfl, hb1⟩; rw [HN.out, HQ.out])
        go_region_with (go_at_call 13; refine (RQuantum_any _ _).mono ?_; rintro e w2 ⟨rfl, hb2⟩; rw [HN.out, HQ.out])
        all_goals go_wp2
        all_goals go_ret2
        all_goals exact ⟨by rw [← HR2.out]; rfl, (hb.trans (hb1.mono hb.size)).drew.trans (hb2.mono (hb.trans (hb1.mono hb.size)).size)⟩
    · obtain rfl : k = 7 := by omega
      have HN7 := Lib.hid (show holdN 7 = 7 by decide)
      have HR2 := HR
      simp only [Nat.sub_self, runN] at HR2
      rw [HQ.out] at HR2
      go_wp2
      go_region_with (go_at_call 13; refine (RQuantum_any _ _).mono ?_; rintro e w2 ⟨rfl, hb2⟩; rw [HN7.out, HQ.out])
      all_goals go_wp2
      all_goals go_ret2
      all_goals exact ⟨by rw [← HR2.out]; rfl, hb.drew.trans (hb2.mono hb.size)⟩
end Go.Proofs.Ytjfgjblpaojjkaa
