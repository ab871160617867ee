/- The contracts of the reference's Read, of both Ints and of the statements' own cut. -/
import Derived.Test.YtbjmdcjoaapmiaaDoorN3
namespace Go.Proofs.YtbjmdcjoaapmiaaDoor
open Go.RowKit


theorem wrap_step (n v : Nat) (h : n * 10 + v < 18446744073709551616) : IntKind.u64.wrap (IntKind.u64.wrap ((n : Int) * 10) + (v : Int)) = ((n * 10 + v : Nat) : Int) := by
  rw [IntKind.wrap_u64, IntKind.wrap_u64]
  omega

set_option maxHeartbeats 800000 in
theorem RRead_any (s : ByteArray) (hs : s.size ≤ 1000) (w : World) :
    Calls Tryd.prog 45 #[.string s] w fun e w' => e = .returned (.tuple #[.int .u64 ((readL s.data.toList).1 : Nat), .int .i64 ((readL s.data.toList).2 : Nat)]) ∧ w = w' := by
  have hdc := Decimal_any s hs
  have hsz : s.data.toList.length = s.size := rfl
  by_cases hd : isDec s.data.toList = true
  · rw [hd] at hdc
    have hall := ((isDec_iff _).1 hd).2.2
    have hgr := great_iff _ hd
    rw [hsz] at hgr
    by_cases hg : num 10 s.data.toList < 18446744073709551616
    · have hr : readL s.data.toList = (num 10 s.data.toList, 0) := by unfold readL; rw [if_pos hd, if_pos hg]
      rw [hr]
      have hng : ¬ (20 < s.size ∨ (s.size = 20 ∧ (Op.bytesLess s.data.toList mostL || s.data.toList == mostL) = false)) := fun h => (hgr.1 h) hg
      clear hr hgr hd
      have h1 : ¬ 20 < s.size := fun h => hng (.inl h)
      have h2 : s.size = 20 → (Op.bytesLess s.toList mostL || s.toList == mostL) = true := by
        intro h
        rw [Lib.toList_data]
        cases hb : (Op.bytesLess s.data.toList mostL || s.data.toList == mostL) with
        | true => rfl
        | false => exact absurd (.inr ⟨h, hb⟩) hng
      have Hg := Lib.hid hg
      clear hng hg
      generalize hm : num 10 s.data.toList = m at Hg ⊢
      have Hm := Lib.hid hm
      clear hm hsz
      by_cases h3 : s.size = 20
      · have h4 := h2 h3
        clear h2
        cases hb1 : Op.bytesLess s.toList [49, 56, 52, 52, 54, 55, 52, 52, 48, 55, 51, 55, 48, 57, 53, 53, 49, 54, 49, 53] with
        | true =>
          clear h4
          go_enter Tryd.func45, Tryd.ntmps45
          go_wp2_with (go_at_call 68; refine (hdc _).mono ?_; rintro e w1 ⟨rfl, rfl⟩; clear hdc)
          go_loopw [5, 6] (fun x i w' => ∃ k n : Nat, w' = w ∧ x = .int .u64 n ∧ i = .int .i64 k ∧ k ≤ s.size ∧ Hid (n = num 10 (s.data.toList.take k)) ∧ Hid (n < 18446744073709551616)) (fun _ i _ => s.size - (intOf i).toNat)
          case atStart => exact ⟨0, 0, rfl, rfl, rfl, by omega, Lib.hid rfl, Lib.hid (by decide)⟩
          case round =>
            obtain ⟨k, n, rfl, rfl, rfl, hk, Hn, Hlt⟩ := hrel
            by_cases hlt : k < s.size
            · have hd := all_at 10 s k hlt hall
              have hval := value_any (s[k]'hlt)
              have hnum := num_snoc 10 (s.data.toList.take k) (s[k]'hlt)
              rw [← take_next s k hlt, ← Hn.out] at hnum
              have hgrow := num_grows 10 (by omega) (s.data.toList.take (k + 1)) (s.data.toList.drop (k + 1))
              rw [List.take_append_drop, hnum, Hm.out] at hgrow
              generalize valB (s[k]'hlt) = v at hval hd hnum hgrow
              have hsm : n * 10 + v < 18446744073709551616 := Nat.lt_of_le_of_lt hgrow Hg.out
              have Hsm := Lib.hid hsm
              have Hnum := Lib.hid hnum
              clear hnum hgrow hsm
              go_wp2_with (go_at_call 69; refine (hval _).mono ?_; rintro e w' ⟨rfl, rfl⟩)
              go_roundw
              case rel =>
                have hsm := Hsm.out
                exact ⟨k + 1, n * 10 + v, trivial, by rw [wrap_step n v hsm], by go_num, by omega, Lib.hid Hnum.out.symm, Hsm⟩
              case measure => simp [intOf]; go_num
            · obtain rfl : k = s.size := by omega
              have hfull : s.data.toList.take s.size = s.data.toList := List.take_of_length_le (Nat.le_refl _)
              have hn := Hn.out
              rw [hfull, Hm.out] at hn
              subst hn
              go_wp2
              go_ret2
              exact ⟨rfl, rfl⟩
        | false =>
          have hb2 : (s.toList == [49, 56, 52, 52, 54, 55, 52, 52, 48, 55, 51, 55, 48, 57, 53, 53, 49, 54, 49, 53]) = true := by
            rw [show Op.bytesLess s.toList mostL = false from hb1, Bool.false_or] at h4
            exact h4
          clear h4
          go_enter Tryd.func45, Tryd.ntmps45
          go_wp2_with (go_at_call 68; refine (hdc _).mono ?_; rintro e w1 ⟨rfl, rfl⟩; clear hdc)
          go_loopw [5, 6] (fun x i w' => ∃ k n : Nat, w' = w ∧ x = .int .u64 n ∧ i = .int .i64 k ∧ k ≤ s.size ∧ Hid (n = num 10 (s.data.toList.take k)) ∧ Hid (n < 18446744073709551616)) (fun _ i _ => s.size - (intOf i).toNat)
          case atStart => exact ⟨0, 0, rfl, rfl, rfl, by omega, Lib.hid rfl, Lib.hid (by decide)⟩
          case round =>
            obtain ⟨k, n, rfl, rfl, rfl, hk, Hn, Hlt⟩ := hrel
            by_cases hlt : k < s.size
            · have hd := all_at 10 s k hlt hall
              have hval := value_any (s[k]'hlt)
              have hnum := num_snoc 10 (s.data.toList.take k) (s[k]'hlt)
              rw [← take_next s k hlt, ← Hn.out] at hnum
              have hgrow := num_grows 10 (by omega) (s.data.toList.take (k + 1)) (s.data.toList.drop (k + 1))
              rw [List.take_append_drop, hnum, Hm.out] at hgrow
              generalize valB (s[k]'hlt) = v at hval hd hnum hgrow
              have hsm : n * 10 + v < 18446744073709551616 := Nat.lt_of_le_of_lt hgrow Hg.out
              have Hsm := Lib.hid hsm
              have Hnum := Lib.hid hnum
              clear hnum hgrow hsm
              go_wp2_with (go_at_call 69; refine (hval _).mono ?_; rintro e w' ⟨rfl, rfl⟩)
              go_roundw
              case rel =>
                have hsm := Hsm.out
                exact ⟨k + 1, n * 10 + v, trivial, by rw [wrap_step n v hsm], by go_num, by omega, Lib.hid Hnum.out.symm, Hsm⟩
              case measure => simp [intOf]; go_num
            · obtain rfl : k = s.size := by omega
              have hfull : s.data.toList.take s.size = s.data.toList := List.take_of_length_le (Nat.le_refl _)
              have hn := Hn.out
              rw [hfull, Hm.out] at hn
              subst hn
              go_wp2
              go_ret2
              exact ⟨rfl, rfl⟩
      · clear h2
        go_enter Tryd.func45, Tryd.ntmps45
        go_wp2_with (go_at_call 68; refine (hdc _).mono ?_; rintro e w1 ⟨rfl, rfl⟩; clear hdc)
        go_loopw [5, 6] (fun x i w' => ∃ k n : Nat, w' = w ∧ x = .int .u64 n ∧ i = .int .i64 k ∧ k ≤ s.size ∧ Hid (n = num 10 (s.data.toList.take k)) ∧ Hid (n < 18446744073709551616)) (fun _ i _ => s.size - (intOf i).toNat)
        case atStart => exact ⟨0, 0, rfl, rfl, rfl, by omega, Lib.hid rfl, Lib.hid (by decide)⟩
        case round =>
          obtain ⟨k, n, rfl, rfl, rfl, hk, Hn, Hlt⟩ := hrel
          by_cases hlt : k < s.size
          · have hd := all_at 10 s k hlt hall
            have hval := value_any (s[k]'hlt)
            have hnum := num_snoc 10 (s.data.toList.take k) (s[k]'hlt)
            rw [← take_next s k hlt, ← Hn.out] at hnum
            have hgrow := num_grows 10 (by omega) (s.data.toList.take (k + 1)) (s.data.toList.drop (k + 1))
            rw [List.take_append_drop, hnum, Hm.out] at hgrow
            generalize valB (s[k]'hlt) = v at hval hd hnum hgrow
            have hsm : n * 10 + v < 18446744073709551616 := Nat.lt_of_le_of_lt hgrow Hg.out
            have Hsm := Lib.hid hsm
            have Hnum := Lib.hid hnum
            clear hnum hgrow hsm
            go_wp2_with (go_at_call 69; refine (hval _).mono ?_; rintro e w' ⟨rfl, rfl⟩)
            go_roundw
            case rel =>
              have hsm := Hsm.out
              exact ⟨k + 1, n * 10 + v, trivial, by rw [wrap_step n v hsm], by go_num, by omega, Lib.hid Hnum.out.symm, Hsm⟩
            case measure => simp [intOf]; go_num
          · obtain rfl : k = s.size := by omega
            have hfull : s.data.toList.take s.size = s.data.toList := List.take_of_length_le (Nat.le_refl _)
            have hn := Hn.out
            rw [hfull, Hm.out] at hn
            subst hn
            go_wp2
            go_ret2
            exact ⟨rfl, rfl⟩
    · have hr : readL s.data.toList = (0, 5) := by unfold readL; rw [if_pos hd, if_neg hg]
      rw [hr]
      rcases hgr.2 hg with h1 | ⟨h1, h2⟩
      · clear hgr hr hg hd hsz hall
        go_enter Tryd.func45, Tryd.ntmps45
        go_wp2_with (go_at_call 68; refine (hdc _).mono ?_; rintro e w1 ⟨rfl, rfl⟩; clear hdc)
        go_ret2
        exact ⟨rfl, rfl⟩
      · rw [← Lib.toList_data, Bool.or_eq_false_iff] at h2
        have hb1 : Op.bytesLess s.toList [49, 56, 52, 52, 54, 55, 52, 52, 48, 55, 51, 55, 48, 57, 53, 53, 49, 54, 49, 53] = false := h2.1
        have hb2 : (s.toList == [49, 56, 52, 52, 54, 55, 52, 52, 48, 55, 51, 55, 48, 57, 53, 53, 49, 54, 49, 53]) = false := h2.2
        clear hgr hr hg hd hsz h2 hall
        go_enter Tryd.func45, Tryd.ntmps45
        go_wp2_with (go_at_call 68; refine (hdc _).mono ?_; rintro e w1 ⟨rfl, rfl⟩; clear hdc)
        go_ret2
        exact ⟨rfl, rfl⟩
  · have hd' : isDec s.data.toList = false := by simpa using hd
    rw [hd'] at hdc
    have hr : readL s.data.toList = (0, 3) := by unfold readL; rw [if_neg hd]
    rw [hr]
    clear hr hsz
    go_enter Tryd.func45, Tryd.ntmps45
    go_wp2_with (go_at_call 68; refine (hdc _).mono ?_; rintro e w1 ⟨rfl, rfl⟩)
    go_ret2
    exact ⟨rfl, rfl⟩

theorem wrap_nat (m : Nat) (h : m < 9223372036854775808) : IntKind.u64.wrap (m : Int) = (m : Int) := by
  rw [IntKind.wrap_u64]; omega

theorem wrap64_small {x : Int} (h0 : 0 ≤ x) (h : x < 9223372036854775808) : IntKind.i64.wrap x = x := by
  rw [IntKind.wrap_i64]; omega

end Go.Proofs.YtbjmdcjoaapmiaaDoor
