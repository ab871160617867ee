/- The walk of SetsEach: it returns true, and nothing that lay has turned. -/
import Derived.Test.YtjdklmglljhjhaaDoorL1
namespace Go.Proofs.YtjdklmglljhjhaaDoor
open Go.RowKit

theorem ofN_mem (n : Nat) (hn : n < 18446744073709551616) : ofN (memL n 64) = n := by
  have key : ∀ k, k ≤ 64 → ofN (memL n k) = bitsOf 64 (fun j => decide (j < k) && n.testBit j) := by
    intro k
    induction k with
    | zero => intro _; simp [memL, ofN]; decide
    | succ k ih =>
      intro hk
      rw [memL_succ]
      apply Nat.eq_of_testBit_eq
      intro m
      cases hb : n.testBit k with
      | true =>
        rw [if_pos rfl, ofN_snoc, ih (by omega), putN, testBit_bitsOf, testBit_bitsOf, testBit_bitsOf]
        by_cases hm : m < 64
        · by_cases e : m = k
          · subst e; simp [hm, hb]
          · have e2 : ¬ (m : Int) = (k : Int) := by omega
            have e3 : decide (m < k) = decide (m < k + 1) := by simp; omega
            simp [hm, e2, e3]
        · simp [hm]
      | false =>
        rw [if_neg (by simp), ih (by omega), testBit_bitsOf, testBit_bitsOf]
        by_cases e : m = k
        · subst e; simp [hb]
        · have e3 : decide (m < k) = decide (m < k + 1) := by simp; omega
          simp [e3]
  rw [key 64 (Nat.le_refl _)]
  rw [bitsOf_congr 64 _ n.testBit (fun j hj => by simp [hj]), bitsOf_self n (by omega)]

theorem Reads.cut {w : World} {p : Option Addr} {c : Nat} {xs : List Int} (h : Reads w (.slice p xs.length c) xs) (k : Nat) (hk : k ≤ xs.length) : Reads w (.slice p k c) (xs.take k) := by
  obtain ⟨p', c', he, h⟩ := h
  have hp : p = p' := by injection he
  subst hp
  refine ⟨p, c, by rw [List.length_take, Nat.min_eq_left hk], ?_⟩
  rcases h with rfl | ⟨b, off, rfl, hlt, hc⟩
  · exact .inl (by simp)
  · refine .inr ⟨b, off, rfl, hlt, fun j hj => ?_⟩
    rw [List.length_take, Nat.min_eq_left hk] at hj
    rw [hc j (by omega), List.getD_eq_getElem?_getD, List.getD_eq_getElem?_getD, List.getElem?_take_of_lt hj]

set_option maxHeartbeats 2000000 in
theorem Each_walk (n : Nat) (hn : n < 18446744073709551616) (stop : Nat) (hs : stop ≤ 255) (w : World) (hT : TabAt 0 Lib.deBruijn64tab w) :
    Calls Tryd.prog 5 #[.int .u64 n, .int .u8 stop] w fun e w' => e = .returned (.bool true) ∧ Below w.heap.size w w' := by
  have h0 := tab_pos hT
  have HT := Lib.hid hT
  clear hT
  have hlen := memL_len n 64
  have ht64 : (memL n 64).take 64 = memL n 64 := List.take_of_length_le hlen
  have hof := ofN_mem n hn
  have hTo := told_any n hn 64 (by omega) w HT.out
  have hTo2 := fun W h => told_any n hn stop (by omega) W h
  have hLi := fun W => List_any n hn W
  rw [ht64] at hTo
  generalize memL n 64 = xs at hlen hof hTo hTo2 hLi
  have Hof := Lib.hid hof
  have HTo2 := Lib.hid hTo2
  have HLi := Lib.hid hLi
  clear hof ht64 hTo2 hLi
  have hml : xs.length ≤ maxLen := by unfold maxLen; omega
  go_enter Tryd.func5, Tryd.ntmps5
  go_wp2_with fail
  refine hTo.mono ?_
  clear hTo
  rintro e w1 ⟨v1, rfl, hown1, hb1⟩
  have HR1 := Lib.hid (Reads.of_own hown1)
  have HT1 := Lib.hid (tab_below HT.out hb1 h0)
  clear hown1
  go_wp2_with fail
  refine (HTo2.out _ HT1.out).mono ?_
  clear HTo2
  rintro e w2 ⟨v2, rfl, hown2, hb2⟩
  have HR12 := Lib.hid (HR1.out.below hb2 (Nat.le_refl _))
  have HR2 := Lib.hid (Reads.of_own hown2)
  have hb12 := hb1.trans (hb2.mono hb1.size)
  clear hown2
  go_wp2_with fail
  refine (HLi.out _).mono ?_
  clear HLi
  rintro e w3 ⟨v3, rfl, hown3, hb3⟩
  have HR13 := Lib.hid (HR12.out.below hb3 (Nat.le_refl _))
  have HR23 := Lib.hid (HR2.out.below hb3 (Nat.le_refl _))
  have HR3 := Lib.hid (Reads.of_own hown3)
  have hb13 := hb12.trans (hb3.mono hb12.size)
  have HT3 := Lib.hid (tab_below HT.out hb13 h0)
  go_wp2_with fail
  refine (Same_any v1 v3 xs hml _ HR13.out HR3.out).mono ?_
  rintro e w4 ⟨rfl, hb4⟩
  have HR14 := Lib.hid (HR13.out.below hb4 (Nat.le_refl _))
  have HR24 := Lib.hid (HR23.out.below hb4 (Nat.le_refl _))
  have HR34 := Lib.hid (HR3.out.below hb4 (Nat.le_refl _))
  have hb14 := hb13.trans (hb4.mono hb13.size)
  rcases hown3.2 with ⟨rfl, hz⟩ | ⟨g, cap, cur, rfl, _, _, hnc, hcm, _, _⟩
  · obtain rfl : xs = [] := List.length_eq_zero_iff.1 hz
    clear hown3 hz
    rw [List.take_nil] at HR24
    by_cases hle : stop = 0
    · subst hle
      go_wp2_with fail
      refine (Same_any v2 _ [] (by decide) _ HR24.out HR34.out).mono ?_
      rintro e w5 ⟨rfl, hb5⟩
      have HR15 := Lib.hid (HR14.out.below hb5 (Nat.le_refl _))
      have hb15 := hb14.trans (hb5.mono hb14.size)
      have HT5 := Lib.hid (tab_below HT.out hb15 h0)
      go_wp2_with fail
      refine (Of_any v1 _ hml _ HR15.out).mono ?_
      rintro e w6 ⟨rfl, rfl⟩
      rw [Hof.out]
      go_wp2_with fail
      refine (awake_any _ HT5.out).mono ?_
      rintro e w6 ⟨rfl, hb6⟩
      go_wp2
      go_ret
      exact ⟨rfl, hb15.trans (hb6.mono hb15.size)⟩
    · have hpos : 0 < stop := by omega
      go_wp2_with fail
      refine (Same_any v2 _ [] (by decide) _ HR24.out HR34.out).mono ?_
      rintro e w5 ⟨rfl, hb5⟩
      have HR15 := Lib.hid (HR14.out.below hb5 (Nat.le_refl _))
      have hb15 := hb14.trans (hb5.mono hb14.size)
      have HT5 := Lib.hid (tab_below HT.out hb15 h0)
      go_wp2_with fail
      refine (Of_any v1 _ hml _ HR15.out).mono ?_
      rintro e w6 ⟨rfl, rfl⟩
      rw [Hof.out]
      go_wp2_with fail
      refine (awake_any _ HT5.out).mono ?_
      rintro e w6 ⟨rfl, hb6⟩
      go_wp2
      go_ret
      exact ⟨rfl, hb15.trans (hb6.mono hb15.size)⟩
  · clear hown3
    unfold maxLen at hcm
    by_cases hle : xs.length ≤ stop
    · rw [List.take_of_length_le hle] at HR24
      go_wp2_with fail
      rw [show (min (xs.length : Int) (stop : Int)).toNat = xs.length from by omega]
      refine (Same_any v2 _ xs hml _ HR24.out HR34.out).mono ?_
      rintro e w5 ⟨rfl, hb5⟩
      have HR15 := Lib.hid (HR14.out.below hb5 (Nat.le_refl _))
      have hb15 := hb14.trans (hb5.mono hb14.size)
      have HT5 := Lib.hid (tab_below HT.out hb15 h0)
      go_wp2_with fail
      refine (Of_any v1 _ hml _ HR15.out).mono ?_
      rintro e w6 ⟨rfl, rfl⟩
      rw [Hof.out]
      go_wp2_with fail
      refine (awake_any _ HT5.out).mono ?_
      rintro e w6 ⟨rfl, hb6⟩
      go_wp2
      go_ret
      exact ⟨rfl, hb15.trans (hb6.mono hb15.size)⟩
    · have hlt : stop < xs.length := by omega
      have hml2 : (xs.take stop).length ≤ maxLen := by rw [List.length_take]; unfold maxLen; omega
      have HR44 := Lib.hid (HR34.out.cut stop (by omega))
      go_wp2_with fail
      rw [show (min (xs.length : Int) (stop : Int)).toNat = stop from by omega]
      refine (Same_any v2 _ (xs.take stop) hml2 _ HR24.out HR44.out).mono ?_
      rintro e w5 ⟨rfl, hb5⟩
      have HR15 := Lib.hid (HR14.out.below hb5 (Nat.le_refl _))
      have hb15 := hb14.trans (hb5.mono hb14.size)
      have HT5 := Lib.hid (tab_below HT.out hb15 h0)
      go_wp2_with fail
      refine (Of_any v1 _ hml _ HR15.out).mono ?_
      rintro e w6 ⟨rfl, rfl⟩
      rw [Hof.out]
      go_wp2_with fail
      refine (awake_any _ HT5.out).mono ?_
      rintro e w6 ⟨rfl, hb6⟩
      go_wp2
      go_ret
      exact ⟨rfl, hb15.trans (hb6.mono hb15.size)⟩
end Go.Proofs.YtjdklmglljhjhaaDoor
