/- The walks of NumsPrints, NumsReads, NumsHexes and NumsWords: each law answers true. -/
import Derived.Test.YtdgcgedppebjfaaDoorN11
namespace Go.Proofs.YtdgcgedppebjfaaDoor
open Go.RowKit

set_option maxHeartbeats 1600000 in
theorem Prints_walk (u : Nat) (hu : u < 18446744073709551616) (w : World) (hT : Tabs w) :
    Calls Tryd.prog 3 #[.int .u64 u] w fun e w' => e = .returned (.bool true) ∧ Below w.heap.size w w' := by
  have HT := Lib.hid hT
  have hpr := fun w h => Print_any u hu w h
  have hrp := fun w => RPrint_any u hu w
  have hhx := fun w h => Hex_any u hu w h
  have hrh := fun w => RHex_any u hu w
  have hrd := Read_any ⟨(Lib.decDigits u).toArray⟩
  have hrx := ReadHex_any ⟨(hexN 16 u).toArray⟩
  rw [mk_list, read_dec u hu] at hrd
  rw [mk_list, hexR_hex u hu] at hrx
  generalize (ByteArray.mk (Lib.decDigits u).toArray) = p at hpr hrp hrd
  generalize (ByteArray.mk (hexN 16 u).toArray) = x at hhx hrh hrx
  clear hT hu
  go_enter Tryd.func3, Tryd.ntmps3
  go_wp2_with fail
  refine (hpr _ HT.out).mono ?_
  rintro e w1 ⟨rfl, hb1⟩
  go_wp2_with fail
  refine (hrd _).mono ?_
  rintro e w2 ⟨rfl, hb2⟩
  have hb12 := hb1.trans (hb2.mono hb1.size)
  have HT2 := Lib.hid (HT.out.below hb12 (Nat.le_refl _))
  go_wp2_with fail
  refine (hhx _ HT2.out).mono ?_
  rintro e w3 ⟨rfl, hb3⟩
  have hb13 := hb12.trans (hb3.mono hb12.size)
  go_wp2_with fail
  refine (hrx _).mono ?_
  rintro e w4 ⟨rfl, hb4⟩
  have hb14 := hb13.trans (hb4.mono hb13.size)
  have HT4 := Lib.hid (HT.out.below hb14 (Nat.le_refl _))
  go_wp2_with fail
  refine (hpr _ HT4.out).mono ?_
  rintro e w5 ⟨rfl, hb5⟩
  have hb15 := hb14.trans (hb5.mono hb14.size)
  have HT5 := Lib.hid (HT.out.below hb15 (Nat.le_refl _))
  go_wp2_with fail
  refine (hrp _).mono ?_
  rintro e w6 ⟨rfl, rfl⟩
  go_wp2_with fail
  refine (hhx _ HT5.out).mono ?_
  rintro e w6 ⟨rfl, hb6⟩
  have hb16 := hb15.trans (hb6.mono hb15.size)
  have HT6 := Lib.hid (HT.out.below hb16 (Nat.le_refl _))
  go_wp2_with fail
  refine (hrh _).mono ?_
  rintro e w7 ⟨rfl, rfl⟩
  go_wp2_with fail
  refine (awake_any _ HT6.out).mono ?_
  rintro e w7 ⟨rfl, hb7⟩
  go_wp2
  go_ret
  exact ⟨rfl, hb16.trans (hb7.mono hb16.size)⟩

set_option maxHeartbeats 1600000 in
theorem Reads_three (s c : ByteArray) (most : Int) (hm : -9223372036854775808 ≤ most ∧ most ≤ 9223372036854775807) (HC : Hid (cutL s = c)) (hc : c.size ≤ 1000) (hr : readL c.data.toList = (0, 3)) (hi : intR c.data.toList most = (0, 3)) (w : World) (hT : Tabs w) :
    Calls Tryd.prog 4 #[.string s, .int .i64 most] w fun e w' => e = .returned (.bool true) ∧ Below w.heap.size w w' := by
  have HT := Lib.hid hT
  have hrd := Read_any c
  have hrr := RRead_any c hc
  have hin := Int_any c most hm
  have hri := RInt_any c hc most hm
  rw [hr] at hrd hrr
  rw [hi] at hin hri
  clear hT hc
  clear hr hi
  go_enter Tryd.func4, Tryd.ntmps4
  go_wp2_with fail
  refine (cut_any s _).mono ?_
  rintro e w1 ⟨rfl, rfl⟩
  rw [HC.out]
  go_wp2_with fail
  refine (hrd _).mono ?_
  rintro e w1 ⟨rfl, hb1⟩
  go_wp2_with fail
  refine (hrr _).mono ?_
  rintro e w2 ⟨rfl, rfl⟩
  go_wp2_with fail
  refine (hin _).mono ?_
  rintro e w2 ⟨rfl, hb2⟩
  have hb12 := hb1.trans (hb2.mono hb1.size)
  have HT2 := Lib.hid (HT.out.below hb12 (Nat.le_refl _))
  go_wp2_with fail
  refine (hri _).mono ?_
  rintro e w3 ⟨rfl, rfl⟩
  go_wp2_with fail
  refine (awake_any _ HT2.out).mono ?_
  rintro e w3 ⟨rfl, hb3⟩
  have hb13 := hb12.trans (hb3.mono hb12.size)
  go_wp2
  go_ret
  exact ⟨rfl, hb13⟩

set_option maxHeartbeats 1600000 in
theorem Reads_five (s c : ByteArray) (most : Int) (hm : -9223372036854775808 ≤ most ∧ most ≤ 9223372036854775807) (HC : Hid (cutL s = c)) (hc : c.size ≤ 1000) (hr : readL c.data.toList = (0, 5)) (hi : intR c.data.toList most = (0, 5)) (w : World) (hT : Tabs w) :
    Calls Tryd.prog 4 #[.string s, .int .i64 most] w fun e w' => e = .returned (.bool true) ∧ Below w.heap.size w w' := by
  have HT := Lib.hid hT
  have hrd := Read_any c
  have hrr := RRead_any c hc
  have hin := Int_any c most hm
  have hri := RInt_any c hc most hm
  rw [hr] at hrd hrr
  rw [hi] at hin hri
  clear hT hc
  clear hr hi
  go_enter Tryd.func4, Tryd.ntmps4
  go_wp2_with fail
  refine (cut_any s _).mono ?_
  rintro e w1 ⟨rfl, rfl⟩
  rw [HC.out]
  go_wp2_with fail
  refine (hrd _).mono ?_
  rintro e w1 ⟨rfl, hb1⟩
  go_wp2_with fail
  refine (hrr _).mono ?_
  rintro e w2 ⟨rfl, rfl⟩
  go_wp2_with fail
  refine (hin _).mono ?_
  rintro e w2 ⟨rfl, hb2⟩
  have hb12 := hb1.trans (hb2.mono hb1.size)
  have HT2 := Lib.hid (HT.out.below hb12 (Nat.le_refl _))
  go_wp2_with fail
  refine (hri _).mono ?_
  rintro e w3 ⟨rfl, rfl⟩
  go_wp2_with fail
  refine (awake_any _ HT2.out).mono ?_
  rintro e w3 ⟨rfl, hb3⟩
  have hb13 := hb12.trans (hb3.mono hb12.size)
  go_wp2
  go_ret
  exact ⟨rfl, hb13⟩

set_option maxHeartbeats 1600000 in
theorem Reads_neg (s c : ByteArray) (most : Int) (hm : -9223372036854775808 ≤ most ∧ most ≤ 9223372036854775807) (HC : Hid (cutL s = c)) (hc : c.size ≤ 1000) (x : Nat) (hx : x < 18446744073709551616) (hr : readL c.data.toList = (x, 0)) (hp : Lib.decDigits x = c.data.toList) (hneg : most < 0) (hi : intR c.data.toList most = (0, 5)) (w : World) (hT : Tabs w) :
    Calls Tryd.prog 4 #[.string s, .int .i64 most] w fun e w' => e = .returned (.bool true) ∧ Below w.heap.size w w' := by
  have HT := Lib.hid hT
  have hrd := Read_any c
  have hrr := RRead_any c hc
  have hin := Int_any c most hm
  have hri := RInt_any c hc most hm
  rw [hr] at hrd hrr
  rw [hi] at hin hri
  clear hT hc
  have hpr := fun w h => Print_any x hx w h
  have hpc : (ByteArray.mk (Lib.decDigits x).toArray) = c := by rw [hp]
  rw [hpc] at hpr
  clear hr hi hp hpc hx
  go_enter Tryd.func4, Tryd.ntmps4
  go_wp2_with fail
  refine (cut_any s _).mono ?_
  rintro e w1 ⟨rfl, rfl⟩
  rw [HC.out]
  go_wp2_with fail
  refine (hrd _).mono ?_
  rintro e w1 ⟨rfl, hb1⟩
  go_wp2_with fail
  refine (hrr _).mono ?_
  rintro e w2 ⟨rfl, rfl⟩
  go_wp2_with fail
  refine (hin _).mono ?_
  rintro e w2 ⟨rfl, hb2⟩
  have hb12 := hb1.trans (hb2.mono hb1.size)
  have HT2 := Lib.hid (HT.out.below hb12 (Nat.le_refl _))
  go_wp2_with fail
  refine (hri _).mono ?_
  rintro e w3 ⟨rfl, rfl⟩
  go_wp2_with fail
  refine (awake_any _ HT2.out).mono ?_
  rintro e w3 ⟨rfl, hb3⟩
  have hb13 := hb12.trans (hb3.mono hb12.size)
  have HT3 := Lib.hid (HT.out.below hb13 (Nat.le_refl _))
  go_wp2_with fail
  refine (hpr _ HT3.out).mono ?_
  rintro e w4 ⟨rfl, hb4⟩
  go_wp2
  go_ret
  exact ⟨rfl, hb13.trans (hb4.mono hb13.size)⟩

set_option maxHeartbeats 1600000 in
theorem Reads_big (s c : ByteArray) (most : Int) (hm : -9223372036854775808 ≤ most ∧ most ≤ 9223372036854775807) (HC : Hid (cutL s = c)) (hc : c.size ≤ 1000) (x : Nat) (hx : x < 18446744073709551616) (hr : readL c.data.toList = (x, 0)) (hp : Lib.decDigits x = c.data.toList) (m : Nat) (hme : most = (m : Int)) (hbig : (m : Int) < x) (hi : intR c.data.toList most = (0, 5)) (w : World) (hT : Tabs w) :
    Calls Tryd.prog 4 #[.string s, .int .i64 most] w fun e w' => e = .returned (.bool true) ∧ Below w.heap.size w w' := by
  have HT := Lib.hid hT
  have hrd := Read_any c
  have hrr := RRead_any c hc
  have hin := Int_any c most hm
  have hri := RInt_any c hc most hm
  rw [hr] at hrd hrr
  rw [hi] at hin hri
  clear hT hc
  have hpr := fun w h => Print_any x hx w h
  have hpc : (ByteArray.mk (Lib.decDigits x).toArray) = c := by rw [hp]
  rw [hpc] at hpr
  clear hr hi hp hpc hx
  have hwr := wrap_nat m (by omega)
  subst hme
  clear hm
  go_enter Tryd.func4, Tryd.ntmps4
  go_wp2_with fail
  refine (cut_any s _).mono ?_
  rintro e w1 ⟨rfl, rfl⟩
  rw [HC.out]
  go_wp2_with fail
  refine (hrd _).mono ?_
  rintro e w1 ⟨rfl, hb1⟩
  go_wp2_with fail
  refine (hrr _).mono ?_
  rintro e w2 ⟨rfl, rfl⟩
  go_wp2_with fail
  refine (hin _).mono ?_
  rintro e w2 ⟨rfl, hb2⟩
  have hb12 := hb1.trans (hb2.mono hb1.size)
  have HT2 := Lib.hid (HT.out.below hb12 (Nat.le_refl _))
  go_wp2_with fail
  refine (hri _).mono ?_
  rintro e w3 ⟨rfl, rfl⟩
  go_wp2_with fail
  refine (awake_any _ HT2.out).mono ?_
  rintro e w3 ⟨rfl, hb3⟩
  have hb13 := hb12.trans (hb3.mono hb12.size)
  have HT3 := Lib.hid (HT.out.below hb13 (Nat.le_refl _))
  go_wp2_with fail
  refine (hpr _ HT3.out).mono ?_
  rintro e w4 ⟨rfl, hb4⟩
  go_wp2
  go_ret
  exact ⟨ret_bool (by have h : ¬ x ≤ m := by omega
                      simp [h]), hb13.trans (hb4.mono hb13.size)⟩

set_option maxHeartbeats 1600000 in
theorem Reads_fit (s c : ByteArray) (most : Int) (hm : -9223372036854775808 ≤ most ∧ most ≤ 9223372036854775807) (HC : Hid (cutL s = c)) (hc : c.size ≤ 1000) (x : Nat) (hx : x < 18446744073709551616) (hr : readL c.data.toList = (x, 0)) (hp : Lib.decDigits x = c.data.toList) (m : Nat) (hme : most = (m : Int)) (hfit : (x : Int) ≤ m) (hi : intR c.data.toList most = (x, 0)) (w : World) (hT : Tabs w) :
    Calls Tryd.prog 4 #[.string s, .int .i64 most] w fun e w' => e = .returned (.bool true) ∧ Below w.heap.size w w' := by
  have HT := Lib.hid hT
  have hrd := Read_any c
  have hrr := RRead_any c hc
  have hin := Int_any c most hm
  have hri := RInt_any c hc most hm
  rw [hr] at hrd hrr
  rw [hi] at hin hri
  clear hT hc
  have hpr := fun w h => Print_any x hx w h
  have hpc : (ByteArray.mk (Lib.decDigits x).toArray) = c := by rw [hp]
  rw [hpc] at hpr
  clear hr hi hp hpc hx
  have hwr := wrap_nat m (by omega)
  subst hme
  clear hm
  go_enter Tryd.func4, Tryd.ntmps4
  go_wp2_with fail
  refine (cut_any s _).mono ?_
  rintro e w1 ⟨rfl, rfl⟩
  rw [HC.out]
  go_wp2_with fail
  refine (hrd _).mono ?_
  rintro e w1 ⟨rfl, hb1⟩
  go_wp2_with fail
  refine (hrr _).mono ?_
  rintro e w2 ⟨rfl, rfl⟩
  go_wp2_with fail
  refine (hin _).mono ?_
  rintro e w2 ⟨rfl, hb2⟩
  have hb12 := hb1.trans (hb2.mono hb1.size)
  have HT2 := Lib.hid (HT.out.below hb12 (Nat.le_refl _))
  go_wp2_with fail
  refine (hri _).mono ?_
  rintro e w3 ⟨rfl, rfl⟩
  go_wp2_with fail
  refine (awake_any _ HT2.out).mono ?_
  rintro e w3 ⟨rfl, hb3⟩
  have hb13 := hb12.trans (hb3.mono hb12.size)
  have HT3 := Lib.hid (HT.out.below hb13 (Nat.le_refl _))
  go_wp2_with fail
  refine (hpr _ HT3.out).mono ?_
  rintro e w4 ⟨rfl, hb4⟩
  go_wp2
  go_ret
  exact ⟨rfl, hb13.trans (hb4.mono hb13.size)⟩


theorem Reads_walk (s : ByteArray) (most : Int) (hm : -9223372036854775808 ≤ most ∧ most ≤ 9223372036854775807) (w : World) (hT : Tabs w) :
    Calls Tryd.prog 4 #[.string s, .int .i64 most] w fun e w' => e = .returned (.bool true) ∧ Below w.heap.size w w' := by
  obtain ⟨c, hc⟩ : ∃ c, cutL s = c := ⟨_, rfl⟩
  have hs : c.size ≤ 1000 := by have := cutL_size s; rw [hc] at this; omega
  have HC := Lib.hid hc
  have hz := read_err c.data.toList
  have hp := read_back c.data.toList
  have hint : intR c.data.toList most = if (readL c.data.toList).2 = 0 then (if most < 0 ∨ most < (readL c.data.toList).1 then (0, 5) else readL c.data.toList) else (0, (readL c.data.toList).2) := rfl
  obtain ⟨x, hx⟩ : ∃ x, (readL c.data.toList).1 = x := ⟨_, rfl⟩
  rcases read_two c.data.toList with h | h | h
  · have hr : readL c.data.toList = (x, 0) := by rw [← hx, ← h]
    rw [hr] at hp hint
    obtain ⟨hp1, hp2⟩ := hp rfl
    rw [if_pos rfl] at hint
    by_cases hneg : most < 0
    · rw [if_pos (.inl hneg)] at hint
      exact Reads_neg s c most hm HC hs x hp2 hr hp1 hneg hint w hT
    · obtain ⟨m, hme⟩ : ∃ m : Nat, most = m := ⟨most.toNat, by omega⟩
      by_cases hb : (m : Int) < x
      · rw [if_pos (.inr (by rw [hme]; exact hb))] at hint
        exact Reads_big s c most hm HC hs x hp2 hr hp1 m hme hb hint w hT
      · rw [if_neg (fun h => by rcases h with h | h; exact hneg h; rw [hme] at h; exact hb h)] at hint
        exact Reads_fit s c most hm HC hs x hp2 hr hp1 m hme (by omega) hint w hT
  · have h0 := hz (by rw [h]; decide)
    have hr : readL c.data.toList = (0, 3) := by rw [← h0, ← h]
    rw [hr, if_neg (by decide)] at hint
    exact Reads_three s c most hm HC hs hr hint w hT
  · have h0 := hz (by rw [h]; decide)
    have hr : readL c.data.toList = (0, 5) := by rw [← h0, ← h]
    rw [hr, if_neg (by decide)] at hint
    exact Reads_five s c most hm HC hs hr hint w hT

set_option maxHeartbeats 1600000 in
theorem Hexes_walk (s : ByteArray) (w : World) (hT : Tabs w) :
    Calls Tryd.prog 5 #[.string s] w fun e w' => e = .returned (.bool true) ∧ Below w.heap.size w w' := by
  obtain ⟨c, hc⟩ : ∃ c, cutL s = c := ⟨_, rfl⟩
  have HC := Lib.hid hc
  have HT := Lib.hid hT
  have hrd := ReadHex_any c
  have hrr := RReadHex_any c
  have hx := hexR_lt c.data.toList
  have hp := hexR_back c.data.toList
  clear hT hc
  have h2 : (hexR c.data.toList).2 = 0 ∨ hexR c.data.toList = (0, 3) := by
    unfold hexR; split
    · exact .inl rfl
    · exact .inr rfl
  generalize hexR c.data.toList = q at hrd hrr hx hp h2
  obtain ⟨x, k⟩ := q
  simp only at hrd hrr hx hp h2
  rcases h2 with rfl | h2
  · have hpr := fun w h => Hex_any x hx w h
    have hpc : (ByteArray.mk (hexN 16 x).toArray) = c := by rw [hp rfl]
    rw [hpc] at hpr
    clear hp hpc hx
    go_enter Tryd.func5, Tryd.ntmps5
    go_wp2_with fail
    refine (cut_any s _).mono ?_
    rintro e w1 ⟨rfl, rfl⟩
    rw [HC.out]
    go_wp2_with fail
    refine (hrd _).mono ?_
    rintro e w1 ⟨rfl, hb1⟩
    have HT1 := Lib.hid (HT.out.below hb1 (Nat.le_refl _))
    go_wp2_with fail
    refine (hrr _).mono ?_
    rintro e w2 ⟨rfl, rfl⟩
    go_wp2_with fail
    refine (hpr _ HT1.out).mono ?_
    rintro e w2 ⟨rfl, hb2⟩
    have hb12 := hb1.trans (hb2.mono hb1.size)
    have HT2 := Lib.hid (HT.out.below hb12 (Nat.le_refl _))
    go_wp2_with fail
    refine (awake_any _ HT2.out).mono ?_
    rintro e w3 ⟨rfl, hb3⟩
    go_wp2
    go_ret
    exact ⟨rfl, hb12.trans (hb3.mono hb12.size)⟩
  · obtain ⟨rfl, rfl⟩ := Prod.mk.inj h2
    clear hp hx h2
    go_enter Tryd.func5, Tryd.ntmps5
    go_wp2_with fail
    refine (cut_any s _).mono ?_
    rintro e w1 ⟨rfl, rfl⟩
    rw [HC.out]
    go_wp2_with fail
    refine (hrd _).mono ?_
    rintro e w1 ⟨rfl, hb1⟩
    have HT1 := Lib.hid (HT.out.below hb1 (Nat.le_refl _))
    go_wp2_with fail
    refine (hrr _).mono ?_
    rintro e w2 ⟨rfl, rfl⟩
    go_wp2_with fail
    refine (awake_any _ HT1.out).mono ?_
    rintro e w3 ⟨rfl, hb3⟩
    go_wp2
    go_ret
    exact ⟨rfl, hb1.trans (hb3.mono hb1.size)⟩

theorem blank_one : ∀ c ∈ [(32 : UInt8)], c = 32 := by decide
theorem blank_two : ∀ c ∈ [(32 : UInt8), 32], c = 32 := by decide

set_option maxHeartbeats 1600000 in
theorem Words_walk (s : ByteArray) (w : World) (hT : Tabs w) :
    Calls Tryd.prog 6 #[.string s] w fun e w' => e = .returned (.bool true) ∧ Below w.heap.size w w' := by
  obtain ⟨c, hc⟩ : ∃ c, cutL s = c := ⟨_, rfl⟩
  have hs : c.size ≤ 200 := by have := cutL_size s; rw [hc] at this; exact this
  have HC := Lib.hid hc
  have HT := Lib.hid hT
  have hwo := Words_any c (by omega)
  have hrw := RWords_any c (by omega)
  have hgood := go_words c.data.toList [] (fun _ h => by simp at h)
  have htot := go_total c.data.toList []
  have hlt := len_total _ hgood
  rw [show c.data.toList.length = c.size from rfl] at htot
  generalize wordsGo [] c.data.toList = D at hwo hrw hgood htot hlt
  have hlen : D.length ≤ 200 := by simp at htot; omega
  have hj1 : (joinL [32] D).length ≤ 1000 := by
    have := joinL_len [32] D
    simp at htot this; omega
  have hj2 : (joinL [32, 32] D).length ≤ 800 := by
    have := joinL_len [32, 32] D
    simp at htot this; omega
  have e1 := words_join [32] [] (by simp) blank_one (fun _ h => by simp at h) D hgood
  have e2 := words_join [32, 32] [32] (by simp) blank_two blank_one D hgood
  rw [List.append_nil] at e1
  have hw1 := Words_any ⟨(joinL [32] D).toArray⟩ (by rw [size_mk]; exact hj1)
  have hw2 := Words_any ⟨(joinL [32, 32] D ++ [32]).toArray⟩ (by rw [size_mk, List.length_append]; simp; omega)
  rw [mk_list, e1] at hw1
  rw [mk_list, e2, ← mk_append] at hw2
  obtain ⟨J, hJ⟩ : ∃ J : ByteArray, sV (joinL [32, 32] D) = .string J ∧ J = ⟨(joinL [32, 32] D).toArray⟩ := ⟨_, rfl, rfl⟩
  have hJs : J.size ≤ 800 := by rw [hJ.2, size_mk]; exact hj2
  rw [← hJ.2] at hw2
  have HJ := Lib.hid hJ.1
  have hj2 : (joinL [32, 32] D).length ≤ 1000 := by omega
  clear hT hc hs hgood htot hlt e1 e2 hJ
  go_enter Tryd.func6, Tryd.ntmps6
  go_wp2_with fail
  refine (cut_any s _).mono ?_
  rintro e w1 ⟨rfl, rfl⟩
  rw [HC.out]
  go_wp2_with fail
  refine (hwo _).mono ?_
  rintro e w1 ⟨l, rfl, hown1, hb1⟩
  have HR1 := Lib.hid (ReadsS.of_own hown1)
  clear hown1
  go_wp2_with fail
  refine (hrw _).mono ?_
  rintro e w2 ⟨l2, rfl, hown2, hb2⟩
  have hb12 := hb1.trans (hb2.mono hb1.size)
  have HR2 := Lib.hid (ReadsS.of_own hown2)
  have HR12 := Lib.hid (HR1.out.below hb2 (Nat.le_refl _))
  clear hown2
  go_wp2_with fail
  refine (Same_any l l2 D (by omega) _ HR12.out HR2.out).mono ?_
  rintro e w3 ⟨rfl, hb3⟩
  have hb13 := hb12.trans (hb3.mono hb12.size)
  have HR13 := Lib.hid (HR12.out.below hb3 (Nat.le_refl _))
  go_wp2_with fail
  refine (Join_any l D (by omega) [32] hj1 _ HR13.out).mono ?_
  rintro e w4 ⟨rfl, rfl⟩
  go_wp2_with fail
  refine (hw1 _).mono ?_
  rintro e w4 ⟨l4, rfl, hown4, hb4⟩
  have hb14 := hb13.trans (hb4.mono hb13.size)
  have HR4 := Lib.hid (ReadsS.of_own hown4)
  have HR14 := Lib.hid (HR13.out.below hb4 (Nat.le_refl _))
  clear hown4
  go_wp2_with fail
  refine (Same_any l4 l D (by omega) _ HR4.out HR14.out).mono ?_
  rintro e w5 ⟨rfl, hb5⟩
  have hb15 := hb14.trans (hb5.mono hb14.size)
  have HR15 := Lib.hid (HR14.out.below hb5 (Nat.le_refl _))
  go_wp2_with fail
  refine (Join_any l D (by omega) [32, 32] hj2 _ HR15.out).mono ?_
  rintro e w6 ⟨rfl, rfl⟩
  rw [HJ.out]
  go_wp2_with fail
  refine (hw2 _).mono ?_
  rintro e w6 ⟨l6, rfl, hown6, hb6⟩
  have hb16 := hb15.trans (hb6.mono hb15.size)
  have HR6 := Lib.hid (ReadsS.of_own hown6)
  have HR16 := Lib.hid (HR15.out.below hb6 (Nat.le_refl _))
  clear hown6
  go_wp2_with fail
  refine (Same_any l6 l D (by omega) _ HR6.out HR16.out).mono ?_
  rintro e w7 ⟨rfl, hb7⟩
  have hb17 := hb16.trans (hb7.mono hb16.size)
  have HT7 := Lib.hid (HT.out.below hb17 (Nat.le_refl _))
  go_wp2_with fail
  refine (awake_any _ HT7.out).mono ?_
  rintro e w8 ⟨rfl, hb8⟩
  go_wp2
  go_ret
  exact ⟨rfl, hb17.trans (hb8.mono hb17.size)⟩
end Go.Proofs.YtdgcgedppebjfaaDoor
