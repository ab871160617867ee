/- The walk of SetsRound: it returns true, and nothing that lay has turned. -/
import Derived.Test.YtjdklmglljhjhaaDoorL1
namespace Go.Proofs.YtjdklmglljhjhaaDoor
open Go.RowKit

theorem nextN_zero (i : Int) : nextN 0 i = -1 := by
  unfold nextN leastN
  rw [memL_zero]; rfl
theorem mem_pos (n : Nat) (h0 : n ≠ 0) (h : n < 18446744073709551616) : 0 < (memL n 64).length := by
  obtain ⟨c, _, _, hp⟩ := memL_pop n h0 h
  rw [hp]; simp

/-- What is kept between two rounds. -/
def roundI (n p L : Nat) (w : World) (m t k : Value) (wr : World) : Prop :=
  ∃ j M : Nat, j ≤ L ∧ k = .int .i64 ((L - j : Nat) : Int) ∧ t = .int .i64 (atN n p j) ∧ m = .int .u64 M ∧ M < 18446744073709551616 ∧ metOk n p j M ∧ Below w.heap.size w wr

set_option maxHeartbeats 1000000 in
theorem Round_walk (n : Nat) (hn : n < 18446744073709551616) (i : Int) (w : World) (hT : TabAt 0 Lib.deBruijn64tab w) :
    Calls Tryd.prog 6 #[.int .u64 n, .int .i64 i] w fun e w' => e = .returned (.bool true) ∧ Below w.heap.size w w' := by
  have h0 := tab_pos hT
  have HT := Lib.hid hT
  clear hT
  by_cases hz : n = 0
  · subst hz
    go_enter Tryd.func6, Tryd.ntmps6
    go_wp2_with fail
    refine (Next_any 0 hn i _ HT.out).mono ?_
    rintro e w1 ⟨rfl, rfl⟩
    rw [nextN_zero]
    go_wp2_with fail
    refine (Least_any 0 hn _ HT.out).mono ?_
    rintro e w1 ⟨rfl, rfl⟩
    rw [leastN_zero]
    go_wp2_with fail
    refine (awake_any _ HT.out).mono ?_
    rintro e w1 ⟨rfl, hb1⟩
    go_wp2
    go_ret
    exact ⟨rfl, hb1⟩
  · have hL := mem_pos n hz hn
    obtain ⟨p, hp, hf⟩ := first_get n i hL
    have hl64 := memL_len n 64
    have hf0 : nextN n i = atN n p 0 := by unfold atN; rw [idx_zero _ p hp]; exact hf
    have hfL : atN n p (memL n 64).length = atN n p 0 := by unfold atN; rw [idx_zero _ p hp, idx_full]
    have Hin := Lib.hid (fun j => at_in n p j hp)
    have Hhas := Lib.hid (fun j => at_has n p j hp)
    have Hnew := Lib.hid (fun j M => at_new n p j M hp)
    have Hstep := Lib.hid (fun j M => met_step n p j M hp)
    have Hend := Lib.hid (fun M => met_end n p M hp hn)
    have Hnext := Lib.hid (fun j => at_next n p j hp)
    have Hf0 := Lib.hid hf0
    have HfL := Lib.hid hfL
    have hC := fun W => Count_any n hn W
    have hb0 : ((n : Int) == 0) = false := by simp; omega
    clear hf hf0 hfL hp
    generalize (memL n 64).length = L at *
    have HC := Lib.hid hC
    clear hC
    go_enter Tryd.func6, Tryd.ntmps6
    go_wp2_with fail
    refine (Next_any n hn i _ HT.out).mono ?_
    rintro e w1 ⟨rfl, rfl⟩
    rw [Hf0.out]
    go_wp2_with fail
    refine (HC.out _).mono ?_
    rintro e w1 ⟨rfl, rfl⟩
    go_wp2_with fail
    go_loopw [6, 7, 8] (fun m t k wr => roundI n p L w m t k wr) (fun _ _ k _ => (intOf k).toNat)
    case atStart => exact ⟨0, 0, by omega, by rw [Nat.sub_zero], rfl, rfl, by omega, metOk_zero n p, Below.refl _ _⟩
    case round =>
      obtain ⟨j, M, hj, rfl, rfl, rfl, hM, hmet, hb⟩ := hrel
      have HT1 := Lib.hid (tab_below HT.out hb h0)
      by_cases hlt : j < L
      · obtain ⟨c, hc1, hc2, hc3⟩ := Hin.out j (by omega)
        have hh := Hhas.out j (by omega)
        have hw := Hnew.out j M (by omega) hmet
        have hs := Hstep.out j M hlt hM hmet
        have hx := Hnext.out j hlt
        rw [hc1] at hh hw hs hx ⊢
        have Hs := Lib.hid hs
        have Hx := Lib.hid hx
        have Hh := Lib.hid hh
        have Hw := Lib.hid hw
        have hlj : 0 < L - j := by omega
        have hmet1 := putN_lt M c true
        clear hs hx hc1 hmet hh hw
        go_wp2_with fail
        refine (RHas_any n hn c _).mono ?_
        rintro e w2 ⟨rfl, hb2⟩
        rw [Hh.out]
        have hb12 := hb.trans (hb2.mono hb.size)
        go_wp2_with fail
        refine (RHas_any M hM c _).mono ?_
        rintro e w3 ⟨rfl, hb3⟩
        rw [Hw.out]
        have hb13 := hb12.trans (hb3.mono hb12.size)
        go_wp2_with fail
        refine (Put_any M hM c true _).mono ?_
        rintro e w4 ⟨rfl, hb4⟩
        have hb14 := hb13.trans (hb4.mono hb13.size)
        have HT4 := Lib.hid (tab_below HT.out hb14 h0)
        go_wp2_with fail
        refine (Next_any n hn (c + 1) _ HT4.out).mono ?_
        rintro e w5 ⟨rfl, rfl⟩
        rw [Hx.out]
        go_wp2
        refine ⟨⟨j + 1, putN M c true, by omega, ?_, rfl, rfl, hmet1, Hs.out, hb14⟩, ?_⟩
        · exact congrArg (Value.int .i64) (by omega)
        · simp [intOf]; omega
      · obtain rfl : j = L := by omega
        have he := Hend.out M hmet
        subst he
        rw [HfL.out, Nat.sub_self]
        go_wp2_with fail
        refine (awake_any _ HT1.out).mono ?_
        rintro e w3 ⟨rfl, hb3⟩
        go_wp2
        go_ret
        exact ⟨rfl, hb.trans (hb3.mono hb.size)⟩
end Go.Proofs.YtjdklmglljhjhaaDoor
