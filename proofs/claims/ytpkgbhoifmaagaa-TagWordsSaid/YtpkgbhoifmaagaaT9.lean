/- The walks of TagNil and TagWords. -/
import Derived.Test.YtpkgbhoifmaagaaT8
namespace Go.Proofs.Ytpkgbhoifmaagaa
open Go.RowKit

set_option maxHeartbeats 800000 in
theorem nil_walk (i : Int) (x : Nat) (hx : x < 18446744073709551616) (w : World) :
    Calls Try.prog 6 #[.int .i64 i, .int .u64 (x : Int)] w fun e w' => e = .returned (.bool true) ∧ Below w.heap.size w w' := by
  have hl := Lib.hid (Live_nil x hx)
  have hn := Lib.hid (Next_nil i)
  have hd := Lib.hid (Drop_nil i)
  have hw := Lib.hid (Now_nil i)
  clear hx
  go_enter Try.func6, Try.ntmps6
  go_wp2_with (first
    | (go_at_call 16; refine (hd.out _).mono ?_; rintro e w1 ⟨rfl, rfl⟩)
    | (go_at_call 15; refine (hn.out _).mono ?_; rintro e w1 ⟨rfl, rfl⟩)
    | (go_at_call 19; refine (hl.out _).mono ?_; rintro e w1 ⟨rfl, hb1⟩)
    | (go_at_call 20; refine (hw.out _).mono ?_; rintro e w2 ⟨rfl, rfl⟩)
    | (go_at_call 10; refine (awake_any _).mono ?_; rintro e w9 ⟨rfl, hb9⟩))
  go_ret
  exact ⟨rfl, below_pre hb1 hb9⟩

theorem wd_good (s m : Nat) (hs : 0 < s) (hm : m < 64) : ofS (wd s m) = s ∧ ofK (wd s m) = m ∧ okW (wd s m) = true := by
  have ho := wd_ok s m hs hm
  unfold ofS ofK
  rw [ho, if_pos rfl, if_pos rfl, wd_div s m hs hm, wd_mod s m hs hm]
  exact ⟨rfl, rfl, rfl⟩
theorem ok_parts (x : Nat) (hx : x < 18446744073709551616) (h : okW x = true) : ofS x ≤ lastN ∧ ofK x < 64 ∧ 0 < ofS x ∧ wd (ofS x) (ofK x) = x := by
  have hb := ok_back x h
  have h' := h
  unfold okW at h'
  simp at h'
  unfold ofS ofK lastN
  rw [if_pos h, if_pos h]
  exact ⟨by omega, h'.2, by omega, hb⟩
theorem not_ok (x : Nat) (h : okW x = false) : ofS x = 0 ∧ ofK x = 0 := by unfold ofS ofK; rw [h]; exact ⟨rfl, rfl⟩
set_option maxHeartbeats 1600000 in
theorem words_good_ok (s m : Nat) (hs : s ≤ lastN) (h0 : 0 < s) (hm : m < 64) (x : Nat) (hx : x < 18446744073709551616) (ho : okW x = true) (w : World) :
    Calls Try.prog 3 #[.int .u64 (s : Int), .int .i64 (m : Int), .int .u64 (x : Int)] w fun e w' => e = .returned (.bool true) ∧ Below w.heap.size w w' := by
  have g := Lib.hid (Below.refl w.heap.size w)
  have hW := Lib.hid (Word_good s m hs hm h0)
  have hG := Lib.hid (Good_any s (m : Int))
  have hgt := Lib.hid (show goodT s (m : Int) = true by unfold goodT; simp; omega)
  have hRW := Lib.hid (RWord_any s m hs hm h0)
  have hOf := Of_any (wd s m) (wd_lt s m hs hm)
  obtain ⟨e1, e2, e3⟩ := wd_good s m h0 hm
  rw [e1, e2, e3] at hOf
  have hOf := Lib.hid hOf
  generalize wd s m = y at *
  have hOx := Of_any x hx
  obtain ⟨p1, p2, p3, p4⟩ := ok_parts x hx ho
  rw [ho] at hOx
  have hOx := Lib.hid hOx
  have hWx := Word_good (ofS x) (ofK x) p1 p2 p3
  rw [p4] at hWx
  have hWx := Lib.hid hWx
  generalize ofS x = xs at *
  generalize ofK x = xk at *
  clear p1 p2 p3 p4 ho hx
  clear hs h0 hm e1 e2 e3
  go_enter Try.func3, Try.ntmps3
  go_wp2_with fail
  refine (hW.out _).mono ?_
  rintro e w1 ⟨rfl, hb1⟩
  replace g := Lib.hid (g.out.trans (hb1.mono g.out.size)); clear hb1
  go_wp2_with (first | (go_at_call 9; refine (hRW.out _).mono ?_; rintro e w1 ⟨rfl, rfl⟩) | (go_at_call 8; refine (hG.out _).mono ?_; rintro e w1 ⟨rfl, rfl⟩; rw [hgt.out]) | (go_at_call 10; refine (awake_any _).mono ?_; rintro e w9 ⟨rfl, hb9⟩; replace g := Lib.hid (g.out.trans (hb9.mono g.out.size)); clear hb9))
  refine (hOf.out _).mono ?_
  rintro e w2 ⟨rfl, hb2⟩
  replace g := Lib.hid (g.out.trans (hb2.mono g.out.size)); clear hb2
  have hB1 := Lib.hid (below_alloc1 w2)
  go_wp2_with fail
  refine (hOx.out _).mono ?_
  rintro e w3 ⟨rfl, hb3⟩
  have g3 := Lib.hid (below_pre (g.out.trans ((hB1.out _).mono g.out.size)) hb3)
  have g4 := Lib.hid (fun o => below_pre g3.out (below_alloc1 w3 o))
  clear hb3
  go_wp2_with fail
  refine (hWx.out _).mono ?_
  rintro e w4 ⟨rfl, hb4⟩
  have g5 := Lib.hid (below_pre (g4.out _) hb4)
  clear hb4
  go_wp2_with fail
  go_ret
  exact ⟨rfl, g5.out⟩
set_option maxHeartbeats 1600000 in
theorem words_good_noa (s m : Nat) (hs : s ≤ lastN) (h0 : 0 < s) (hm : m < 64) (x : Nat) (hx : x < 18446744073709551616) (ho : okW x = false) (ht : decide ((1 : Int) ≤ (x : Int) / 256) = false) (w : World) :
    Calls Try.prog 3 #[.int .u64 (s : Int), .int .i64 (m : Int), .int .u64 (x : Int)] w fun e w' => e = .returned (.bool true) ∧ Below w.heap.size w w' := by
  have g := Lib.hid (Below.refl w.heap.size w)
  have hW := Lib.hid (Word_good s m hs hm h0)
  have hG := Lib.hid (Good_any s (m : Int))
  have hgt := Lib.hid (show goodT s (m : Int) = true by unfold goodT; simp; omega)
  have hRW := Lib.hid (RWord_any s m hs hm h0)
  have hOf := Of_any (wd s m) (wd_lt s m hs hm)
  obtain ⟨e1, e2, e3⟩ := wd_good s m h0 hm
  rw [e1, e2, e3] at hOf
  have hOf := Lib.hid hOf
  generalize wd s m = y at *
  have hOx := Of_any x hx
  have hwr : IntKind.u64.wrap ((x : Int) / 256) = (x : Int) / 256 := by rw [IntKind.wrap_u64]; omega
  obtain ⟨p1, p2⟩ := not_ok x ho
  rw [ho, p1, p2] at hOx
  have hOx := Lib.hid hOx
  clear p1 p2 ho hx
  clear hs h0 hm e1 e2 e3
  go_enter Try.func3, Try.ntmps3
  go_wp2_with fail
  refine (hW.out _).mono ?_
  rintro e w1 ⟨rfl, hb1⟩
  replace g := Lib.hid (g.out.trans (hb1.mono g.out.size)); clear hb1
  go_wp2_with (first | (go_at_call 9; refine (hRW.out _).mono ?_; rintro e w1 ⟨rfl, rfl⟩) | (go_at_call 8; refine (hG.out _).mono ?_; rintro e w1 ⟨rfl, rfl⟩; rw [hgt.out]) | (go_at_call 10; refine (awake_any _).mono ?_; rintro e w9 ⟨rfl, hb9⟩; replace g := Lib.hid (g.out.trans (hb9.mono g.out.size)); clear hb9))
  refine (hOf.out _).mono ?_
  rintro e w2 ⟨rfl, hb2⟩
  replace g := Lib.hid (g.out.trans (hb2.mono g.out.size)); clear hb2
  have hB1 := Lib.hid (below_alloc1 w2)
  go_wp2_with fail
  refine (hOx.out _).mono ?_
  rintro e w3 ⟨rfl, hb3⟩
  have g3 := Lib.hid (below_pre (g.out.trans ((hB1.out _).mono g.out.size)) hb3)
  have g4 := Lib.hid (fun o => below_pre g3.out (below_alloc1 w3 o))
  clear hb3
  go_wp2_with fail
  all_goals go_ret
  all_goals first | exact ⟨rfl, g4.out _⟩ | exact ⟨ret_bool (by rw [ht2]; rfl), g4.out _⟩ | (exfalso; simp at ht; omega)
set_option maxHeartbeats 1600000 in
theorem words_good_nob (s m : Nat) (hs : s ≤ lastN) (h0 : 0 < s) (hm : m < 64) (x : Nat) (hx : x < 18446744073709551616) (ho : okW x = false) (ht : decide ((1 : Int) ≤ (x : Int) / 256) = true) (ht2 : decide ((x : Int) % 256 < 64) = false) (w : World) :
    Calls Try.prog 3 #[.int .u64 (s : Int), .int .i64 (m : Int), .int .u64 (x : Int)] w fun e w' => e = .returned (.bool true) ∧ Below w.heap.size w w' := by
  have g := Lib.hid (Below.refl w.heap.size w)
  have hW := Lib.hid (Word_good s m hs hm h0)
  have hG := Lib.hid (Good_any s (m : Int))
  have hgt := Lib.hid (show goodT s (m : Int) = true by unfold goodT; simp; omega)
  have hRW := Lib.hid (RWord_any s m hs hm h0)
  have hOf := Of_any (wd s m) (wd_lt s m hs hm)
  obtain ⟨e1, e2, e3⟩ := wd_good s m h0 hm
  rw [e1, e2, e3] at hOf
  have hOf := Lib.hid hOf
  generalize wd s m = y at *
  have hOx := Of_any x hx
  have hwr : IntKind.u64.wrap ((x : Int) / 256) = (x : Int) / 256 := by rw [IntKind.wrap_u64]; omega
  obtain ⟨p1, p2⟩ := not_ok x ho
  rw [ho, p1, p2] at hOx
  have hOx := Lib.hid hOx
  clear p1 p2 ho hx
  clear hs h0 hm e1 e2 e3
  go_enter Try.func3, Try.ntmps3
  go_wp2_with fail
  refine (hW.out _).mono ?_
  rintro e w1 ⟨rfl, hb1⟩
  replace g := Lib.hid (g.out.trans (hb1.mono g.out.size)); clear hb1
  go_wp2_with (first | (go_at_call 9; refine (hRW.out _).mono ?_; rintro e w1 ⟨rfl, rfl⟩) | (go_at_call 8; refine (hG.out _).mono ?_; rintro e w1 ⟨rfl, rfl⟩; rw [hgt.out]) | (go_at_call 10; refine (awake_any _).mono ?_; rintro e w9 ⟨rfl, hb9⟩; replace g := Lib.hid (g.out.trans (hb9.mono g.out.size)); clear hb9))
  refine (hOf.out _).mono ?_
  rintro e w2 ⟨rfl, hb2⟩
  replace g := Lib.hid (g.out.trans (hb2.mono g.out.size)); clear hb2
  have hB1 := Lib.hid (below_alloc1 w2)
  go_wp2_with fail
  refine (hOx.out _).mono ?_
  rintro e w3 ⟨rfl, hb3⟩
  have g3 := Lib.hid (below_pre (g.out.trans ((hB1.out _).mono g.out.size)) hb3)
  have g4 := Lib.hid (fun o => below_pre g3.out (below_alloc1 w3 o))
  clear hb3
  go_wp2_with fail
  all_goals go_ret
  all_goals first | exact ⟨rfl, g4.out _⟩ | exact ⟨ret_bool (by rw [ht2]; rfl), g4.out _⟩ | (exfalso; simp at ht; omega)
set_option maxHeartbeats 1600000 in
theorem words_bad_ok (s : Nat) (i : Int) (hg : goodT s i = false) (x : Nat) (hx : x < 18446744073709551616) (ho : okW x = true) (w : World) :
    Calls Try.prog 3 #[.int .u64 (s : Int), .int .i64 i, .int .u64 (x : Int)] w fun e w' => e = .returned (.bool true) ∧ Below w.heap.size w w' := by
  have g := Lib.hid (Below.refl w.heap.size w)
  have hW := Lib.hid (Word_bad s i hg)
  have hG := Lib.hid (Good_any s i)
  have hgt := Lib.hid hg
  have hOf := Of_any 0 (by decide)
  rw [show ofS 0 = 0 by decide, show ofK 0 = 0 by decide, show okW 0 = false by decide] at hOf
  have hOf := Lib.hid hOf
  have hOx := Of_any x hx
  obtain ⟨p1, p2, p3, p4⟩ := ok_parts x hx ho
  rw [ho] at hOx
  have hOx := Lib.hid hOx
  have hWx := Word_good (ofS x) (ofK x) p1 p2 p3
  rw [p4] at hWx
  have hWx := Lib.hid hWx
  generalize ofS x = xs at *
  generalize ofK x = xk at *
  clear p1 p2 p3 p4 ho hx
  clear hg
  go_enter Try.func3, Try.ntmps3
  go_wp2_with fail
  refine (hW.out _).mono ?_
  rintro e w1 ⟨rfl, hb1⟩
  replace g := Lib.hid (g.out.trans (hb1.mono g.out.size)); clear hb1
  go_wp2_with (first | (go_at_call 8; refine (hG.out _).mono ?_; rintro e w1 ⟨rfl, rfl⟩; rw [hgt.out]) | (go_at_call 10; refine (awake_any _).mono ?_; rintro e w9 ⟨rfl, hb9⟩; replace g := Lib.hid (g.out.trans (hb9.mono g.out.size)); clear hb9))
  refine (hOf.out _).mono ?_
  rintro e w2 ⟨rfl, hb2⟩
  replace g := Lib.hid (g.out.trans (hb2.mono g.out.size)); clear hb2
  have hB1 := Lib.hid (below_alloc1 w2)
  go_wp2_with fail
  refine (hOx.out _).mono ?_
  rintro e w3 ⟨rfl, hb3⟩
  have g3 := Lib.hid (below_pre (g.out.trans ((hB1.out _).mono g.out.size)) hb3)
  have g4 := Lib.hid (fun o => below_pre g3.out (below_alloc1 w3 o))
  clear hb3
  go_wp2_with fail
  refine (hWx.out _).mono ?_
  rintro e w4 ⟨rfl, hb4⟩
  have g5 := Lib.hid (below_pre (g4.out _) hb4)
  clear hb4
  go_wp2_with fail
  go_ret
  exact ⟨rfl, g5.out⟩
set_option maxHeartbeats 1600000 in
theorem words_bad_noa (s : Nat) (i : Int) (hg : goodT s i = false) (x : Nat) (hx : x < 18446744073709551616) (ho : okW x = false) (ht : decide ((1 : Int) ≤ (x : Int) / 256) = false) (w : World) :
    Calls Try.prog 3 #[.int .u64 (s : Int), .int .i64 i, .int .u64 (x : Int)] w fun e w' => e = .returned (.bool true) ∧ Below w.heap.size w w' := by
  have g := Lib.hid (Below.refl w.heap.size w)
  have hW := Lib.hid (Word_bad s i hg)
  have hG := Lib.hid (Good_any s i)
  have hgt := Lib.hid hg
  have hOf := Of_any 0 (by decide)
  rw [show ofS 0 = 0 by decide, show ofK 0 = 0 by decide, show okW 0 = false by decide] at hOf
  have hOf := Lib.hid hOf
  have hOx := Of_any x hx
  have hwr : IntKind.u64.wrap ((x : Int) / 256) = (x : Int) / 256 := by rw [IntKind.wrap_u64]; omega
  obtain ⟨p1, p2⟩ := not_ok x ho
  rw [ho, p1, p2] at hOx
  have hOx := Lib.hid hOx
  clear p1 p2 ho hx
  clear hg
  go_enter Try.func3, Try.ntmps3
  go_wp2_with fail
  refine (hW.out _).mono ?_
  rintro e w1 ⟨rfl, hb1⟩
  replace g := Lib.hid (g.out.trans (hb1.mono g.out.size)); clear hb1
  go_wp2_with (first | (go_at_call 8; refine (hG.out _).mono ?_; rintro e w1 ⟨rfl, rfl⟩; rw [hgt.out]) | (go_at_call 10; refine (awake_any _).mono ?_; rintro e w9 ⟨rfl, hb9⟩; replace g := Lib.hid (g.out.trans (hb9.mono g.out.size)); clear hb9))
  refine (hOf.out _).mono ?_
  rintro e w2 ⟨rfl, hb2⟩
  replace g := Lib.hid (g.out.trans (hb2.mono g.out.size)); clear hb2
  have hB1 := Lib.hid (below_alloc1 w2)
  go_wp2_with fail
  refine (hOx.out _).mono ?_
  rintro e w3 ⟨rfl, hb3⟩
  have g3 := Lib.hid (below_pre (g.out.trans ((hB1.out _).mono g.out.size)) hb3)
  have g4 := Lib.hid (fun o => below_pre g3.out (below_alloc1 w3 o))
  clear hb3
  go_wp2_with fail
  all_goals go_ret
  all_goals first | exact ⟨rfl, g4.out _⟩ | exact ⟨ret_bool (by rw [ht2]; rfl), g4.out _⟩ | (exfalso; simp at ht; omega)
set_option maxHeartbeats 1600000 in
theorem words_bad_nob (s : Nat) (i : Int) (hg : goodT s i = false) (x : Nat) (hx : x < 18446744073709551616) (ho : okW x = false) (ht : decide ((1 : Int) ≤ (x : Int) / 256) = true) (ht2 : decide ((x : Int) % 256 < 64) = false) (w : World) :
    Calls Try.prog 3 #[.int .u64 (s : Int), .int .i64 i, .int .u64 (x : Int)] w fun e w' => e = .returned (.bool true) ∧ Below w.heap.size w w' := by
  have g := Lib.hid (Below.refl w.heap.size w)
  have hW := Lib.hid (Word_bad s i hg)
  have hG := Lib.hid (Good_any s i)
  have hgt := Lib.hid hg
  have hOf := Of_any 0 (by decide)
  rw [show ofS 0 = 0 by decide, show ofK 0 = 0 by decide, show okW 0 = false by decide] at hOf
  have hOf := Lib.hid hOf
  have hOx := Of_any x hx
  have hwr : IntKind.u64.wrap ((x : Int) / 256) = (x : Int) / 256 := by rw [IntKind.wrap_u64]; omega
  obtain ⟨p1, p2⟩ := not_ok x ho
  rw [ho, p1, p2] at hOx
  have hOx := Lib.hid hOx
  clear p1 p2 ho hx
  clear hg
  go_enter Try.func3, Try.ntmps3
  go_wp2_with fail
  refine (hW.out _).mono ?_
  rintro e w1 ⟨rfl, hb1⟩
  replace g := Lib.hid (g.out.trans (hb1.mono g.out.size)); clear hb1
  go_wp2_with (first | (go_at_call 8; refine (hG.out _).mono ?_; rintro e w1 ⟨rfl, rfl⟩; rw [hgt.out]) | (go_at_call 10; refine (awake_any _).mono ?_; rintro e w9 ⟨rfl, hb9⟩; replace g := Lib.hid (g.out.trans (hb9.mono g.out.size)); clear hb9))
  refine (hOf.out _).mono ?_
  rintro e w2 ⟨rfl, hb2⟩
  replace g := Lib.hid (g.out.trans (hb2.mono g.out.size)); clear hb2
  have hB1 := Lib.hid (below_alloc1 w2)
  go_wp2_with fail
  refine (hOx.out _).mono ?_
  rintro e w3 ⟨rfl, hb3⟩
  have g3 := Lib.hid (below_pre (g.out.trans ((hB1.out _).mono g.out.size)) hb3)
  have g4 := Lib.hid (fun o => below_pre g3.out (below_alloc1 w3 o))
  clear hb3
  go_wp2_with fail
  all_goals go_ret
  all_goals first | exact ⟨rfl, g4.out _⟩ | exact ⟨ret_bool (by rw [ht2]; rfl), g4.out _⟩ | (exfalso; simp at ht; omega)

theorem words_walk (s : Nat) (hs : s < 18446744073709551616) (i : Int) (x : Nat) (hx : x < 18446744073709551616) (w : World) :
    Calls Try.prog 3 #[.int .u64 (s : Int), .int .i64 i, .int .u64 (x : Int)] w fun e w' => e = .returned (.bool true) ∧ Below w.heap.size w w' := by
  have key : okW x = false → decide ((1 : Int) ≤ (x : Int) / 256) = false ∨ decide ((1 : Int) ≤ (x : Int) / 256) = true ∧ decide ((x : Int) % 256 < 64) = false := by
    intro h
    unfold okW at h
    simp at h ⊢
    omega
  cases hg : goodT s i with
  | true =>
    have hg' := hg
    unfold goodT at hg'
    simp only [Bool.and_eq_true, decide_eq_true_eq] at hg'
    obtain ⟨⟨h1, h2⟩, h3, h4⟩ := hg'
    obtain ⟨m, rfl⟩ := Int.eq_ofNat_of_zero_le h3
    cases ho : okW x with
    | true => exact words_good_ok s m h2 h1 (by omega) x hx ho w
    | false =>
      rcases key ho with h | ⟨h, h'⟩
      · exact words_good_noa s m h2 h1 (by omega) x hx ho h w
      · exact words_good_nob s m h2 h1 (by omega) x hx ho h h' w
  | false =>
    cases ho : okW x with
    | true => exact words_bad_ok s i hg x hx ho w
    | false =>
      rcases key ho with h | ⟨h, h'⟩
      · exact words_bad_noa s i hg x hx ho h w
      · exact words_bad_nob s i hg x hx ho h h' w
end Go.Proofs.Ytpkgbhoifmaagaa
