/- The walk of GradeFalls. -/
import Derived.Test.YtjfgjblpaojjkaaE5
namespace Go.Proofs.Ytjfgjblpaojjkaa
open Go.RowKit

set_option maxHeartbeats 400000 in
theorem falls_walk (l : Int) (a b : Nat) (ha : a < 4294967296) (hb : b < 4294967296) (w : World) :
    Calls Try.prog 6 #[.int .i64 l, .int .u32 a, .int .u32 b] w fun e w' => e = .returned (.bool true) ∧ Below w.heap.size w w' := by
  have g := Lib.hid (Below.refl w.heap.size w)
  have hl := holdN_le l
  have hcomp := run_comp (7 - holdN l) (holdN l) a b (by omega)
  obtain ⟨_, hm7, hxq⟩ := run_fst (7 - holdN l) (holdN l) a (by omega)
  have hall : (runL l (27 + a)).1 = 7 := run_all (holdN l) hl a
  obtain ⟨R, hR⟩ : ∃ R, runL l a = R := ⟨_, rfl⟩
  rw [show runN (7 - holdN l) (holdN l) a = R from hR] at hcomp hm7 hxq
  obtain ⟨m, x⟩ := R
  simp only [] at hcomp hm7 hxq
  have hq8 := qN_le m
  have hx8 : x < 8 := by omega
  obtain ⟨hmn, hn7, _⟩ := run_fst (7 - m) m (x + b) (by omega)
  have h2 : runL (m : Int) (x + b) = runL l (a + b) := by
    unfold runL; rw [holdN_nat m hm7]; exact hcomp
  rw [hcomp] at hmn hn7
  obtain ⟨R2, hR2⟩ : ∃ R2, runL l (a + b) = R2 := ⟨_, rfl⟩
  rw [show runN (7 - holdN l) (holdN l) (a + b) = R2 from hR2] at hmn hn7
  rw [hR2] at h2
  obtain ⟨n, y⟩ := R2
  simp only [] at hmn hn7
  have HBT := Lib.hid (show decide (rankN (n : Int) < rankN (m : Int)) = false from decide_eq_false (by rw [rankN_nat n hn7, rankN_nat m hm7]; omega))
  obtain ⟨R3, hR3⟩ : ∃ R3, runL l (27 + a) = R3 := ⟨_, rfl⟩
  rw [hR3] at hall
  obtain ⟨k, z⟩ := R3
  simp only [] at hall
  subst hall
  have HR := Lib.hid hR
  have HR2 := Lib.hid hR2
  have H2 := Lib.hid h2
  have HR3 := Lib.hid hR3
  have HA := Lib.hid ha
  have HB := Lib.hid hb
  have W1 := Lib.hid (show IntKind.u64.wrap (a : Int) = (a : Int) from wrap_nat_u64 a (by omega))
  have W2 := Lib.hid (show IntKind.u64.wrap (b : Int) = (b : Int) from wrap_nat_u64 b (by omega))
  have W3 := Lib.hid (show IntKind.u64.wrap ((a : Int) + (b : Int)) = ((a + b : Nat) : Int) from by rw [← Int.natCast_add]; exact wrap_nat_u64 _ (by omega))
  have W4 := Lib.hid (show IntKind.u64.wrap ((x : Int) + (b : Int)) = ((x + b : Nat) : Int) from by rw [← Int.natCast_add]; exact wrap_nat_u64 _ (by omega))
  have W5 := Lib.hid (show IntKind.u64.wrap (27 + (a : Int)) = ((27 + a : Nat) : Int) from by rw [show (27 : Int) + (a : Int) = ((27 + a : Nat) : Int) by omega]; exact wrap_nat_u64 _ (by omega))
  have B1 := Lib.hid (show a < 18446744073709551616 by omega)
  have B2 := Lib.hid (show a + b < 18446744073709551616 by omega)
  have B3 := Lib.hid (show x + b < 18446744073709551616 by omega)
  have B4 := Lib.hid (show 27 + a < 18446744073709551616 by omega)
  clear hR hR2 h2 hR3 ha hb hcomp hmn hn7 hm7 hxq hq8 hx8 hl
  go_enter Try.func6, Try.ntmps6
  go_wp2_with (first
    | (go_at_call 19; simp only [W1.out, W2.out, W3.out, W4.out, W5.out]; first | (with_reducible refine (Run_any l a B1.out _).mono ?_; rintro e w1 ⟨rfl, hb1⟩; rw [HR.out]; replace g := Lib.hid (g.out.trans (hb1.mono g.out.size)); clear hb1) | (with_reducible refine (Run_any l (a + b) B2.out _).mono ?_; rintro e w1 ⟨rfl, hb1⟩; rw [HR2.out]; replace g := Lib.hid (g.out.trans (hb1.mono g.out.size)); clear hb1) | (with_reducible refine (Run_any (m : Int) (x + b) B3.out _).mono ?_; rintro e w1 ⟨rfl, hb1⟩; rw [H2.out]; replace g := Lib.hid (g.out.trans (hb1.mono g.out.size)); clear hb1) | (with_reducible refine (Run_any l (27 + a) B4.out _).mono ?_; rintro e w1 ⟨rfl, hb1⟩; rw [HR3.out]; replace g := Lib.hid (g.out.trans (hb1.mono g.out.size)); clear hb1))
    | (go_at_call 10; refine (Better_any _ _ _).mono ?_; rintro e w1 ⟨rfl, rfl⟩; rw [HBT.out])
    | (go_at_call 21; refine (All_any _).mono ?_; rintro e w1 ⟨rfl, hb1⟩; replace g := Lib.hid (g.out.trans (hb1.mono g.out.size)); clear hb1)
    | (go_at_call 16; refine (awake_any _).mono ?_; rintro e w9 ⟨rfl, hb9⟩))
  go_ret
  exact ⟨rfl, g.out.trans (hb9.mono g.out.size)⟩
end Go.Proofs.Ytjfgjblpaojjkaa
