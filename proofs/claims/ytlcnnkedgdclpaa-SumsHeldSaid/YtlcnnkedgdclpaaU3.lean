/- The walk of SumsClamp: it returns true, and nothing is written. -/
import Derived.Test.YtlcnnkedgdclpaaU2
import Derived.OpenShut
namespace Go.Proofs.Ytlcnnkedgdclpaa
open Go.RowKit

theorem clampU_eq (u v w : Int) : (if u < v then v else if w < u then w else u) = clampI u v w := rfl
theorem wrap_i64 (x : Int) (h : (Lit.int .i64 x).wf = true) : IntKind.i64.wrap x = x := by
  have hb := bounds_i64 h
  rw [IntKind.wrap_i64]; omega
theorem clampI_wf (x lo hi : Int) (h1 : (Lit.int .i64 x).wf = true) (h2 : (Lit.int .i64 lo).wf = true) (h3 : (Lit.int .i64 hi).wf = true) : (Lit.int .i64 (clampI x lo hi)).wf = true := by
  unfold clampI; split
  · exact h2
  · split
    · exact h3
    · exact h1

set_option maxRecDepth 100000 in
set_option maxHeartbeats 1600000 in
theorem Clamp_walk (x lo hi u v z : Int) (hx : (Lit.int .i64 x).wf = true) (hl : (Lit.int .i64 lo).wf = true) (hh : (Lit.int .i64 hi).wf = true) (w : World) :
    Calls Try.prog 6 #[.int .i64 x, .int .i64 lo, .int .i64 hi, .int .u64 u, .int .u64 v, .int .u64 z] w fun e w' => e = .returned (.bool true) ∧ w = w' := by
  have Wx := wrap_i64 x hx
  have Wl := wrap_i64 lo hl
  have Wh := wrap_i64 hi hh
  have Wc := wrap_i64 _ (clampI_wf x lo hi hx hl hh)
  obtain ⟨c, hc⟩ : ∃ c, clampI x lo hi = c := ⟨_, rfl⟩
  rw [hc] at Wc
  have Hc := Lib.hid hc
  clear hc hx hl hh
  have key : ∀ g : Int, clampI u v z = g → (u < v ∧ g = v) ∨ (¬ u < v ∧ z < u ∧ g = z) ∨ (¬ u < v ∧ ¬ z < u ∧ g = u) := by
    intro g hg
    unfold clampI at hg
    split at hg
    · left; exact ⟨by assumption, hg.symm⟩
    · split at hg
      · right; left; exact ⟨by assumption, by assumption, hg.symm⟩
      · right; right; exact ⟨by assumption, by assumption, hg.symm⟩
  obtain ⟨g, hg⟩ : ∃ g, clampI u v z = g := ⟨_, rfl⟩
  have hk := key g hg
  have Hg := Lib.hid hg
  clear key hg
  rcases hk with ⟨h1, hgv⟩ | ⟨h1, h2, hgv⟩ | ⟨h1, h2, hgv⟩
  all_goals
    rw [hgv] at Hg
    clear hgv
    go_enter Try.func6, Try.ntmps6
    go_wp2_with fail
    refine (Clamp64_any x lo hi _).mono ?_
    rintro e w1 ⟨rfl, rfl⟩
    rw [Hc.out]
    go_wp2_with fail
    refine (clamped_any x lo hi _).mono ?_
    rintro e w1 ⟨rfl, rfl⟩
    rw [Hc.out]
    go_wp2_with fail
    refine (ClampI_any x lo hi _).mono ?_
    rintro e w1 ⟨rfl, rfl⟩
    rw [Hc.out]
    go_wp2_with fail
    refine (clamped_any x lo hi _).mono ?_
    rintro e w1 ⟨rfl, rfl⟩
    rw [Hc.out]
    go_wp2_with fail
    refine (ClampU_any u v z _).mono ?_
    rintro e w1 ⟨rfl, rfl⟩
    rw [Hg.out]
    go_wp2_with fail
    refine (awake_any _).mono ?_
    rintro e w1 ⟨rfl, rfl⟩
    go_wp2
    go_ret
    exact ⟨rfl, rfl⟩
end Go.Proofs.Ytlcnnkedgdclpaa
