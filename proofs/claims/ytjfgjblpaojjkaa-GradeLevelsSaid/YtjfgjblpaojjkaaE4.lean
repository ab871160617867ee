/- The contracts of All, of Best and of its reference, and of the statements' own examples. -/
import Derived.Test.YtjfgjblpaojjkaaE3
import Derived.Test.YtjfgjblpaojjkaaB2
namespace Go.Proofs.Ytjfgjblpaojjkaa
open Go.RowKit

/-- The sum of the first quanta. -/
def sumQ (k : Nat) : Nat := [0, 1, 2, 4, 6, 9, 13, 19, 27].getD k 0
theorem sumQ_step (k : Nat) (h : k ≤ 7) : sumQ k + qN k = sumQ (k + 1) :=
  cases8 (P := fun k => sumQ k + qN k = sumQ (k + 1)) k h (by decide) (by decide) (by decide) (by decide) (by decide) (by decide) (by decide) (by decide)
theorem sumQ_le (k : Nat) (h : k ≤ 7) : sumQ k ≤ 27 :=
  cases8 (P := fun k => sumQ k ≤ 27) k h (by decide) (by decide) (by decide) (by decide) (by decide) (by decide) (by decide) (by decide)

set_option maxHeartbeats 4000000 in
theorem All_any (w : World) :
    Calls Try.prog 21 #[] w fun e w' => e = .returned (.int .u64 27) ∧ Below w.heap.size w w' := by
  go_enter Try.func21, Try.ntmps21
  go_wp2
  go_loopw [1, 3] (fun a b wr => ∃ k : Nat, k ≤ 8 ∧ a = .int .u64 (sumQ k : Nat) ∧ b = .int .i64 k ∧ Below w.heap.size w wr) (fun _ b _ => 8 - (intOf b).toNat)
  case atStart => exact ⟨0, by omega, rfl, rfl, Below.refl _ _⟩
  case round =>
    obtain ⟨k, hk, rfl, rfl, hb⟩ := hrel
    by_cases hlt : k < 8
    · have HN := Lib.hid (holdN_nat k (by omega))
      have hs := sumQ_step k (by omega)
      have hq8 := qN_le k
      have hs27 := sumQ_le k (by omega)
      obtain ⟨q, hqe⟩ : ∃ q, qN k = q := ⟨_, rfl⟩
      obtain ⟨s, hse⟩ : ∃ s, sumQ k = s := ⟨_, rfl⟩
      obtain ⟨s', hse'⟩ : ∃ s', sumQ (k + 1) = s' := ⟨_, rfl⟩
      rw [hqe] at hs hq8
      rw [hse] at hs hs27 ⊢
      rw [hse'] at hs
      have HQ := Lib.hid hqe
      have HS := Lib.hid hse'
      have Hs := Lib.hid hs
      clear hqe hse hse' hs
      go_wp2_with (go_at_call 12; refine (Quantum_any _ _).mono ?_; rintro e w1 ⟨rfl, hb1⟩; rw [HN.out, HQ.out])
      go_roundw
      case rel =>
        have := Hs.out
        exact ⟨k + 1, by omega, by rw [HS.out]; first | rw [show (s' : Int) = (s : Int) + (q : Int) by omega] | (rw [← this]; go_num) , by go_num, hb.trans (hb1.mono hb.size)⟩
      case measure => simp [intOf]; omega
    · obtain rfl : k = 8 := by omega
      go_wp2
      go_ret
      exact ⟨rfl, hb⟩

/-- A slice of integers that reads as a list. -/
def ReadsI (w : World) (v : Value) (xs : List Int) : Prop :=
  ∃ p c, v = .slice p xs.length c ∧ xs.length ≤ c ∧ (xs = [] ∨ ∃ b off, p = some ⟨b, off, none⟩ ∧ b < w.heap.size ∧ ∀ j, j < xs.length → w.cell? ⟨b, off + j, none⟩ = some (.int .i64 (xs.getD j 0)))
theorem ReadsI.below {w w' : World} {v : Value} {xs : List Int} {B : Nat} (h : ReadsI w v xs) (hb : Below B w w') (hB : w.heap.size ≤ B) : ReadsI w' v xs := by
  obtain ⟨p, c, rfl, hl, h | ⟨b, off, rfl, hlt, hc⟩⟩ := h
  · exact ⟨p, c, rfl, hl, .inl h⟩
  · refine ⟨_, c, rfl, hl, .inr ⟨b, off, rfl, Nat.lt_of_lt_of_le hlt hb.size, fun j hj => ?_⟩⟩
    rw [hb.cell (p := ⟨b, off + j, none⟩) (Nat.lt_of_lt_of_le hlt hB)]
    exact hc j hj
theorem ReadsI.nil (w : World) : ReadsI w (.slice none 0 0) [] := ⟨none, 0, rfl, Nat.le_refl _, .inl rfl⟩
theorem ReadsI.of_rv {w : World} {G : Nat → Prop} {v : Value} {xs : List Int} (h : RV w G v xs.length 1 (xs.map (Value.int .i64))) : ReadsI w v xs := by
  obtain ⟨p, c, rfl, h1, _, _, _, h5⟩ := h
  refine ⟨p, c, rfl, h1, h5.imp List.length_eq_zero_iff.1 fun ⟨b, off, hp, hb, _, hc⟩ => ⟨b, off, hp, hb, fun j hj => hc j _ (getD_map (Value.int .i64) xs 0 j hj)⟩⟩
theorem best_in (b : Nat) (x : Int) (h : 0 ≤ x ∧ x ≤ 7) : (bestStep b x : Int) = if x < (b : Int) then x else (b : Int) := by
  unfold bestStep; rw [if_pos h]; split <;> omega

set_option maxHeartbeats 4000000 in
theorem Best_any (v : Value) (xs : List Int) (hx : xs.length ≤ maxLen) (w : World) (h : ReadsI w v xs) :
    Calls Try.prog 17 #[v] w fun e w' => e = .returned (.int .i64 (bestN xs : Nat)) ∧ w = w' := by
  unfold maxLen at hx
  obtain ⟨p, c, rfl, _, h⟩ := h
  by_cases h0 : xs = []
  · subst h0
    clear h
    go_enter Try.func17, Try.ntmps17
    go_wp2
    refine wp_loop_rounds 1 ?_
    rw [rounds_succ]
    go_wp2
    go_ret
    exact ⟨rfl, rfl⟩
  · obtain ⟨b, off, rfl, hlt, hc⟩ := h.resolve_left h0
    have Hc := Lib.hid hc
    clear hc h
    go_enter Try.func17, Try.ntmps17
    go_wp2
    go_loop [3, 8] (fun s t => ∃ k : Nat, k ≤ xs.length ∧ t = .int .i64 k ∧ s = .int .i64 (bestN (xs.take k) : Nat)) (fun _ t => xs.length - (intOf t).toNat)
    case atStart => exact ⟨0, by omega, rfl, rfl⟩
    case round =>
      obtain ⟨k, hk, rfl, rfl⟩ := hrel
      by_cases hlt2 : k < xs.length
      · have hcell := Hc.out k hlt2
        have hs := bestN_take xs k hlt2
        obtain ⟨x, hx⟩ : ∃ x, xs.getD k 0 = x := ⟨_, rfl⟩
        rw [hx] at hcell hs
        obtain ⟨b0, hb0⟩ : ∃ b0, bestN (xs.take k) = b0 := ⟨_, rfl⟩
        rw [hb0] at hs ⊢
        clear hx hb0
        by_cases hin : 0 ≤ x ∧ x ≤ 7
        · have hbi := best_in b0 x hin
          rw [← hs] at hbi
          have HB := Lib.hid hbi
          have HIS := Lib.hid (show decide (0 ≤ x ∧ x ≤ 7) = true from decide_eq_true hin)
          clear hs hbi hin
          go_wp2_with (go_at_call 7; refine (Is_any _ _).mono ?_; rintro e w1 ⟨rfl, rfl⟩; rw [HIS.out])
          go_round
          case rel => exact ⟨k + 1, by omega, by go_num, by rw [HB.out]⟩
          case measure => simp [intOf]; omega
        · rw [bestStep_skip b0 x hin] at hs
          have HB := Lib.hid hs
          have HIS := Lib.hid (show decide (0 ≤ x ∧ x ≤ 7) = false from decide_eq_false hin)
          clear hs hin
          go_wp2_with (go_at_call 7; refine (Is_any _ _).mono ?_; rintro e w1 ⟨rfl, rfl⟩; rw [HIS.out])
          go_round
          case rel => exact ⟨k + 1, by omega, by go_num, by rw [HB.out]⟩
          case measure => simp [intOf]; omega
      · obtain rfl : k = xs.length := by omega
        go_wp2
        go_ret
        exact ⟨ret_int (by simp), rfl⟩

set_option maxHeartbeats 4000000 in
theorem RBest_any (v : Value) (xs : List Int) (hx : xs.length ≤ maxLen) (w : World) (h : ReadsI w v xs) :
    Calls Try.prog 18 #[v] w fun e w' => e = .returned (.int .i64 (bestN xs : Nat)) ∧ w = w' := by
  unfold maxLen at hx
  obtain ⟨p, c, rfl, _, h⟩ := h
  by_cases h0 : xs = []
  · subst h0
    clear h
    go_enter Try.func18, Try.ntmps18
    go_wp2
    refine wp_loop_rounds 1 ?_
    rw [rounds_succ]
    go_wp2
    go_ret
    exact ⟨rfl, rfl⟩
  · obtain ⟨b, off, rfl, hlt, hc⟩ := h.resolve_left h0
    have Hc := Lib.hid hc
    clear hc h
    go_enter Try.func18, Try.ntmps18
    go_wp2
    go_loop [3, 4] (fun s t => ∃ k : Nat, k ≤ xs.length ∧ t = .int .i64 k ∧ s = .int .i64 (bestN (xs.take k) : Nat)) (fun _ t => xs.length - (intOf t).toNat)
    case atStart => exact ⟨0, by omega, rfl, rfl⟩
    case round =>
      obtain ⟨k, hk, rfl, rfl⟩ := hrel
      by_cases hlt2 : k < xs.length
      · have hcell := Hc.out k hlt2
        have hs := bestN_take xs k hlt2
        have hb8 := bestN_le (xs.take k)
        obtain ⟨x, hx⟩ : ∃ x, xs.getD k 0 = x := ⟨_, rfl⟩
        rw [hx] at hcell hs
        obtain ⟨b0, hb0⟩ : ∃ b0, bestN (xs.take k) = b0 := ⟨_, rfl⟩
        rw [hb0] at hs hb8 ⊢
        clear hx hb0
        by_cases h0 : 0 ≤ x
        · have hr := bestStep_ref b0 x hb8 h0
          rw [← hs] at hr
          clear hs hb8
          by_cases hxb : x < (b0 : Int)
          · rw [if_pos hxb] at hr
            have HB := Lib.hid hr
            clear hr
            go_wp2
            go_round
            case rel => exact ⟨k + 1, by omega, by go_num, by rw [HB.out]⟩
            case measure => simp [intOf]; omega
          · rw [if_neg hxb] at hr
            have HB := Lib.hid hr
            clear hr
            go_wp2
            go_round
            case rel => exact ⟨k + 1, by omega, by go_num, by rw [HB.out]⟩
            case measure => simp [intOf]; omega
        · rw [bestStep_skip b0 x (by omega)] at hs
          have HB := Lib.hid hs
          clear hs hb8
          go_wp2
          go_round
          case rel => exact ⟨k + 1, by omega, by go_num, by rw [HB.out]⟩
          case measure => simp [intOf]; omega
      · obtain rfl : k = xs.length := by omega
        go_wp2
        go_ret
        exact ⟨ret_int (by simp), rfl⟩
end Go.Proofs.Ytjfgjblpaojjkaa
