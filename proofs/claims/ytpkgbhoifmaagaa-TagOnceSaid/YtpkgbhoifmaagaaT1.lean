/- Contracts of package tag's plain functions and of their reference: isSlot, valid, Word, Of, Good. -/
import Derived.Test.YtpkgbhoifmaagaaRows
import Derived.Test.YtpkgbhoifmaagaaMath
import Derived.Test.YtpkgbhoifmaagaaB1
import Derived.WalkKit
import Derived.WalkSpells
import Derived.WalkLawsBesides
import Derived.Lib.Hide
namespace Go.Proofs.Ytpkgbhoifmaagaa
open Go.RowKit

theorem ret_bool {a b : Bool} (h : a = b) : Ending.returned (.bool a) = .returned (.bool b) := by rw [h]
theorem below_alloc1 (w : World) (a : Obj) : Below w.heap.size w (w.alloc a) := (Below.refl _ _).alloc (Nat.le_refl _) a
theorem below_alloc2 (w : World) (a b : Obj) : Below w.heap.size w ((w.alloc a).alloc b) := (below_alloc1 w a).alloc (by simp) b
theorem below_pre {w w1 w2 : World} (h : Below w.heap.size w w1) (k : Below w1.heap.size w1 w2) : Below w.heap.size w w2 := h.trans (k.mono h.size)

theorem isSlot_any (i : Int) (w : World) :
    Calls Try.prog 22 #[.int .i64 i] w fun e w' => e = .returned (.bool (decide (0 ≤ i ∧ i < 64))) ∧ w = w' := by
  by_cases h : 0 ≤ i
  · by_cases h7 : i < 64
    · go_enter Try.func22, Try.ntmps22
      go_wp2
      go_ret
      exact ⟨ret_bool (by simp; omega), rfl⟩
    · go_enter Try.func22, Try.ntmps22
      go_wp2
      go_ret
      exact ⟨ret_bool (by simp; omega), rfl⟩
  · go_enter Try.func22, Try.ntmps22
    go_wp2
    go_ret
    exact ⟨ret_bool (by simp; omega), rfl⟩

/-- May a tag be? -/
def goodT (s : Nat) (i : Int) : Bool := decide (1 ≤ s ∧ s ≤ lastN) && decide (0 ≤ i ∧ i < 64)

set_option maxHeartbeats 400000 in
theorem valid_any (s : Nat) (i : Int) (w : World) :
    Calls Try.prog 21 #[.agg #[.int .u64 (s : Int), .int .i64 i]] w fun e w' => e = .returned (.bool (goodT s i)) ∧ Below w.heap.size w w' := by
  have hs := Lib.hid (isSlot_any i)
  have hb := Lib.hid (below_alloc1 w)
  by_cases h1 : 1 ≤ s
  · have t1 : decide ((1 : Int) ≤ (s : Int)) = true := by simp; omega
    by_cases h2 : s ≤ lastN
    · have t2 : decide ((s : Int) ≤ 72057594037927935) = true := by unfold lastN at h2; simp; omega
      have hg := Lib.hid (show decide (0 ≤ i ∧ i < 64) = goodT s i by unfold goodT; simp [h1, h2])
      clear h1 h2
      go_enter Try.func21, Try.ntmps21
      go_wp2_with (go_at_call 22; refine (hs.out _).mono ?_; rintro e w1 ⟨rfl, rfl⟩; rw [hg.out])
      go_ret
      exact ⟨rfl, hb.out _⟩
    · have t2 : decide ((s : Int) ≤ 72057594037927935) = false := by unfold lastN at h2; simp; omega
      have hg := Lib.hid (show false = goodT s i by unfold goodT; simp [h2])
      clear h1 h2
      go_enter Try.func21, Try.ntmps21
      go_wp2
      go_ret
      exact ⟨ret_bool hg.out, hb.out _⟩
  · have t1 : decide ((1 : Int) ≤ (s : Int)) = false := by simp; omega
    have hg := Lib.hid (show false = goodT s i by unfold goodT; simp [h1])
    clear h1
    go_enter Try.func21, Try.ntmps21
    go_wp2
    go_ret
    exact ⟨ret_bool hg.out, hb.out _⟩

set_option maxHeartbeats 400000 in
theorem Good_any (s : Nat) (i : Int) (w : World) :
    Calls Try.prog 8 #[.int .u64 (s : Int), .int .i64 i] w fun e w' => e = .returned (.bool (goodT s i)) ∧ w = w' := by
  by_cases h1 : 1 ≤ s
  · have t1 : decide ((s : Int) ≥ 1) = true := by simp; omega
    by_cases h2 : s ≤ lastN
    · have t2 : decide ((s : Int) ≤ 72057594037927935) = true := by unfold lastN at h2; simp; omega
      have hg := Lib.hid (show decide (0 ≤ i ∧ i < 64) = goodT s i by unfold goodT; simp [h1, h2])
      clear h1 h2
      by_cases h3 : 0 ≤ i
      · by_cases h4 : i < 64
        · go_enter Try.func8, Try.ntmps8
          go_wp2
          go_ret
          exact ⟨ret_bool (by rw [← hg.out]; simp; omega), rfl⟩
        · go_enter Try.func8, Try.ntmps8
          go_wp2
          go_ret
          exact ⟨ret_bool (by rw [← hg.out]; simp; omega), rfl⟩
      · go_enter Try.func8, Try.ntmps8
        go_wp2
        go_ret
        exact ⟨ret_bool (by rw [← hg.out]; simp; omega), rfl⟩
    · have t2 : decide ((s : Int) ≤ 72057594037927935) = false := by unfold lastN at h2; simp; omega
      have hg := Lib.hid (show false = goodT s i by unfold goodT; simp [h2])
      clear h1 h2
      go_enter Try.func8, Try.ntmps8
      go_wp2
      go_ret
      exact ⟨ret_bool hg.out, rfl⟩
  · have t1 : decide ((s : Int) ≥ 1) = false := by simp; omega
    have hg := Lib.hid (show false = goodT s i by unfold goodT; simp [h1])
    clear h1
    go_enter Try.func8, Try.ntmps8
    go_wp2
    go_ret
    exact ⟨ret_bool hg.out, rfl⟩

theorem wrap_word (s : Nat) (i : Nat) (hs : s ≤ lastN) (hi : i < 64) (h0 : 0 < s) : IntKind.u64.wrap (IntKind.u64.wrap ((s : Int) * 256) + IntKind.u64.wrap (i : Int)) = ((wd s i : Nat) : Int) := by
  unfold lastN at hs; unfold wd; rw [if_neg (by omega)]
  simp only [IntKind.wrap_u64]; omega
theorem wrap_word' (s : Nat) (i : Nat) (hs : s ≤ lastN) (hi : i < 64) (h0 : 0 < s) : IntKind.u64.wrap (IntKind.u64.wrap (256 * (s : Int)) + IntKind.u64.wrap (i : Int)) = ((wd s i : Nat) : Int) := by
  rw [Int.mul_comm]; exact wrap_word s i hs hi h0

theorem RWord_any (s i : Nat) (hs : s ≤ lastN) (hi : i < 64) (h0 : 0 < s) (w : World) :
    Calls Try.prog 9 #[.int .u64 (s : Int), .int .i64 (i : Int)] w fun e w' => e = .returned (.int .u64 ((wd s i : Nat) : Int)) ∧ w = w' := by
  have h := Lib.hid (wrap_word s i hs hi h0)
  clear hs hi h0
  go_enter Try.func9, Try.ntmps9
  go_wp2
  go_ret
  exact ⟨by rw [h.out]; rfl, rfl⟩

set_option maxHeartbeats 400000 in
theorem Word_good (s i : Nat) (hs : s ≤ lastN) (hi : i < 64) (h0 : 0 < s) (w : World) :
    Calls Try.prog 7 #[.agg #[.int .u64 (s : Int), .int .i64 (i : Int)]] w fun e w' => e = .returned (.tuple #[.int .u64 ((wd s i : Nat) : Int), .bool true]) ∧ Below w.heap.size w w' := by
  have h := Lib.hid (wrap_word' s i hs hi h0)
  have hv := Lib.hid (valid_any s (i : Int))
  have hg := Lib.hid (show goodT s (i : Int) = true by unfold goodT; simp; omega)
  have hb := Lib.hid (below_alloc1 w)
  clear hs hi h0
  go_enter Try.func7, Try.ntmps7
  go_wp2_with (go_at_call 21; refine (hv.out _).mono ?_; rintro e w1 ⟨rfl, hb1⟩; rw [hg.out]; have hc := hb1.cell (p := ⟨w.heap.size, 0, none⟩) (by simp); have hc' := hb1.cell (p := ⟨w.heap.size, 1, none⟩) (by simp); simp [go_sem] at hc hc')
  go_ret2
  exact ⟨by rw [h.out]; rfl, below_pre (hb.out _) hb1⟩
set_option maxHeartbeats 400000 in
theorem Word_bad (s : Nat) (i : Int) (hg : goodT s i = false) (w : World) :
    Calls Try.prog 7 #[.agg #[.int .u64 (s : Int), .int .i64 i]] w fun e w' => e = .returned (.tuple #[.int .u64 0, .bool false]) ∧ Below w.heap.size w w' := by
  have hv := Lib.hid (valid_any s i)
  have hb := Lib.hid (below_alloc1 w)
  have hg := Lib.hid hg
  go_enter Try.func7, Try.ntmps7
  go_wp2_with (go_at_call 21; refine (hv.out _).mono ?_; rintro e w1 ⟨rfl, hb1⟩; rw [hg.out])
  go_ret2
  exact ⟨rfl, below_pre (hb.out _) hb1⟩
end Go.Proofs.Ytpkgbhoifmaagaa
