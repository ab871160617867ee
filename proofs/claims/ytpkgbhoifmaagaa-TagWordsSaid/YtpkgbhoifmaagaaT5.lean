/- The contract of a book's Live. -/
import Derived.Test.YtpkgbhoifmaagaaT4
namespace Go.Proofs.Ytpkgbhoifmaagaa
open Go.RowKit

theorem nowW_lt (st : Nat → Nat) (n : Nat) (i : Int) (hn : n ≤ lastN) (h : ∀ j, st j ≤ n) : nowW st i < 18446744073709551616 := by
  cases hi : inB i with
  | true =>
    obtain ⟨m, rfl, hm⟩ := inB_of i hi
    rw [nowW_nat st m hm]
    exact wd_lt _ _ (Nat.le_trans (h m) hn) hm
  | false => rw [nowW_out st i hi]; decide
theorem live_yes (st : Nat → Nat) (x : Nat) (h : liveN st x = true) : okW x = true ∧ nowW st ((ofK x : Nat) : Int) = x ∧ ofK x = x % 256 := by
  have ho : okW x = true := by unfold liveN at h; simp at h; exact h.1
  obtain ⟨h1, h2, h3⟩ := live_of st x h
  have hk : ofK x = x % 256 := by unfold ofK; rw [if_pos ho]
  refine ⟨ho, ?_, hk⟩
  rw [hk, nowW_nat _ _ h1]; exact h3
theorem live_no (st : Nat → Nat) (x : Nat) (h : liveN st x = false) (ho : okW x = true) : (((ofS (nowW st ((ofK x : Nat) : Int)) : Nat) : Int) == ((ofS x : Nat) : Int)) = false := by
  have ho' := ho
  unfold okW at ho'
  simp at ho'
  have hk : ofK x = x % 256 := by unfold ofK; rw [if_pos ho]
  have hs : ofS x = x / 256 := by unfold ofS; rw [if_pos ho]
  rw [hk, nowW_nat _ _ ho'.2, hs]
  rw [beq_eq_false_iff_ne]
  intro e
  have e : ofS (wd (st (x % 256)) (x % 256)) = x / 256 := by omega
  by_cases h0 : st (x % 256) = 0
  · rw [h0] at e
    have : ofS (wd 0 (x % 256)) = 0 := by unfold wd ofS; simp [ok_not0]
    omega
  · have hp : 0 < st (x % 256) := by omega
    unfold ofS at e
    rw [if_pos (wd_ok _ _ hp ho'.2), wd_div _ _ hp ho'.2] at e
    have hb := ok_back x ho
    rw [← e] at hb
    have := (live_iff st x (x % 256) ho'.2 h0 hb).1
    rw [h] at this
    cases this

/-- The slot that Live tells. -/
def liveK (st : Nat → Nat) (x : Nat) : Nat := if liveN st x then x % 256 else 0

theorem tag_cells {w1 w2 : World} {x y : Value} {t : TypeId} (hb2 : Below (w1.alloc (.cells #[x, y] t)).heap.size (w1.alloc (.cells #[x, y] t)) w2) (o : Obj) :
    (w2.alloc o).cell? ⟨w1.heap.size, 0, none⟩ = some x ∧ (w2.alloc o).cell? ⟨w1.heap.size, 1, none⟩ = some y := by
  have hs : (w1.alloc (.cells #[x, y] t)).heap.size = w1.heap.size + 1 := by simp
  have h3 := hb2.trans (below_alloc1 w2 o |>.mono hb2.size)
  have c0 := h3.cell (p := ⟨w1.heap.size, 0, none⟩) (by rw [hs]; exact Nat.lt_succ_self _)
  have c1 := h3.cell (p := ⟨w1.heap.size, 1, none⟩) (by rw [hs]; exact Nat.lt_succ_self _)
  rw [cell_of_row _ _ _ _ _ _ (heap_alloc_new w1 _)] at c0 c1
  exact ⟨c0, c1⟩

set_option maxHeartbeats 800000 in
theorem Live_bad (p : Option Addr) (x : Nat) (hx : x < 18446744073709551616) (ho : okW x = false) (w : World) :
    Calls Try.prog 19 #[.pointer p, .int .u64 (x : Int)] w fun e w' => e = .returned (.tuple #[.int .i64 0, .bool false]) ∧ Below w.heap.size w w' := by
  have hv := Lib.hid (Of_any x hx)
  have HO := Lib.hid ho
  have hb := Lib.hid below_alloc1
  clear ho hx
  go_enter Try.func19, Try.ntmps19
  go_wp2_with (go_at_call 11; refine (hv.out _).mono ?_; rintro e w1 ⟨rfl, hb1⟩; rw [HO.out])
  go_ret2
  exact ⟨rfl, below_pre hb1 (hb.out _ _)⟩

set_option maxHeartbeats 800000 in
theorem Live_nil (x : Nat) (hx : x < 18446744073709551616) (w : World) :
    Calls Try.prog 19 #[.pointer none, .int .u64 (x : Int)] w fun e w' => e = .returned (.tuple #[.int .i64 0, .bool false]) ∧ Below w.heap.size w w' := by
  cases ho : okW x with
  | false => exact Live_bad none x hx ho w
  | true =>
    have hv := Lib.hid (Of_any x hx)
    have h0 := Of_any 0 (by decide)
    rw [show ofS 0 = 0 by decide, show ofK 0 = 0 by decide, show okW 0 = false by decide] at h0
    have h0 := Lib.hid h0
    have hn := Lib.hid Now_nil
    have hne : ((0 : Int) == ((ofS x : Nat) : Int)) = false := by
      have ho' := ho
      unfold okW at ho'; simp at ho'
      rw [beq_eq_false_iff_ne]; unfold ofS; rw [if_pos ho]; omega
    have HO := Lib.hid ho
    have hb := Lib.hid below_alloc1
    clear ho hx
    go_enter Try.func19, Try.ntmps19
    go_wp2_with fail
    refine (hv.out _).mono ?_
    rintro e w1 ⟨rfl, hb1⟩
    rw [HO.out]
    go_wp2_with (go_at_call 20; refine (hn.out _ _).mono ?_; rintro e w2 ⟨rfl, rfl⟩)
    refine (h0.out _).mono ?_
    rintro e w2 ⟨rfl, hb2⟩
    have hc := tag_cells hb2
    have hf := Lib.hid (fun o => below_pre (below_pre (below_pre hb1 (hb.out w1 _)) hb2) (hb.out w2 o))
    clear hb2
    obtain ⟨hc0, hc1⟩ : (∀ o, (w2.alloc o).cell? ⟨w1.heap.size, 0, none⟩ = _) ∧ (∀ o, (w2.alloc o).cell? ⟨w1.heap.size, 1, none⟩ = _) := ⟨fun o => (hc o).1, fun o => (hc o).2⟩
    clear hc
    go_wp2_with fail
    go_ret2
    exact ⟨rfl, hf.out _⟩

set_option maxHeartbeats 800000 in
theorem Live_at (b n : Nat) (st : Nat → Nat) (x : Nat) (hx : x < 18446744073709551616) (w : World) (h : BookAt w b n st) :
    Calls Try.prog 19 #[.pointer (some ⟨b, 0, none⟩), .int .u64 (x : Int)] w fun e w' => e = .returned (.tuple #[.int .i64 ((liveK st x : Nat) : Int), .bool (liveN st x)]) ∧ Below w.heap.size w w' := by
  cases ho : okW x with
  | false =>
    have hl : liveN st x = false := by unfold liveN; rw [ho]; rfl
    unfold liveK
    rw [hl]
    exact Live_bad _ x hx ho w
  | true =>
  have hv := Lib.hid (Of_any x hx)
  have hlt := h.1.lt
  have hy := nowW_lt st n ((ofK x : Nat) : Int) h.2.1 h.2.2
  have h2 := Of_any _ hy
  have hn := Lib.hid (fun w1 (hb1 : Below w.heap.size w w1) o => Now_at b n st ((ofK x : Nat) : Int) (w1.alloc o) ((h.below hb1 hlt).below (below_alloc1 w1 o) (Nat.lt_of_lt_of_le hlt hb1.size)))
  have HO := Lib.hid ho
  have hb := Lib.hid below_alloc1
  unfold liveK
  clear hx hy h hlt
  cases hl : liveN st x with
  | true =>
    obtain ⟨_, hnx, hk⟩ := live_yes st x hl
    rw [if_pos rfl, ← hk]
    clear h2
    have HN := Lib.hid hnx
    clear hk hnx ho hl
    go_enter Try.func19, Try.ntmps19
    go_wp2_with fail
    refine (hv.out _).mono ?_
    rintro e w1 ⟨rfl, hb1⟩
    rw [HO.out]
    go_wp2_with (go_at_call 20; refine (hn.out _ hb1 _).mono ?_; rintro e w2 ⟨rfl, rfl⟩; rw [HN.out])
    refine (hv.out _).mono ?_
    rintro e w2 ⟨rfl, hb2⟩
    rw [HO.out]
    have hc := tag_cells hb2
    have hf := Lib.hid (fun o => below_pre (below_pre (below_pre hb1 (hb.out w1 _)) hb2) (hb.out w2 o))
    clear hb2
    obtain ⟨hc0, hc1⟩ : (∀ o, (w2.alloc o).cell? ⟨w1.heap.size, 0, none⟩ = _) ∧ (∀ o, (w2.alloc o).cell? ⟨w1.heap.size, 1, none⟩ = _) := ⟨fun o => (hc o).1, fun o => (hc o).2⟩
    clear hc
    go_wp2_with fail
    go_ret2
    exact ⟨rfl, hf.out _⟩
  | false =>
    have hne := live_no st x hl ho
    clear ho hl
    generalize nowW st ((ofK x : Nat) : Int) = y at *
    generalize ofS y = ys at *
    generalize ofK y = yk at *
    generalize okW y = yo at *
    have h2 := Lib.hid h2
    go_enter Try.func19, Try.ntmps19
    go_wp2_with fail
    refine (hv.out _).mono ?_
    rintro e w1 ⟨rfl, hb1⟩
    rw [HO.out]
    go_wp2_with (go_at_call 20; refine (hn.out _ hb1 _).mono ?_; rintro e w2 ⟨rfl, rfl⟩)
    refine (h2.out _).mono ?_
    rintro e w2 ⟨rfl, hb2⟩
    have hc := tag_cells hb2
    have hf := Lib.hid (fun o => below_pre (below_pre (below_pre hb1 (hb.out w1 _)) hb2) (hb.out w2 o))
    clear hb2
    obtain ⟨hc0, hc1⟩ : (∀ o, (w2.alloc o).cell? ⟨w1.heap.size, 0, none⟩ = _) ∧ (∀ o, (w2.alloc o).cell? ⟨w1.heap.size, 1, none⟩ = _) := ⟨fun o => (hc o).1, fun o => (hc o).2⟩
    clear hc
    go_wp2_with fail
    go_ret2
    exact ⟨rfl, hf.out _⟩
end Go.Proofs.Ytpkgbhoifmaagaa
