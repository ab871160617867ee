/- The contracts of a book's methods: Now, Drop, Next, Live. -/
import Derived.Test.YtpkgbhoifmaagaaT3
namespace Go.Proofs.Ytpkgbhoifmaagaa
open Go.RowKit

/-- Is a number a slot's? -/
def inB (i : Int) : Bool := decide (0 ≤ i ∧ i < 64)
theorem inB_nat (m : Nat) (h : m < 64) : inB (m : Int) = true := by unfold inB; simp; omega
theorem inB_of (i : Int) (h : inB i = true) : ∃ m : Nat, i = (m : Int) ∧ m < 64 := by
  unfold inB at h; simp at h; exact ⟨i.toNat, by omega, by omega⟩
/-- The word of a slot, as Now tells it. -/
def nowW (st : Nat → Nat) (i : Int) : Nat := if inB i then wd (st i.toNat) i.toNat else 0
theorem nowW_nat (st : Nat → Nat) (m : Nat) (h : m < 64) : nowW st (m : Int) = wd (st m) m := by unfold nowW; rw [if_pos (inB_nat m h)]; rfl
theorem nowW_out (st : Nat → Nat) (i : Int) (h : inB i = false) : nowW st i = 0 := by unfold nowW; rw [if_neg (by simp [h])]

theorem Now_nil (i : Int) (w : World) :
    Calls Try.prog 20 #[.pointer none, .int .i64 i] w fun e w' => e = .returned (.int .u64 0) ∧ w = w' := by
  go_enter Try.func20, Try.ntmps20
  go_wp2
  go_ret
  exact ⟨rfl, rfl⟩
theorem Now_at (b n : Nat) (st : Nat → Nat) (i : Int) (w : World) (h : BookAt w b n st) :
    Calls Try.prog 20 #[.pointer (some ⟨b, 0, none⟩), .int .i64 i] w fun e w' => e = .returned (.int .u64 ((nowW st i : Nat) : Int)) ∧ w = w' := by
  have hs := Lib.hid (isSlot_any i)
  cases hi : inB i with
  | true =>
    obtain ⟨m, rfl, hm⟩ := inB_of i hi
    rw [nowW_nat st m hm]
    have hc : w.cell? ⟨b, 1 + m, none⟩ = some (.int .u64 ((wd (st m) m : Nat) : Int)) := by rw [h.1.cell, Nat.add_comm, bookArr_get _ _ m hm]; rfl
    have hi := Lib.hid (show decide (0 ≤ (m : Int) ∧ (m : Int) < 64) = true from hi)
    clear h
    go_enter Try.func20, Try.ntmps20
    go_wp2_with (go_at_call 22; refine (hs.out _).mono ?_; rintro e w1 ⟨rfl, rfl⟩; rw [hi.out])
    go_ret
    exact ⟨rfl, rfl⟩
  | false =>
    rw [nowW_out st i hi]
    have hi := Lib.hid (show decide (0 ≤ i ∧ i < 64) = false from hi)
    clear h
    go_enter Try.func20, Try.ntmps20
    go_wp2_with (go_at_call 22; refine (hs.out _).mono ?_; rintro e w1 ⟨rfl, rfl⟩; rw [hi.out])
    go_ret
    exact ⟨rfl, rfl⟩

theorem Drop_nil (i : Int) (w : World) :
    Calls Try.prog 16 #[.pointer none, .int .i64 i] w fun e w' => e = .returned (.tuple #[]) ∧ w = w' := by
  go_enter Try.func16, Try.ntmps16
  go_wp2
  refine bodyPost_ret (results_none rfl _ _ _) rfl ?_
  exact ⟨rfl, rfl⟩
/-- A slot's stamp struck. -/
def dropF (st : Nat → Nat) (i : Int) : Nat → Nat := if inB i then putF st i.toNat 0 else st
theorem dropF_nat (st : Nat → Nat) (m : Nat) (h : m < 64) : dropF st (m : Int) = putF st m 0 := by unfold dropF; rw [if_pos (inB_nat m h)]; rfl
theorem dropF_out (st : Nat → Nat) (i : Int) (h : inB i = false) : dropF st i = st := by unfold dropF; rw [if_neg (by simp [h])]
theorem dropF_le (st : Nat → Nat) (n : Nat) (i : Int) (h : ∀ j, st j ≤ n) : ∀ j, dropF st i j ≤ n := by
  unfold dropF; split
  · exact putF_le st n _ 0 h (Nat.zero_le _)
  · exact h
theorem words_put (st : Nat → Nat) (m s : Nat) : ∀ j, j < 64 → putF (words st) m (wd s m) j = words (putF st m s) j := by
  intro j _
  unfold putF words
  by_cases h : j = m
  · subst h; simp
  · simp [h]
theorem BookAt.put {w : World} {b n : Nat} {st : Nat → Nat} (h : BookAt w b n st) (m s : Nat) (hs : s ≤ n) : BookAt (w.setCell ⟨b, 1 + m, none⟩ (.int .u64 ((wd s m : Nat) : Int))) b n (putF st m s) := by
  refine ⟨?_, h.2.1, putF_le st n m s h.2.2 hs⟩
  have := h.1.set (m + 1) (.int .u64 ((wd s m : Nat) : Int))
  rw [bookArr_set, bookArr_congr _ _ _ (words_put st m s)] at this
  rw [Nat.add_comm]
  exact this
theorem Drop_at (b n : Nat) (st : Nat → Nat) (i : Int) (w : World) (h : BookAt w b n st) :
    Calls Try.prog 16 #[.pointer (some ⟨b, 0, none⟩), .int .i64 i] w fun e w' => e = .returned (.tuple #[]) ∧ BookAt w' b n (dropF st i) ∧ Foot (fun k => k = b) w w' := by
  have hs := Lib.hid (isSlot_any i)
  cases hi : inB i with
  | true =>
    obtain ⟨m, rfl, hm⟩ := inB_of i hi
    rw [dropF_nat st m hm]
    have hc : w.cell? ⟨b, 1 + m, none⟩ = some (.int .u64 ((wd (st m) m : Nat) : Int)) := by rw [h.1.cell, Nat.add_comm, bookArr_get _ _ m hm]; rfl
    have hf : w.frozen? ⟨b, 1 + m, none⟩ = false := h.1.frozen _
    have hi := Lib.hid (show decide (0 ≤ (m : Int) ∧ (m : Int) < 64) = true from hi)
    have HP := Lib.hid (h.put m 0 (Nat.zero_le _))
    clear h
    go_enter Try.func16, Try.ntmps16
    go_wp2_with (go_at_call 22; refine (hs.out _).mono ?_; rintro e w1 ⟨rfl, rfl⟩; rw [hi.out])
    go_end0
    exact ⟨rfl, HP.out, (Foot.refl (fun k => k = b) w).setCell (p := ⟨b, 1 + m, none⟩) (.inl rfl) _⟩
  | false =>
    rw [dropF_out st i hi]
    have hi := Lib.hid (show decide (0 ≤ i ∧ i < 64) = false from hi)
    have H := Lib.hid h
    clear h
    go_enter Try.func16, Try.ntmps16
    go_wp2_with (go_at_call 22; refine (hs.out _).mono ?_; rintro e w1 ⟨rfl, rfl⟩; rw [hi.out])
    refine bodyPost_ret (results_none rfl _ _ _) rfl ?_
    exact ⟨rfl, H.out, Foot.refl _ _⟩

theorem Next_nil (i : Int) (w : World) :
    Calls Try.prog 15 #[.pointer none, .int .i64 i] w fun e w' => e = .returned (.tuple #[.int .u64 0, .bool false]) ∧ w = w' := by
  go_enter Try.func15, Try.ntmps15
  go_wp2
  go_ret2
  exact ⟨rfl, rfl⟩
/-- May there be a next word of a slot? -/
def mayN (n : Nat) (i : Int) : Bool := inB i && decide (n < lastN)
theorem wrap_next (n : Nat) (h : n ≤ lastN) : IntKind.u64.wrap ((n : Int) + 1) = ((n + 1 : Nat) : Int) := by unfold lastN at h; rw [IntKind.wrap_u64]; omega
set_option maxHeartbeats 800000 in
theorem Next_no (b n : Nat) (st : Nat → Nat) (i : Int) (w : World) (h : BookAt w b n st) (hm : mayN n i = false) :
    Calls Try.prog 15 #[.pointer (some ⟨b, 0, none⟩), .int .i64 i] w fun e w' => e = .returned (.tuple #[.int .u64 0, .bool false]) ∧ Below w.heap.size w w' := by
  have hc : w.cell? ⟨b, 0, none⟩ = some (.int .u64 (n : Int)) := by rw [h.1.cell, bookArr_get0]
  have hw := Lib.hid (wrap_next n h.2.1)
  have hg : goodT (n + 1) i = false := by
    have h1 := h.2.1
    unfold mayN inB lastN at *
    unfold goodT lastN
    simp at hm ⊢
    omega
  have hv := Lib.hid (Word_bad (n + 1) i hg)
  have hb := Lib.hid (below_alloc1 w)
  clear h hm hg
  go_enter Try.func15, Try.ntmps15
  go_wp2_with (go_at_call 7; rw [hw.out]; refine (hv.out _).mono ?_; rintro e w1 ⟨rfl, hb1⟩)
  go_ret2
  exact ⟨rfl, below_pre (hb.out _) hb1⟩
theorem BookAt.next {w : World} {b n : Nat} {st : Nat → Nat} (h : BookAt w b n st) (m : Nat) (hn : n < lastN) :
    BookAt ((w.setCell ⟨b, 0, none⟩ (.int .u64 ((n + 1 : Nat) : Int))).setCell ⟨b, 1 + m, none⟩ (.int .u64 ((wd (n + 1) m : Nat) : Int))) b (n + 1) (putF st m (n + 1)) := by
  refine BookAt.put (n := n + 1) ⟨?_, hn, fun j => Nat.le_succ_of_le (h.2.2 j)⟩ m (n + 1) (Nat.le_refl _)
  have := h.1.set 0 (.int .u64 ((n + 1 : Nat) : Int))
  rwa [bookArr_set0] at this
set_option maxHeartbeats 800000 in
theorem Next_yes (b n m : Nat) (st : Nat → Nat) (w : World) (h : BookAt w b n st) (hm : m < 64) (hn : n < lastN) :
    Calls Try.prog 15 #[.pointer (some ⟨b, 0, none⟩), .int .i64 (m : Int)] w fun e w' => e = .returned (.tuple #[.int .u64 ((wd (n + 1) m : Nat) : Int), .bool true]) ∧ BookAt w' b (n + 1) (putF st m (n + 1)) ∧ Foot (fun k => k = b) w w' := by
  have hc : w.cell? ⟨b, 0, none⟩ = some (.int .u64 (n : Int)) := by rw [h.1.cell, bookArr_get0]
  have hw := Lib.hid (wrap_next n h.2.1)
  have hv := Lib.hid (Word_good (n + 1) m hn hm (by omega))
  have hb := Lib.hid (below_alloc1 w)
  have hlt := h.1.lt
  have hm0 : (0 : Int) ≤ (m : Int) := by omega
  have H := Lib.hid (fun w1 (hb1 : Below w.heap.size w w1) => (h.below hb1 hlt).next m hn)
  have HC := Lib.hid (fun w1 (hb1 : Below w.heap.size w w1) => show w1.cell? ⟨b, 1 + m, none⟩ = some (.int .u64 ((wd (st m) m : Nat) : Int)) by rw [(h.below hb1 hlt).1.cell, Nat.add_comm, bookArr_get _ _ m hm]; rfl)
  have HC0 := Lib.hid (fun w1 (hb1 : Below w.heap.size w w1) => show w1.cell? ⟨b, 0, none⟩ = some (.int .u64 (n : Int)) by rw [(h.below hb1 hlt).1.cell, bookArr_get0])
  have HF := Lib.hid (fun w1 (hb1 : Below w.heap.size w w1) (i : Nat) => (h.below hb1 hlt).1.frozen i)
  clear h hn
  go_enter Try.func15, Try.ntmps15
  go_wp2_with (go_at_call 7; rw [hw.out]; refine (hv.out _).mono ?_; rintro e w1 ⟨rfl, hb1⟩; have c0 := hb1.cell (p := ⟨w.heap.size, 0, none⟩) (by simp); simp [go_sem] at c0; replace hb1 := below_pre (hb.out _) hb1; have c1 := HC0.out _ hb1; have c2 := HC.out _ hb1; have f1 := HF.out _ hb1 0; have f2 := HF.out _ hb1 (1 + m); have hG := Lib.hid (Foot.of_below (fun k => k = b) hb1); have hH := Lib.hid (H.out _ hb1); clear hb1)
  go_ret2
  exact ⟨rfl, hH.out, (hG.out.setCell (.inl rfl) _).setCell (.inl rfl) _⟩
end Go.Proofs.Ytpkgbhoifmaagaa
