/- The contract of deed's Parse. -/
import Derived.Test.YtbjmdcjoaapmiaaDoorD17
import Derived.Test.YtbjmdcjoaapmiaaDoorW5
namespace Go.Proofs.YtbjmdcjoaapmiaaDoor
open Go.RowKit

theorem opFrom_cases (l : List UInt8) : ∀ (f k : Nat), opFrom l k f = 0 ∨ (k ≤ opFrom l k f ∧ opFrom l k f < k + f)
  | 0, _ => .inl rfl
  | f + 1, k => by
    unfold opFrom
    split
    · right; omega
    · rcases opFrom_cases l f (k + 1) with h | h
      · exact .inl h
      · right; omega
theorem opOf_isOp (l : List UInt8) (h : ¬ opOf l = 0) : isOp (opOf l : Int) = true := by
  rcases opFrom_cases l 11 1 with h1 | h1
  · exact absurd h1 h
  · unfold isOp
    have e : opOf l = opFrom l 1 11 := rfl
    rw [e]
    simp
    omega
/-- What Parse answers. -/
def parseD (l : List UInt8) : Deed × Nat :=
  match wordsGo [] l with
  | [] => (zeroD, 15)
  | z :: ws => if opOf z = 0 then (zeroD, 15) else if (readR (opOf z) ws).2 = 0 then bldD (opOf z) (readR (opOf z) ws).1 else (zeroD, (readR (opOf z) ws).2)
theorem total_mem : ∀ (ws : List (List UInt8)) (l : List UInt8), l ∈ ws → l.length ≤ total ws
  | w :: ws, l, h => by
    rw [total_cons]
    rcases List.mem_cons.1 h with e | h
    · rw [e]; omega
    · have := total_mem ws l h; omega
theorem words_small (l : List UInt8) (hl : l.length ≤ 1000) : (wordsGo [] l).length ≤ 1000 ∧ ∀ z ∈ wordsGo [] l, z.length ≤ 1000 := by
  have ht := go_total l []
  have hn := len_total (wordsGo [] l) (go_words l [] (fun _ h => by cases h))
  simp at ht
  exact ⟨by omega, fun z hz => by have := total_mem _ z hz; omega⟩
theorem readR_len (op : Int) (ws : List (List UInt8)) (h : (readR op ws).2 = 0) : (opr op).length ≤ (readR op ws).1.length := by
  unfold readR at h ⊢
  split at h
  · rename_i hl
    rw [if_pos hl]
    split at h
    · rename_i xs hx
      have := rdAll_len _ _ _ hx
      exact Nat.le_of_eq this.symm
    · simp at h
  · simp at h
theorem readAll_any (op : Int) (ho : isOp op = true) (ws : List (List UInt8)) (hwl : ws.length ≤ 1000) (hlen : ∀ l ∈ ws, l.length ≤ 1000) (v : Value) (G : Nat → Prop) (w : World) (hv : RV w G v ws.length 1 (ws.map sV)) :
    Calls Tryd.prog 39 #[.int .i64 op, v] w fun e w' => ∃ xv, e = .returned (.tuple #[xv, .int .i64 ((readR op ws).2 : Nat)]) ∧ RV w' (fun _ => True) xv (readR op ws).1.length 1 ((readR op ws).1.map uV) ∧ Below w.heap.size w w' := by
  by_cases h : lenOk op (opr op).length ws.length = true
  · exact readAll_ok op ho ws h hlen v G w hv
  · have h' : lenOk op (opr op).length ws.length = false := by simpa using h
    have e : readR op ws = ([], 3) := by unfold readR; rw [if_neg h]
    rw [e]
    refine (readAll_form op ho ws hwl h' v G w hv).mono ?_
    rintro e w' ⟨rfl, hb⟩
    exact ⟨_, rfl, RV.nil _ _ _, hb⟩

theorem rv_tail {w : World} {G : Nat → Prop} {b off n c : Nat} {u : Value} {xs : List Value} (h : RV w G (.slice (some ⟨b, off, none⟩) (n + 1) c) (n + 1) 1 (u :: xs)) :
    RV w G (.slice (if c = 1 then some ⟨b, off, none⟩ else some ⟨b, off + 1, none⟩) n (c - 1)) n 1 xs := by
  have h1 := Wire.RV_rest h 1 (by omega)
  have e : (⟨b, off, none⟩ : Addr).add (1 * 1) = ⟨b, off + 1, none⟩ := by unfold Addr.add; split <;> simp_all
  rw [Option.map_some, e, Nat.add_sub_cancel] at h1
  exact h1
section
variable (s : ByteArray) (hs : s.size ≤ 1000) (w : World)
include hs
set_option maxHeartbeats 1000000 in
theorem Parse_none (hD : wordsGo [] s.data.toList = []) :
    Calls Tryd.prog 16 #[.string s] w fun e w' => e = .returned (.tuple #[.agg zeroD.cells, .int .i64 15]) ∧ Below w.heap.size w w' := by
  have hw := Words_any s hs
  rw [hD] at hw
  have hbr0 := Blk.new w 24 zeroD.cells
  have hb0 := below_alloc1 w (.cells zeroD.cells 24)
  go_enter Tryd.func16, Tryd.ntmps16
  go_wp2_with (first
    | (refine wpList_alloc_agg rfl 24 rfl zeroD.cells zeroR ?_)
    | (go_at_call 37; (with_reducible refine (hw _).mono ?_); clear hw; rintro e w1 ⟨v, rfl, hown, hb1⟩; have hbr1 := hbr0.below hb1 hbr0.lt; obtain ⟨p, c, rfl, _⟩ := id (RV.of_own hown))
    | (refine wpList_store_row rfl 24 _ _ rfl w.heap.size zeroD.cells rfl rfl 24 _ hbr1 (sizeD _) rfl (oneD _) ?_))
  refine bodyPost_ret (results_row_tmp rfl _ _ w.heap.size 24 zeroD.cells (0, 0) _ rfl (hbr1.row _) Tryd.underlying24 rfl (sizeD _)) rfl ?_
  exact ⟨rfl, (below_pre hb0 hb1).trans (foot_row _ (Nat.le_refl _))⟩

set_option maxHeartbeats 1000000 in
theorem Parse_word (z : List UInt8) (ws : List (List UInt8)) (hD : wordsGo [] s.data.toList = z :: ws) (h0 : opOf z = 0) :
    Calls Tryd.prog 16 #[.string s] w fun e w' => e = .returned (.tuple #[.agg zeroD.cells, .int .i64 15]) ∧ Below w.heap.size w w' := by
  have hw := Words_any s hs
  rw [hD] at hw
  have hbr0 := Blk.new w 24 zeroD.cells
  have hb0 := below_alloc1 w (.cells zeroD.cells 24)
  obtain ⟨Z, hZ⟩ : ∃ Z : ByteArray, Z = ⟨z.toArray⟩ := ⟨_, rfl⟩
  have hnm : ∀ w, Calls Tryd.prog 38 #[.string Z] w fun e w' => e = .returned (.tuple #[.int .i64 0, .bool false]) ∧ Below w.heap.size w w' := fun w => by
    have := named_any Z w
    rw [show Z.data.toList = z by rw [hZ], h0] at this
    exact this
  have HZ := Lib.hid hZ
  clear h0 hs hD hZ
  go_enter Tryd.func16, Tryd.ntmps16
  go_wp2_with (first
    | (refine wpList_alloc_agg rfl 24 rfl zeroD.cells zeroR ?_)
    | (go_at_call 37; (with_reducible refine (hw _).mono ?_); clear hw; rintro e w1 ⟨v, rfl, hown, hb1⟩; have hbr1 := hbr0.below hb1 hbr0.lt; obtain ⟨p, c, rfl, hnc, _⟩ := id (RV.of_own hown); obtain ⟨b, off, rfl, _, _, hcell⟩ := (RV.of_own hown).at1 0 (sV z) rfl; rw [Nat.add_zero, sV, ← HZ.out] at hcell; rw [List.length_cons] at hnc)
    | (go_at_call 38; (with_reducible refine (hnm _).mono ?_); clear hnm; rintro e w2 ⟨rfl, hb2⟩; have hbr2 := hbr1.below hb2 hbr1.lt)
    | (refine wpList_store_row rfl 24 _ _ rfl w.heap.size zeroD.cells rfl rfl 24 _ hbr2 (sizeD _) rfl (oneD _) ?_))
  refine bodyPost_ret (results_row_tmp rfl _ _ w.heap.size 24 zeroD.cells (0, 0) _ rfl (hbr2.row _) Tryd.underlying24 rfl (sizeD _)) rfl ?_
  exact ⟨rfl, (below_pre (below_pre hb0 hb1) hb2).trans (foot_row _ (Nat.le_refl _))⟩

set_option maxHeartbeats 2000000 in
theorem Parse_rest (z : List UInt8) (ws : List (List UInt8)) (hD : wordsGo [] s.data.toList = z :: ws) (h0 : ¬ opOf z = 0) (D : Deed) (y : Nat) (hDy : (if (readR (opOf z) ws).2 = 0 then bldD (opOf z) (readR (opOf z) ws).1 else (zeroD, (readR (opOf z) ws).2)) = (D, y)) :
    Calls Tryd.prog 16 #[.string s] w fun e w' => e = .returned (.tuple #[.agg D.cells, .int .i64 (y : Int)]) ∧ Below w.heap.size w w' := by
  have hw := Words_any s hs
  have hsm := words_small s.data.toList hs
  rw [hD] at hw hsm
  have hbr0 := Blk.new w 24 zeroD.cells
  have hb0 := below_alloc1 w (.cells zeroD.cells 24)
  obtain ⟨Z, hZ⟩ : ∃ Z : ByteArray, Z = ⟨z.toArray⟩ := ⟨_, rfl⟩
  have hnm : ∀ w, Calls Tryd.prog 38 #[.string Z] w fun e w' => e = .returned (.tuple #[.int .i64 (opOf z : Nat), .bool true]) ∧ Below w.heap.size w w' := fun w => by
    have := named_any Z w
    rw [show Z.data.toList = z by rw [hZ], show decide (opOf z ≠ 0) = true by simpa using h0] at this
    exact this
  have hop := opOf_isOp z h0
  have hra := readAll_any (opOf z : Int) hop ws (by have := hsm.1; simp at this; omega) (fun l hl => hsm.2 l (List.mem_cons_of_mem _ hl))
  have hbu := fun h xv G W hv => build_any (opOf z : Int) hop (readR (opOf z) ws).1 (readR_len _ _ h) xv G W hv
  have HZ := Lib.hid hZ
  simp only [Deed.val] at hbu
  have hwl : ws.length ≤ 999 := by have := hsm.1; simp at this; omega
  generalize readR (opOf z) ws = R at *
  generalize opOf z = op at *
  have hy : (R.2 = 0 ∧ bldD op R.1 = (D, y)) ∨ (¬ R.2 = 0 ∧ D = zeroD ∧ y = R.2) := by
    by_cases h : R.2 = 0
    · rw [if_pos h] at hDy; exact .inl ⟨h, hDy⟩
    · rw [if_neg h] at hDy
      injection hDy with e1 e2
      exact .inr ⟨h, e1.symm, e2.symm⟩
  clear h0 hs hD hZ hsm hop hDy
  obtain ⟨xs, e⟩ := R
  simp only at hra hbu hy
  rcases hy with ⟨rfl, hb⟩ | ⟨he, rfl, rfl⟩
  · replace hbu := hbu rfl
    rw [hb] at hbu
    clear hb
    go_enter Tryd.func16, Tryd.ntmps16
    go_wp2_with (first
      | (refine wpList_alloc_agg rfl 24 rfl zeroD.cells zeroR ?_)
      | (go_at_call 37; (with_reducible refine (hw _).mono ?_); clear hw; rintro e w1 ⟨v, rfl, hown, hb1⟩; have hbr1 := hbr0.below hb1 hbr0.lt; obtain ⟨p, c, rfl, hnc, _⟩ := id (RV.of_own hown); obtain ⟨b, off, rfl, _, _, hcell⟩ := (RV.of_own hown).at1 0 (sV z) rfl; rw [Nat.add_zero, sV, ← HZ.out] at hcell; have hrr := (RV.of_own hown).mono (G' := fun b => b < w1.heap.size) (fun k hk _ => hk); rw [List.length_cons] at hnc)
      | (go_at_call 38; (with_reducible refine (hnm _).mono ?_); clear hnm; rintro e w2 ⟨rfl, hb2⟩; have hbr2 := hbr1.below hb2 hbr1.lt; have hrr2 := hrr.below hb2 (fun k _ hk => hk))
      | (go_at_call 39; refine (hra _ _ _ (rv_tail hrr2)).mono ?_; clear hra; rintro e w3 ⟨xv, rfl, hxv, hb3⟩; have hbr3 := hbr2.below hb3 hbr2.lt)
      | (go_at_call 29; refine (hbu _ _ _ hxv).mono ?_; clear hbu; rintro e w4 ⟨rfl, hb4⟩; have hbr4 := hbr3.below hb4 hbr3.lt)
      | (refine wpList_store_row rfl 24 _ _ rfl w.heap.size D.cells rfl rfl 24 _ hbr4 (sizeD _) rfl (oneD _) ?_))
    all_goals refine bodyPost_ret (results_row_tmp rfl _ _ w.heap.size 24 D.cells (0, 0) _ rfl (hbr4.row _) Tryd.underlying24 rfl (sizeD _)) rfl ?_
    all_goals exact ⟨rfl, (below_pre (below_pre (below_pre (below_pre hb0 hb1) hb2) hb3) hb4).trans (foot_row _ (Nat.le_refl _))⟩
  · have ty : ((y : Int) != 0) = true := by simp; omega
    clear hbu
    go_enter Tryd.func16, Tryd.ntmps16
    go_wp2_with (first
      | (refine wpList_alloc_agg rfl 24 rfl zeroD.cells zeroR ?_)
      | (go_at_call 37; (with_reducible refine (hw _).mono ?_); clear hw; rintro e w1 ⟨v, rfl, hown, hb1⟩; have hbr1 := hbr0.below hb1 hbr0.lt; obtain ⟨p, c, rfl, hnc, _⟩ := id (RV.of_own hown); obtain ⟨b, off, rfl, _, _, hcell⟩ := (RV.of_own hown).at1 0 (sV z) rfl; rw [Nat.add_zero, sV, ← HZ.out] at hcell; have hrr := (RV.of_own hown).mono (G' := fun b => b < w1.heap.size) (fun k hk _ => hk); rw [List.length_cons] at hnc)
      | (go_at_call 38; (with_reducible refine (hnm _).mono ?_); clear hnm; rintro e w2 ⟨rfl, hb2⟩; have hbr2 := hbr1.below hb2 hbr1.lt; have hrr2 := hrr.below hb2 (fun k _ hk => hk))
      | (go_at_call 39; refine (hra _ _ _ (rv_tail hrr2)).mono ?_; clear hra; rintro e w3 ⟨xv, rfl, hxv, hb3⟩; have hbr3 := hbr2.below hb3 hbr2.lt)
      | (refine wpList_store_row rfl 24 _ _ rfl w.heap.size zeroD.cells rfl rfl 24 _ hbr3 (sizeD _) rfl (oneD _) ?_))
    all_goals refine bodyPost_ret (results_row_tmp rfl _ _ w.heap.size 24 zeroD.cells (0, 0) _ rfl (hbr3.row _) Tryd.underlying24 rfl (sizeD _)) rfl ?_
    all_goals exact ⟨rfl, (below_pre (below_pre (below_pre hb0 hb1) hb2) hb3).trans (foot_row _ (Nat.le_refl _))⟩
theorem Parse_any : Calls Tryd.prog 16 #[.string s] w fun e w' => e = .returned (.tuple #[(parseD s.data.toList).1.val, .int .i64 ((parseD s.data.toList).2 : Nat)]) ∧ Below w.heap.size w w' := by
  unfold parseD
  cases hD : wordsGo [] s.data.toList with
  | nil => exact Parse_none s hs w hD
  | cons z ws =>
    by_cases h0 : opOf z = 0
    · simp only [if_pos h0]
      exact Parse_word s hs w z ws hD h0
    · simp only [if_neg h0]
      exact Parse_rest s hs w z ws hD h0 _ _ rfl
end
end Go.Proofs.YtbjmdcjoaapmiaaDoor
