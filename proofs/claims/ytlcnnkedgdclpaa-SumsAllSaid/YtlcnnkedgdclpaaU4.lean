/- The contracts of Sum, of its reference, and of the statements' own few and back, over slices of uint64. -/
import Derived.Test.YtlcnnkedgdclpaaU3
import Derived.WalkSpells
import Derived.Laws.CopyOwn
import Derived.Below
import Derived.Deep.QuietTactic
import Derived.BigQuiet
import Derived.Deep.Onto
import Derived.OpenShut
namespace Go.Proofs.Ytlcnnkedgdclpaa
open Go.RowKit

/-- A number as a value. -/
def uV (n : Nat) : Value := .int .u64 (n : Int)

/-- A slice of uint64s that reads as a list. -/
def ReadsU (w : World) (v : Value) (xs : List Nat) : Prop :=
  ∃ p c, v = .slice p xs.length c ∧ (xs = [] ∨ ∃ b off, p = some ⟨b, off, none⟩ ∧ b < w.heap.size ∧ ∀ j, j < xs.length → w.cell? ⟨b, off + j, none⟩ = some (.int .u64 ((xs.getD j 0 : Nat) : Int)))
theorem ReadsU.below {w w' : World} {v : Value} {xs : List Nat} {B : Nat} (h : ReadsU w v xs) (hb : Below B w w') (hB : w.heap.size ≤ B) : ReadsU w' v xs := by
  obtain ⟨p, c, rfl, h | ⟨b, off, rfl, hlt, hc⟩⟩ := h
  · exact ⟨p, c, rfl, .inl h⟩
  · refine ⟨_, c, rfl, .inr ⟨b, off, rfl, Nat.lt_of_lt_of_le hlt hb.size, fun j hj => ?_⟩⟩
    rw [hb.cell (p := ⟨b, off + j, none⟩) (Nat.lt_of_lt_of_le hlt hB)]
    exact hc j hj
theorem ReadsU.nil (w : World) : ReadsU w (.slice none 0 0) [] := ⟨none, 0, rfl, .inl rfl⟩

theorem infoU : (Try.prog.info? 22).map (fun i => (i.zero, i.size, i.bytes)) = some (some (.int .u64 0), 1, 8) := by kernel_rfl

theorem ReadsU.of_own {w : World} {B : Nat} {v : Value} {xs : List Nat} (h : w.ownsRow B 22 1 v xs.length (xs.map uV)) : ReadsU w v xs := by
  obtain ⟨hl, ⟨rfl, h0⟩ | ⟨g, cap, cur, rfl, hb, hg, hn, hm, hs, ht⟩⟩ := h
  · have : xs = [] := List.length_eq_zero_iff.1 h0
    subst this
    exact ⟨none, 0, rfl, .inl rfl⟩
  · refine ⟨_, cap, rfl, .inr ⟨g, 0, rfl, (Array.getElem?_eq_some_iff.1 hg).1, fun j hj => ?_⟩⟩
    rw [cell_of_row w g _ cur 22 (0, 0) hg, Nat.zero_add]
    have h1 : (cur.toList.take (xs.length * 1))[j]? = (xs.map uV)[j]? := by rw [ht]
    rw [Nat.mul_one, List.getElem?_take_of_lt hj] at h1
    rw [Array.getElem?_toList] at h1
    rw [h1]
    simp [hj, uV]
theorem ownsRow_below {w w' : World} {base B : Nat} {e : TypeId} {size : Nat} {v : Value} {n : Nat} {xs : List Value} (h : w.ownsRow base e size v n xs) (hb : Below B w w') (hB : w.heap.size ≤ B) : w'.ownsRow base e size v n xs := by
  obtain ⟨hl, h0 | ⟨g, cap, cur, rfl, hbb, hg, rest⟩⟩ := h
  · exact ⟨hl, .inl h0⟩
  · refine ⟨hl, .inr ⟨g, cap, cur, rfl, hbb, ?_, rest⟩⟩
    have := (Array.getElem?_eq_some_iff.1 hg).1
    rw [hb.block g (by omega)]
    exact hg

/-- The saturated sum of a list. -/
def satN (n : Nat) : Nat := if n < 18446744073709551616 then n else 18446744073709551615
def sumS (xs : List Nat) : Nat := satN xs.sum
theorem addS_sat (a b : Nat) : addS (satN a) b = satN (a + b) := by
  unfold addS satN
  split
  · rfl
  · rw [if_neg (show ¬ a + b < 18446744073709551616 by omega)]
    split <;> omega
theorem sum_snoc (xs : List Nat) (x : Nat) : (xs ++ [x]).sum = xs.sum + x := by simp
theorem sumS_snoc (xs : List Nat) (x : Nat) : sumS (xs ++ [x]) = addS (sumS xs) x := by
  unfold sumS; rw [sum_snoc, addS_sat]
theorem sum_rev (xs : List Nat) : xs.reverse.sum = xs.sum := by
  induction xs with
  | nil => rfl
  | cons x r ih => rw [List.reverse_cons, sum_snoc, ih, List.sum_cons, Nat.add_comm]
theorem sumS_rev (xs : List Nat) : sumS xs.reverse = sumS xs := by unfold sumS; rw [sum_rev]
theorem sumS_lt (xs : List Nat) : sumS xs < 18446744073709551616 := by unfold sumS satN; split <;> omega
theorem sumS_nil : sumS [] = 0 := by decide
theorem take_snoc' (xs : List Nat) (k : Nat) (h : k < xs.length) : xs.take (k + 1) = xs.take k ++ [xs[k]?.getD 0] := by
  rw [List.take_succ_eq_append_getElem h]; simp [h]
theorem sumS_take (xs : List Nat) (k : Nat) (h : k < xs.length) : addS (sumS (xs.take k)) (xs.getD k 0) = sumS (xs.take (k + 1)) := by
  rw [List.getD_eq_getElem?_getD, take_snoc' xs k h, sumS_snoc]
theorem getD_lt (xs : List Nat) (h : ∀ x ∈ xs, x < 18446744073709551616) (k : Nat) : xs.getD k 0 < 18446744073709551616 := by
  rw [List.getD_eq_getElem?_getD]
  by_cases hk : k < xs.length
  · rw [List.getElem?_eq_getElem hk]; exact h _ (List.getElem_mem hk)
  · rw [List.getElem?_eq_none (by omega)]; decide

set_option maxHeartbeats 400000 in
theorem Sum_any (v : Value) (xs : List Nat) (hx : xs.length ≤ maxLen) (hb : ∀ x ∈ xs, x < 18446744073709551616) (w : World) (h : ReadsU w v xs) :
    Calls Try.prog 19 #[v] w fun e w' => e = .returned (.int .u64 (sumS xs)) ∧ w = w' := by
  unfold maxLen at hx
  obtain ⟨p, c, rfl, h⟩ := h
  by_cases h0 : xs = []
  · subst h0
    clear h hb
    go_enter Try.func19, Try.ntmps19
    go_wp2
    refine wp_loop_rounds 1 ?_
    rw [rounds_succ]
    go_wp2
    go_ret
    exact ⟨rfl, rfl⟩
  · obtain ⟨b, off, rfl, hlt, hc⟩ := h.resolve_left h0
    have Hc := Lib.hid hc
    have Hb := Lib.hid hb
    clear hc h hb
    go_enter Try.func19, Try.ntmps19
    go_wp2
    go_loop [3, 5, 8] (fun s _ t => ∃ k : Nat, k ≤ xs.length ∧ t = .int .i64 k ∧ s = .int .u64 (sumS (xs.take k))) (fun _ _ t => xs.length - (intOf t).toNat)
    case atStart => exact ⟨0, by omega, rfl, rfl⟩
    case round =>
      obtain ⟨k, hk, rfl, rfl⟩ := hrel
      by_cases hlt2 : k < xs.length
      · have hcell := Hc.out k hlt2
        have hs := sumS_take xs k hlt2
        have Hx := Lib.hid (getD_lt xs Hb.out k)
        obtain ⟨x, hx⟩ : ∃ x, xs.getD k 0 = x := ⟨_, rfl⟩
        rw [hx] at hcell hs Hx
        have Hs := Lib.hid hs
        clear hs hx
        go_wp2_with (go_at_call 7; refine (Add_any _ _ (sumS_lt _) Hx.out _).mono ?_; rintro e w1 ⟨rfl, rfl⟩; rw [Hs.out])
        go_round
        case rel => exact ⟨k + 1, by omega, by go_num, rfl⟩
        case measure => simp [intOf]; omega
      · obtain rfl : k = xs.length := by omega
        go_wp2
        go_ret
        exact ⟨ret_u64 (by simp), rfl⟩

set_option maxHeartbeats 400000 in
theorem RSum_any (v : Value) (xs : List Nat) (hx : xs.length ≤ maxLen) (hb : ∀ x ∈ xs, x < 18446744073709551616) (w : World) (h : ReadsU w v xs) :
    Calls Try.prog 20 #[v] w fun e w' => e = .returned (.int .u64 (sumS xs)) ∧ w = w' := by
  unfold maxLen at hx
  obtain ⟨p, c, rfl, h⟩ := h
  by_cases h0 : xs = []
  · subst h0
    clear h hb
    go_enter Try.func20, Try.ntmps20
    go_wp2
    refine wp_loop_rounds 1 ?_
    rw [rounds_succ]
    go_wp2
    go_ret
    exact ⟨rfl, rfl⟩
  · obtain ⟨b, off, rfl, hlt, hc⟩ := h.resolve_left h0
    have Hc := Lib.hid hc
    have Hb := Lib.hid hb
    clear hc h hb
    go_enter Try.func20, Try.ntmps20
    go_wp2
    go_loop [3, 4] (fun s t => ∃ k : Nat, k ≤ xs.length ∧ t = .int .i64 k ∧ s = .int .u64 (sumS (xs.take k))) (fun _ t => xs.length - (intOf t).toNat)
    case atStart => exact ⟨0, by omega, rfl, rfl⟩
    case round =>
      obtain ⟨k, hk, rfl, rfl⟩ := hrel
      by_cases hlt2 : k < xs.length
      · have hcell := Hc.out k hlt2
        have hs := sumS_take xs k hlt2
        have Hx := Lib.hid (getD_lt xs Hb.out k)
        obtain ⟨x, hx⟩ : ∃ x, xs.getD k 0 = x := ⟨_, rfl⟩
        rw [hx] at hcell hs Hx
        have Hs := Lib.hid hs
        clear hs hx
        go_wp2_with (go_at_call 8; refine (RAdd_any _ _ (sumS_lt _) Hx.out _).mono ?_; rintro e w1 ⟨rfl, rfl⟩; rw [Hs.out])
        go_round
        case rel => exact ⟨k + 1, by omega, by go_num, rfl⟩
        case measure => simp [intOf]; omega
      · obtain rfl : k = xs.length := by omega
        go_wp2
        go_ret
        exact ⟨ret_u64 (by simp), rfl⟩

theorem few_snoc (xs : List Nat) (k : Nat) (h : k < xs.length) : (xs.take k).map uV ++ [Value.int .u64 ((xs.getD k 0 : Nat) : Int)] = (xs.take (k + 1)).map uV := by
  rw [take_snoc' xs k h, List.map_append, List.getD_eq_getElem?_getD]; rfl

set_option maxHeartbeats 400000 in
theorem few_any (v : Value) (xs : List Nat) (hx : xs.length ≤ maxLen) (w : World) (h : ReadsU w v xs) :
    Calls Try.prog 18 #[v] w fun e w' => ∃ v', e = .returned v' ∧ w'.ownsRow w.heap.size 22 1 v' (xs.take 50).length ((xs.take 50).map uV) ∧ Below w.heap.size w w' := by
  unfold maxLen at hx
  obtain ⟨i0, hi, hz0, hz1, hz2⟩ := info_parts infoU
  obtain ⟨p, c, rfl, h⟩ := h
  by_cases h0 : xs = []
  · subst h0
    clear h
    go_enter Try.func18, Try.ntmps18
    go_wp2
    refine wp_loop_rounds 1 ?_
    rw [rounds_succ]
    go_wp2
    go_ret
    exact ⟨_, rfl, World.ownsRow_nil _ _ _ _, Below.refl _ _⟩
  · obtain ⟨b, off, rfl, hlt, hc⟩ := h.resolve_left h0
    have Hc := Lib.hid hc
    clear hc h
    go_enter Try.func18, Try.ntmps18
    go_wp2
    go_loopw [3, 4] (fun v t wr => ∃ k : Nat, k ≤ xs.length ∧ k ≤ 50 ∧ t = .int .i64 k ∧ wr.ownsRow w.heap.size 22 1 v k ((xs.take k).map uV) ∧ Below w.heap.size w wr) (fun _ t _ => xs.length - (intOf t).toNat)
    case atStart => exact ⟨0, by omega, by omega, rfl, World.ownsRow_nil _ _ _ _, Below.refl _ _⟩
    case round =>
      obtain ⟨k, hk, hk9, rfl, hown, hb⟩ := hrel
      by_cases hlt2 : k < xs.length
      · by_cases hlt9 : k < 50
        · have hcell := (hb.cell (p := ⟨b, off + k, none⟩) hlt).trans (Hc.out k hlt2)
          have hs := few_snoc xs k hlt2
          obtain ⟨x, hx⟩ : ∃ x, xs.getD k 0 = x := ⟨_, rfl⟩
          rw [hx] at hcell hs
          have Hs := Lib.hid hs
          clear hs hx
          go_wp2_with (at_builtin; refine wpList_append_own _ rfl _ _ 26 rfl w.heap.size 22 i0 (.int .u64 0) 1 8 Try.underlying26 hi hz0 hz1 hz2 rfl (by decide) _ _ _ rfl (hown.alloc _) ⟨wr.heap.size, 0, none⟩ 1 1 [.int .u64 x] rfl rfl (cell_one_new _ _ _) (by simp [Value.oneCell']) (by unfold maxLen; omega) (by omega) (by have := hb.size; simp; omega) ?_; intro v' w1 hown' hgrow _; rw [Hs.out] at hown')
          go_roundw
          case rel =>
            refine ⟨k + 1, by omega, by omega, by go_num, hown', ?_⟩
            refine (hb.alloc hb.size _).grown hgrow (by have := hb.size; simp; omega) ?_
            intro j hj
            exact (hown.lt j hj).1
          case measure => simp [intOf]; omega
        · obtain rfl : k = 50 := by omega
          go_wp2
          go_ret
          exact ⟨_, rfl, by rw [List.length_take, Nat.min_eq_left (by omega)]; exact hown, hb⟩
      · obtain rfl : k = xs.length := by omega
        rw [List.take_length] at hown
        go_wp2
        go_ret
        refine ⟨_, rfl, ?_, hb⟩
        rw [List.take_of_length_le hk9]
        exact hown

theorem back_snoc (xs : List Nat) (k : Nat) (h : k < xs.length) : (xs.reverse.take k).map uV ++ [Value.int .u64 ((xs.getD (xs.length - 1 - k) 0 : Nat) : Int)] = (xs.reverse.take (k + 1)).map uV := by
  have h1 : k < xs.reverse.length := by rw [List.length_reverse]; exact h
  rw [take_snoc' xs.reverse k h1, List.map_append, List.getD_eq_getElem?_getD, List.getElem?_reverse h]; rfl

set_option maxHeartbeats 400000 in
theorem back_any (v : Value) (xs : List Nat) (hx : xs.length ≤ 50) (w : World) (h : ReadsU w v xs) :
    Calls Try.prog 21 #[v] w fun e w' => ∃ v', e = .returned v' ∧ w'.ownsRow w.heap.size 22 1 v' xs.reverse.length (xs.reverse.map uV) ∧ Below w.heap.size w w' := by
  obtain ⟨i0, hi, hz0, hz1, hz2⟩ := info_parts infoU
  obtain ⟨p, c, rfl, h⟩ := h
  by_cases h0 : xs = []
  · subst h0
    clear h
    go_enter Try.func21, Try.ntmps21
    go_wp2
    refine wp_loop_rounds 1 ?_
    rw [rounds_succ]
    go_wp2
    go_ret
    exact ⟨_, rfl, World.ownsRow_nil _ _ _ _, Below.refl _ _⟩
  · obtain ⟨b, off, rfl, hlt, hc⟩ := h.resolve_left h0
    have Hc := Lib.hid hc
    clear hc h
    go_enter Try.func21, Try.ntmps21
    go_wp2
    go_loopw [3, 4] (fun v t wr => ∃ k : Nat, k ≤ xs.length ∧ t = .int .i64 ((xs.length : Int) - 1 - k) ∧ wr.ownsRow w.heap.size 22 1 v k ((xs.reverse.take k).map uV) ∧ Below w.heap.size w wr) (fun _ t _ => (intOf t + 1).toNat)
    case atStart => exact ⟨0, by omega, by simp, World.ownsRow_nil _ _ _ _, Below.refl _ _⟩
    case round =>
      obtain ⟨k, hk, rfl, hown, hb⟩ := hrel
      by_cases hlt2 : k < xs.length
      · obtain ⟨m, hm⟩ : ∃ m : Nat, xs.length - 1 - k = m := ⟨_, rfl⟩
        have hmi : (xs.length : Int) - 1 - k = (m : Int) := by omega
        have hmi2 : (xs.length : Int) - 1 - ((k + 1 : Nat) : Int) = (m : Int) - 1 := by omega
        have hml : m < xs.length := by omega
        have hcell := (hb.cell (p := ⟨b, off + m, none⟩) hlt).trans (Hc.out m hml)
        have hs := back_snoc xs k hlt2
        rw [hm] at hs
        obtain ⟨x, hx⟩ : ∃ x, xs.getD m 0 = x := ⟨_, rfl⟩
        rw [hx] at hcell hs
        have Hs := Lib.hid hs
        have Hmi2 := Lib.hid hmi2
        clear hs hx hm hmi2
        rw [hmi]
        clear hmi
        go_wp2_with (at_builtin; refine wpList_append_own _ rfl _ _ 26 rfl w.heap.size 22 i0 (.int .u64 0) 1 8 Try.underlying26 hi hz0 hz1 hz2 rfl (by decide) _ _ _ rfl (hown.alloc _) ⟨wr.heap.size, 0, none⟩ 1 1 [.int .u64 x] rfl rfl (cell_one_new _ _ _) (by simp [Value.oneCell']) (by unfold maxLen; omega) (by omega) (by have := hb.size; simp; omega) ?_; intro v' w1 hown' hgrow _; rw [Hs.out] at hown')
        go_roundw
        case rel =>
          refine ⟨k + 1, by omega, by rw [Hmi2.out], hown', ?_⟩
          refine (hb.alloc hb.size _).grown hgrow (by have := hb.size; simp; omega) ?_
          intro j hj
          exact (hown.lt j hj).1
        case measure => simp [intOf]
      · obtain rfl : k = xs.length := by omega
        rw [List.take_of_length_le (by simp)] at hown
        go_wp2
        go_ret
        refine ⟨_, rfl, ?_, hb⟩
        rw [List.length_reverse]
        exact hown

theorem all_snoc (ys : List Nat) (x : Nat) : ys.map uV ++ [Value.int .u64 (x : Int)] = (ys ++ [x]).map uV := by rw [List.map_append]; rfl

set_option maxRecDepth 100000 in
set_option maxHeartbeats 1600000 in
theorem All_walk (v : Value) (xs : List Nat) (hx : xs.length ≤ maxLen) (hbd : ∀ x ∈ xs, x < 18446744073709551616) (more : Nat) (hmo : more < 18446744073709551616) (w : World) (hR : ReadsU w v xs) :
    Calls Try.prog 4 #[v, .int .u64 more] w fun e w' => e = .returned (.bool true) ∧ Below w.heap.size w w' := by
  obtain ⟨i0, hi, hz0, hz1, hz2⟩ := info_parts infoU
  have HR := Lib.hid hR
  have HM := Lib.hid hmo
  clear hR hmo
  obtain ⟨ys, hys⟩ : ∃ ys, xs.take 50 = ys := ⟨_, rfl⟩
  have hl5 : ys.length ≤ 50 := by rw [← hys, List.length_take]; omega
  have Hy := Lib.hid (fun x (h : x ∈ ys) => hbd x (List.mem_of_mem_take (by rw [hys]; exact h)))
  have Hl9 := Lib.hid (show ys.length ≤ maxLen by unfold maxLen; omega)
  have Hlr := Lib.hid (show ys.reverse.length ≤ maxLen by rw [List.length_reverse]; unfold maxLen; omega)
  have Hys := Lib.hid hys
  have Hx := Lib.hid hx
  clear hbd hys hx
  obtain ⟨s, hs⟩ : ∃ s, sumS ys = s := ⟨_, rfl⟩
  obtain ⟨m, hm⟩ : ∃ m, addS s more = m := ⟨_, rfl⟩
  have hsm : s ≤ m := by
    rw [← hm]
    have h1 := sumS_lt ys
    have h2 := HM.out
    rw [hs] at h1
    unfold addS
    split <;> omega
  have Hsl := Lib.hid (show s < 18446744073709551616 by rw [← hs]; exact sumS_lt ys)
  have Hsr := Lib.hid (show sumS ys.reverse = s by rw [sumS_rev, hs])
  have Hsa := Lib.hid (show sumS (ys ++ [more]) = m by rw [sumS_snoc, hs, hm])
  have Hs := Lib.hid hs
  have Hm := Lib.hid hm
  clear hs hm
  go_enter Try.func4, Try.ntmps4
  go_wp2_with fail
  refine (few_any v xs Hx.out _ HR.out).mono ?_
  rintro e w1 ⟨v1, rfl, hown, hb1⟩
  rw [Hys.out] at hown
  have HR1 := Lib.hid (ReadsU.of_own hown)
  have hs1 := hb1.size
  have HO := Lib.hid hown
  clear hown
  go_wp2_with fail
  refine (Sum_any v1 ys Hl9.out Hy.out _ HR1.out).mono ?_
  rintro e w2 ⟨rfl, rfl⟩
  rw [Hs.out]
  go_wp2_with fail
  refine (RSum_any v1 ys Hl9.out Hy.out _ HR1.out).mono ?_
  rintro e w2 ⟨rfl, rfl⟩
  rw [Hs.out]
  have hne1 := neq_self (s : Int)
  go_wp2_with fail
  refine (back_any v1 ys hl5 _ HR1.out).mono ?_
  rintro e w2 ⟨v2, rfl, hown2, hb2⟩
  have HR2 := Lib.hid (ReadsU.of_own hown2)
  have HO2 := Lib.hid (ownsRow_below HO.out hb2 (Nat.le_refl _))
  have hs2 := hb2.size
  clear hown2
  go_wp2_with fail
  refine (Sum_any v2 ys.reverse Hlr.out (fun x h => Hy.out x (List.mem_reverse.1 h)) _ HR2.out).mono ?_
  rintro e w3 ⟨rfl, rfl⟩
  rw [Hsr.out]
  go_wp2_with fail
  refine (awake_any _).mono ?_
  rintro e w3 ⟨rfl, rfl⟩
  have hown := HO2.out
  go_wp2_with (at_builtin; refine wpList_append_own _ rfl _ _ 26 rfl w.heap.size 22 i0 (.int .u64 0) 1 8 Try.underlying26 hi hz0 hz1 hz2 rfl (by decide) _ _ _ rfl (hown.alloc _) ⟨w2.heap.size, 0, none⟩ 1 1 [.int .u64 more] rfl rfl (cell_one_new _ _ _) (by simp [Value.oneCell']) (by unfold maxLen; omega) (by omega) (by simp; omega) ?_; intro v3 w3 hown3 hgrow _; rw [all_snoc] at hown3)
  refine (Sum_any v3 (ys ++ [more]) (by rw [List.length_append]; unfold maxLen; simp; omega) (fun x h => (List.mem_append.1 h).elim (Hy.out x) (fun h => by rw [List.mem_singleton.1 h]; exact HM.out)) _ (ReadsU.of_own (by rw [List.length_append]; exact hown3))).mono ?_
  rintro e w4 ⟨rfl, rfl⟩
  rw [Hsa.out]
  go_wp2_with fail
  refine (Add_any s more Hsl.out HM.out _).mono ?_
  rintro e w4 ⟨rfl, rfl⟩
  rw [Hm.out]
  go_wp2_with fail
  refine (Sum_any _ [] (by decide) (fun x h => by cases h) _ (ReadsU.nil _)).mono ?_
  rintro e w4 ⟨rfl, rfl⟩
  rw [sumS_nil]
  go_wp2
  go_ret
  refine ⟨rfl, ?_⟩
  refine ((hb1.trans (hb2.mono hb1.size)).alloc (by omega) _).grown hgrow (by simp; omega) ?_
  intro j hj
  exact (HO2.out.lt j hj).1

theorem wf_u64 {a : Int} (h : (Lit.int .u64 a).wf = true) : ∃ n : Nat, a = (n : Int) ∧ n < 18446744073709551616 := by
  have hb := bounds_u64 h
  exact ⟨a.toNat, by omega, by omega⟩
theorem getD_toNat (zs : List Int) (h : ∀ n ∈ zs, (Lit.int .u64 n).wf = true) (j : Nat) : (((zs.map Int.toNat).getD j 0 : Nat) : Int) = zs.getD j 0 := by
  rw [List.getD_eq_getElem?_getD, List.getD_eq_getElem?_getD, List.getElem?_map]
  by_cases hj : j < zs.length
  · rw [List.getElem?_eq_getElem hj]
    have := bounds_u64 (h _ (List.getElem_mem hj))
    simp; omega
  · rw [List.getElem?_eq_none (by omega)]; rfl
/-- A slice of uint64s that came in reads as a list of numbers. -/
theorem ReadsU.of_row {w : World} {a : Option Addr} {len cap : Nat} {zs : List Int}
    (h : (a = none ∧ len = 0 ∧ cap = 0 ∧ zs = []) ∨ ∃ x, a = some x ∧ len ≤ cap ∧ cap ≤ maxLen ∧ zs.length = cap ∧ (∀ i, i < zs.length → w.cell? (x.add i) = some (.int .u64 (zs.getD i 0))) ∧ ∀ n ∈ zs, (Lit.int .u64 n).wf = true) :
    ∃ xs : List Nat, xs.length ≤ maxLen ∧ (∀ x ∈ xs, x < 18446744073709551616) ∧ ReadsU w (.slice a len cap) xs := by
  rcases h with ⟨rfl, rfl, rfl, rfl⟩ | ⟨x, rfl, hl, hm, hz, hcell, hwz⟩
  · exact ⟨[], by decide, (fun _ h => (nomatch h)), ReadsU.nil w⟩
  · have hlen : ((zs.map Int.toNat).take len).length = len := by rw [List.length_take, List.length_map]; omega
    refine ⟨(zs.map Int.toNat).take len, by rw [hlen]; omega, ?_, some x, cap, by rw [hlen], ?_⟩
    · intro y hy
      obtain ⟨z, hz1, rfl⟩ := List.mem_map.1 (List.mem_of_mem_take hy)
      have := bounds_u64 (hwz z hz1)
      omega
    · by_cases h00 : len = 0
      · left; rw [h00]; rfl
      · right
        obtain ⟨b, off, rfl, hc⟩ := ints_at hcell (by omega)
        have hlt : b < w.heap.size := block_lt_of_cell (hc 0 (by omega))
        refine ⟨b, off, rfl, hlt, fun j hj => ?_⟩
        rw [hlen] at hj
        rw [hc j (by omega), ← getD_toNat zs hwz, List.getD_eq_getElem?_getD, List.getD_eq_getElem?_getD, List.getElem?_take_of_lt hj]
end Go.Proofs.Ytlcnnkedgdclpaa
