/- The contract of package sets' iterator: it yields the members, rising, as far as whoever ranges goes on. -/
import Derived.RangeFuncNested
import Derived.RangeFuncBound
import Derived.RangeFuncCalls
import Derived.RangeFuncLeaves
import Derived.RangeFuncBox
import Derived.Shelf.Abstract
import Derived.Shelf.RegionOpen
import Derived.OwnWalkIn
import Derived.TacticsInMore
import Derived.LoopNIn
import Derived.LoopIn
import Derived.Maps.AppendAt
import Derived.Test.YtjdklmglljhjhaaDoorW7
namespace Go.Proofs.YtjdklmglljhjhaaDoor
open Go.RowKit Go.Shelf
attribute [local go_sem] Oper.semAt_some

/-- A list of members as integers. -/
def ints (l : List (Fin 64)) : List Int := l.map fun x => (x.val : Int)
theorem ints_snoc (l : List (Fin 64)) (x : Fin 64) : ints (l ++ [x]) = ints l ++ [(x.val : Int)] := by simp [ints]
theorem ints_len (l : List (Fin 64)) : (ints l).length = l.length := by simp [ints]

theorem testBit_put0 (r c j : Nat) (hj : j < 64) : (putN r c false).testBit j = (!decide (j = c) && r.testBit j) := by
  rw [putN, testBit_bitsOf]
  by_cases e : j = c
  · subst e; simp
  · have : ¬ (j : Int) = (c : Int) := by omega
    simp [hj, e, this]
theorem pop_core (r c : Nat) (hc : r.testBit c = true) (hl : ∀ j, j < c → r.testBit j = false) : ∀ k, k ≤ 64 → c < k → memL r k = (c : Int) :: memL (putN r c false) k
  | 0, _, h => by omega
  | k + 1, h6, h => by
    by_cases e : c = k
    · subst e
      rw [memL_yes r c hc, memL_none r c hl, memL_none (putN r c false) (c + 1)]
      · rfl
      · intro j hj
        rw [testBit_put0 r c j (by omega)]
        by_cases ej : j = c
        · simp [ej]
        · rw [hl j (by omega)]; simp
    · have ih := pop_core r c hc hl k (by omega) (by omega)
      rw [memL_succ, memL_succ, ih, testBit_put0 r c k (by omega)]
      have ne : ¬ k = c := fun h => e h.symm
      simp only [ne, decide_false, Bool.not_false, Bool.true_and]
      split <;> rfl
theorem memL_pop (r : Nat) (h0 : r ≠ 0) (h : r < 18446744073709551616) : ∃ c : Nat, c < 64 ∧ leastN r = (c : Int) ∧ memL r 64 = (c : Int) :: memL (putN r c false) 64 := by
  obtain ⟨h1, h2, h3⟩ := low_bits r h0 h
  exact ⟨_, h2, leastN_ctz r h0 h, pop_core r _ h1 h3 64 (Nat.le_refl _) h2⟩
theorem memL_zero : memL 0 64 = [] := memL_none 0 64 (fun j _ => by simp)

theorem tab_below {n₀ : Nat} {tab : List Nat} {W W' : World} (h : TabAt 0 tab W) (hb : Below n₀ W W') (h0 : 0 < n₀) : TabAt 0 tab W' := fun j hj => (hb.cell (p := ⟨0, j, none⟩) h0).trans (h j hj)

set_option maxRecDepth 100000 in
set_option maxHeartbeats 1000000 in
/-- For every loop body that keeps what lay below n₀: the members, rising. -/
theorem each1_in (m : Nat) (hm : 1 ≤ m) (l Bn n₀ : Nat) (n : Nat) (hn : n < 18446744073709551616) (J Jx : List (Fin 64) → World → Prop)
    (hY : ∀ pre x W, J pre W → pre.length < 64 → YieldAt Fence.wide (m - 1) Tryd.prog l #[.int .i64 (x.val : Int)] W fun e W' =>
      (e = .returned (.bool true) ∧ J (pre ++ [x]) W' ∧ Below n₀ W W') ∨ (e = .returned (.bool false) ∧ Jx (pre ++ [x]) W'))
    (W : World) (hBn : W.cell? ⟨Bn, 0, none⟩ = some (.int .u64 n)) (hT : TabAt 0 Lib.deBruijn64tab W) (h00 : 0 < n₀) (h0 : J [] W) :
    CallsIn Fence.wide m Tryd.prog 37 #[.func (.yield l) #[] #[], .pointer (some ⟨Bn, 0, none⟩)] W fun e W' => (∃ v, e = .returned v) ∧
      ((∃ ys, ints ys = memL n 64 ∧ J ys W') ∨ (∃ pre, ints pre <+: memL n 64 ∧ Jx pre W')) := by
  have HT := Lib.hid hT
  clear hT
  refine callsIn_of_wp Tryd.func37 rfl trivial ?_ rfl
  simp only [Tryd.ntmps37, List.size_toArray, List.length_cons, List.length_nil, Nat.reduceAdd, Nat.reduceSub, Array.replicate_succ, Array.replicate_zero, List.push_toArray, List.append_toArray, List.nil_append, List.cons_append]
  gi_wp2
  gi_loopw [3, 4] (fun p _ wr => ∃ (pre : List (Fin 64)) (r : Nat), p = .int .u64 r ∧ r < 18446744073709551616 ∧ memL n 64 = ints pre ++ memL r 64 ∧ Hid (TabAt 0 Lib.deBruijn64tab wr) ∧ J pre wr)
    (fun p _ _ => (memL (intOf p).toNat 64).length)
  case atStart =>
    exact ⟨[], n, rfl, hn, rfl, HT, h0⟩
  case round =>
    obtain ⟨pre, r, rfl, hr, hx, HTr, hJs⟩ := hrel
    have Hx := Lib.hid hx
    clear hx
    by_cases hr0 : r = 0
    · have hb : ((r : Int) != 0) = false := by simp [hr0]
      subst hr0
      gi_wp2
      go_end0
      exact ⟨⟨_, rfl⟩, .inl ⟨pre, by rw [Hx.out, memL_zero, List.append_nil], hJs⟩⟩
    · have hb : ((r : Int) != 0) = true := by simp; omega
      obtain ⟨c, hc, hle, hpop⟩ := memL_pop r hr0 hr
      have Hpop := Lib.hid hpop
      clear hpop
      have hlen : pre.length < 64 := by
        have h1 := memL_len n 64
        rw [Hx.out, Hpop.out, List.length_append, ints_len, List.length_cons] at h1
        omega
      have Hle := Lib.hid hle
      clear hle
      have hlt := putN_lt r c false
      obtain ⟨fn, tmps, assign, body, hy, hR⟩ := hY pre ⟨c, hc⟩ wr hJs hlen
      dsimp only at hy
      gi_wp2_with (first | (refine ⟨trivial, ?_⟩; gi_at_call 20; refine (callsIn_wide.2 (Least_any r hr _ HTr.out)).mono ?_; rintro e w1 ⟨rfl, rfl⟩; rw [Hle.out]) | (refine ⟨trivial, ?_⟩; gi_at_call 16; refine (callsIn_wide.2 (Without_any r hr _ _)).mono ?_; rintro e w1 ⟨rfl, rfl⟩))
      refine hR.mono ?_
      rintro e W3 (⟨rfl, hJ3, hk3⟩ | ⟨rfl, hJx3⟩)
      · gi_wp2_with (refine ⟨trivial, ?_⟩; gi_at_call 16; refine (callsIn_wide.2 (Without_any r hr _ _)).mono ?_; rintro e w1 ⟨rfl, rfl⟩)
        go_roundw
        case rel => exact ⟨pre ++ [⟨c, hc⟩], putN r c false, rfl, hlt, by rw [Hx.out, Hpop.out, ints_snoc, List.append_assoc]; rfl, Lib.hid (tab_below HTr.out hk3 h00), hJ3⟩
        case measure => simp only [intOf, Int.toNat_natCast]; rw [Hpop.out]; simp
      · gi_wp2
        refine bodyPost_ret (results_none rfl _ _ _) rfl ?_
        exact ⟨⟨_, rfl⟩, .inr ⟨pre ++ [⟨c, hc⟩], ⟨memL (putN r c false) 64, by rw [Hx.out, Hpop.out, ints_snoc, List.append_assoc]; rfl⟩, hJx3⟩⟩

set_option maxHeartbeats 400000 in
/-- Each: the set is boxed; the function value captures the box. -/
theorem Each_any (n : Nat) (w : World) :
    Calls Tryd.prog 33 #[.int .u64 n] w fun e w' => e = .returned (.func (.func 37) #[] #[.pointer (some ⟨w.heap.size, 0, none⟩)]) ∧ w.alloc (.cells #[.int .u64 n] 23) = w' := by
  have hmf : ∀ (fn : Fn) (first cap : Array Value) (w : World), (Instr.makeFunc fn first cap).run Tryd.prog w = .ok (.func fn first cap) w := fun _ _ _ _ => rfl
  go_enter Tryd.func33, Tryd.ntmps33
  go_wp2
  go_ret
  exact ⟨rfl, rfl⟩

theorem each_stops (m : Nat) (hm : 1 ≤ m) (Bn n₀ : Nat) (n : Nat) (hn : n < 18446744073709551616) (w : World) (hBn : Bn < w.heap.size) (_hn₀ : n₀ ≤ w.heap.size) (h00 : 0 < n₀)
    (hc : w.cell? ⟨Bn, 0, none⟩ = some (.int .u64 n)) (hT : TabAt 0 Lib.deBruijn64tab w) :
    SeqStopsK Fence.wide m Tryd.prog 37 #[.pointer (some ⟨Bn, 0, none⟩)] (fun x : Fin 64 => #[Value.int .i64 (x.val : Int)]) (Below n₀) (fun ys => ints ys = memL n 64) (fun pre => ints pre <+: memL n 64) 64 w := fun l J Jx W hW _ _ hY h0 =>
  each1_in m hm l Bn n₀ n hn J Jx hY W ((hW.cell (p := ⟨Bn, 0, none⟩) hBn).trans hc) (tab_below hT hW (by omega)) h00 h0
end Go.Proofs.YtjdklmglljhjhaaDoor
