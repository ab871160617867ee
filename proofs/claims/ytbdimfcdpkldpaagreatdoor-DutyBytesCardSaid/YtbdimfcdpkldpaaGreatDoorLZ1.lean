/- A duty as a struct: what its cells are, what its variable reads. Small functions of duties and of their reference: intervals, powers of two, a cap rounded up, a number held, a level, the bits of a float. -/
import Derived.Test.YtbdimfcdpkldpaaGreatDoorLY1
import Derived.Test.YtbdimfcdpkldpaaGreatDoorLB
import Derived.Test.YtbdimfcdpkldpaaGreatDoorLK
import Derived.Test.YtbdimfcdpkldpaaGreatDoorLYM
import Derived.Laws.Externs
import GoSem.Extern.MathFloatBits
namespace Go.Proofs.YtbdimfcdpkldpaaGreatDoor
open Go.RowKit

theorem zeroYR : ∀ w, (zeroValue 27).run Tryz.prog w = .ok (.agg (zeroY.cells (.slice none 0 0) (.slice none 0 0))) w := Tryz.zeroValue27
theorem sizeY (d : Dut) (vp vs : Value) : (Tryz.prog.info? 27).map (·.size) = some (d.cells vp vs).size := by kernel_rfl
theorem oneY (d : Dut) (pp ps : Option Addr) (n c n' c' : Nat) : (d.cells (.slice pp n c) (.slice ps n' c')).all (·.oneCell') = true := by simp [Dut.cells, Value.oneCell']
theorem duty_at {w : World} {g : Nat} {t : TypeId} {d : Dut} {vp vs : Value} (h : Blk w g t (d.cells vp vs)) :
    w.cell? ⟨g, 0, none⟩ = some (.int .i64 d.cpus) ∧ w.cell? ⟨g, 1, none⟩ = some (.int .i64 d.threads) ∧ w.cell? ⟨g, 2, none⟩ = some (.int .i64 d.locks) ∧ w.cell? ⟨g, 3, none⟩ = some (.int .i64 d.cap) ∧ w.cell? ⟨g, 4, none⟩ = some (.int .u64 (d.boost : Int)) ∧ w.cell? ⟨g, 5, none⟩ = some (.float .f64 d.keep) ∧ w.cell? ⟨g, 6, none⟩ = some (.float .f64 d.ratio) ∧ w.cell? ⟨g, 7, none⟩ = some vp ∧ w.cell? ⟨g, 8, none⟩ = some vs :=
  ⟨h.cell 0, h.cell 1, h.cell 2, h.cell 3, h.cell 4, h.cell 5, h.cell 6, h.cell 7, h.cell 8⟩
theorem start_at {w : World} {g : Nat} {t : TypeId} {s : St} (h : Blk w g t #[.int .i64 s.prog, .int .i64 s.grade, .int .u64 (s.mask : Int)]) :
    w.cell? ⟨g, 0, none⟩ = some (.int .i64 s.prog) ∧ w.cell? ⟨g, 1, none⟩ = some (.int .i64 s.grade) ∧ w.cell? ⟨g, 2, none⟩ = some (.int .u64 (s.mask : Int)) := ⟨h.cell 0, h.cell 1, h.cell 2⟩
theorem RPP.drew {w : World} {G : Nat → Prop} {v : Value} {pss : List (List Deed)} (h : RPP w G v pss) : RPP w.drew G v pss := by
  obtain ⟨vs, hl, hr, he⟩ := h
  exact ⟨vs, hl, RV.drew hr, fun k u ps hu hp => RV.drew (he k u ps hu hp)⟩
theorem RSs.drew {w : World} {G : Nat → Prop} {v : Value} {ss : List St} (h : RSs w G v ss) : RSs w.drew G v ss := RV.drew h
theorem DV.drew {w : World} {G : Nat → Prop} {vp vs : Value} {d : Dut} (h : DV w G vp vs d) : DV w.drew G vp vs d := ⟨h.progs.drew, h.starts.drew⟩
theorem DV.drewN {w : World} {G : Nat → Prop} {vp vs : Value} {d : Dut} (h : DV w G vp vs d) : ∀ n, DV (w.drewN n) G vp vs d := fun n => by
  obtain ⟨⟨us, hl, hr, he⟩, hs⟩ := h
  exact ⟨⟨us, hl, RV.drewN hr n, fun k u ps hu hp => RV.drewN (he k u ps hu hp) n⟩, RV.drewN hs n⟩
/-- A start's three cells as a value. -/
def St.val (s : St) : Value := .agg #[.int .i64 s.prog, .int .i64 s.grade, .int .u64 (s.mask : Int)]
theorem maskB (a b : Nat) (_hb : b < 18446744073709551616) (_ha : a < 18446744073709551616) : ((a &&& b : Nat) : Int) = 0 ↔ a &&& b = 0 := by omega
end Go.Proofs.YtbdimfcdpkldpaaGreatDoor

namespace Go.Proofs.YtbdimfcdpkldpaaGreatDoor
open Go.RowKit

theorem f64bits_run (b : Nat) (w : World) :
    (callFunc 65 #[.float .f64 b]).run Tryz.prog w = .ok (.value (.int .u64 (b : Int))) w := by
  rw [run_callFunc_extern Tryz.func65 (by kernel_rfl) (by kernel_rfl) (by kernel_rfl) (e := Extern.MathFloatBits.float64bits) (by kernel_rfl)]
  rfl
theorem f64from_run (b : Nat) (w : World) :
    (callFunc 54 #[.int .u64 (b : Int)]).run Tryz.prog w = .ok (.value (.float .f64 b)) w := by
  rw [run_callFunc_extern Tryz.func54 (by kernel_rfl) (by kernel_rfl) (by kernel_rfl) (e := Extern.MathFloatBits.float64frombits) (by kernel_rfl)]
  rfl

theorem ret_b9 {a b : Bool} (h : a = b) : Ending.returned (.bool a) = .returned (.bool b) := by rw [h]
theorem ret_i9 {k : IntKind} {a b : Int} (h : a = b) : Ending.returned (.int k a) = .returned (.int k b) := by rw [h]
theorem allN_sets (c : Int) (h : 0 ≤ c) (h6 : c ≤ 64) : Sets.allN c = allN c := by
  unfold Sets.allN allN
  rw [if_neg (by omega)]
  split
  · obtain rfl : c = 64 := by omega
    rfl
  · rfl
/-- From one number to another one. -/
def inB (x lo hi : Int) : Bool := decide (lo ≤ x) && decide (x ≤ hi)
theorem RIn_any (x lo hi : Int) (w : World) :
    Calls Tryz.prog 31 #[.int .i64 x, .int .i64 lo, .int .i64 hi] w fun e w' => e = .returned (.bool (inB x lo hi)) ∧ w = w' := by
  unfold inB
  by_cases h : lo ≤ x
  · go_enter Tryz.func31, Tryz.ntmps31
    go_wp2
    go_ret
    exact ⟨ret_b9 (by rw [decide_eq_true h, Bool.true_and]), rfl⟩
  · go_enter Tryz.func31, Tryz.ntmps31
    go_wp2
    go_ret
    exact ⟨ret_b9 (by rw [decide_eq_false (by omega), Bool.false_and]), rfl⟩
theorem Within_any (x lo hi : Int) (w : World) :
    Calls Tryz.prog 100 #[.int .i64 x, .int .i64 lo, .int .i64 hi] w fun e w' => e = .returned (.bool (inB x lo hi)) ∧ w = w' := by
  unfold inB
  by_cases h : lo ≤ x
  · go_enter Tryz.func100, Tryz.ntmps100
    go_wp2
    go_ret
    exact ⟨ret_b9 (by rw [decide_eq_true h, Bool.true_and]), rfl⟩
  · go_enter Tryz.func100, Tryz.ntmps100
    go_wp2
    go_ret
    exact ⟨ret_b9 (by rw [decide_eq_false (by omega), Bool.false_and]), rfl⟩
theorem GIs_any (l : Int) (w : World) :
    Calls Tryz.prog 103 #[.int .i64 l] w fun e w' => e = .returned (.bool (inB l 0 7)) ∧ w = w' := by
  unfold inB
  by_cases h : 0 ≤ l
  · go_enter Tryz.func103, Tryz.ntmps103
    go_wp2
    go_ret
    exact ⟨ret_b9 (by rw [decide_eq_true h, Bool.true_and]), rfl⟩
  · go_enter Tryz.func103, Tryz.ntmps103
    go_wp2
    go_ret
    exact ⟨ret_b9 (by rw [decide_eq_false (by omega), Bool.false_and]), rfl⟩

theorem power_step {x p : Int} {k : Nat} (h : ∀ j : Nat, j < k → x ≠ 2 ^ (j + 1)) (hp : p = 2 ^ (k + 1)) (hx : ¬ x = p) : ∀ j : Nat, j < k + 1 → x ≠ 2 ^ (j + 1) := by
  intro j hj
  by_cases hk : j < k
  · exact h j hk
  · obtain rfl : j = k := by omega
    rw [← hp]
    exact hx
theorem power_none {x : Int} (h : ∀ j : Nat, j < 8 → x ≠ 2 ^ (j + 1)) : powB x = false := by
  have h0 := h 0 (by omega); have h1 := h 1 (by omega); have h2 := h 2 (by omega); have h3 := h 3 (by omega)
  have h4 := h 4 (by omega); have h5 := h 5 (by omega); have h6 := h 6 (by omega); have h7 := h 7 (by omega)
  unfold powB
  simp only [Bool.or_eq_false_iff, beq_eq_false_iff_ne]
  exact ⟨⟨⟨⟨⟨⟨⟨h0, h1⟩, h2⟩, h3⟩, h4⟩, h5⟩, h6⟩, h7⟩
set_option maxHeartbeats 1000000 in
theorem Power_any (x : Int) (w : World) :
    Calls Tryz.prog 32 #[.int .i64 x] w fun e w' => e = .returned (.bool (powB x)) ∧ w = w' := by
  generalize hP : powB x = P
  have HP := Lib.hid hP
  clear hP
  go_enter Tryz.func32, Tryz.ntmps32
  go_wp2
  go_loop [3] (fun t => ∃ k : Nat, k ≤ 8 ∧ t = .int .i64 (2 ^ (k + 1)) ∧ Hid (∀ j : Nat, j < k → x ≠ 2 ^ (j + 1))) (fun t => 600 - (intOf t).toNat)
  case atStart => exact ⟨0, by omega, rfl, Lib.hid (fun j hj => absurd hj (by omega))⟩
  case round =>
    obtain ⟨k, hk, rfl, hno⟩ := hrel
    have hc : k = 0 ∨ k = 1 ∨ k = 2 ∨ k = 3 ∨ k = 4 ∨ k = 5 ∨ k = 6 ∨ k = 7 ∨ k = 8 := by omega
    rcases hc with rfl | rfl | rfl | rfl | rfl | rfl | rfl | rfl | rfl
    · by_cases hx : x = 2
      · have hb : powB x = true := by subst hx; rfl
        have t1 : (x == (2 : Int)) = true := by simp [hx]
        have HB := Lib.hid hb
        clear hb hx hno
        go_wp2_with (rw [t1])
        go_ret
        exact ⟨ret_b9 (by rw [← HP.out, HB.out]), rfl⟩
      · have hn2 := Lib.hid (power_step (p := 2) hno.out (by decide) hx)
        have t1 : (x == (2 : Int)) = false := by simp [hx]
        clear hno hx
        go_wp2_with (rw [t1])
        go_round
        case rel => exact ⟨1, by omega, rfl, hn2⟩
        case measure => simp [intOf]
    · by_cases hx : x = 4
      · have hb : powB x = true := by subst hx; rfl
        have t1 : (x == (4 : Int)) = true := by simp [hx]
        have HB := Lib.hid hb
        clear hb hx hno
        go_wp2_with (rw [t1])
        go_ret
        exact ⟨ret_b9 (by rw [← HP.out, HB.out]), rfl⟩
      · have hn2 := Lib.hid (power_step (p := 4) hno.out (by decide) hx)
        have t1 : (x == (4 : Int)) = false := by simp [hx]
        clear hno hx
        go_wp2_with (rw [t1])
        go_round
        case rel => exact ⟨2, by omega, rfl, hn2⟩
        case measure => simp [intOf]
    · by_cases hx : x = 8
      · have hb : powB x = true := by subst hx; rfl
        have t1 : (x == (8 : Int)) = true := by simp [hx]
        have HB := Lib.hid hb
        clear hb hx hno
        go_wp2_with (rw [t1])
        go_ret
        exact ⟨ret_b9 (by rw [← HP.out, HB.out]), rfl⟩
      · have hn2 := Lib.hid (power_step (p := 8) hno.out (by decide) hx)
        have t1 : (x == (8 : Int)) = false := by simp [hx]
        clear hno hx
        go_wp2_with (rw [t1])
        go_round
        case rel => exact ⟨3, by omega, rfl, hn2⟩
        case measure => simp [intOf]
    · by_cases hx : x = 16
      · have hb : powB x = true := by subst hx; rfl
        have t1 : (x == (16 : Int)) = true := by simp [hx]
        have HB := Lib.hid hb
        clear hb hx hno
        go_wp2_with (rw [t1])
        go_ret
        exact ⟨ret_b9 (by rw [← HP.out, HB.out]), rfl⟩
      · have hn2 := Lib.hid (power_step (p := 16) hno.out (by decide) hx)
        have t1 : (x == (16 : Int)) = false := by simp [hx]
        clear hno hx
        go_wp2_with (rw [t1])
        go_round
        case rel => exact ⟨4, by omega, rfl, hn2⟩
        case measure => simp [intOf]
    · by_cases hx : x = 32
      · have hb : powB x = true := by subst hx; rfl
        have t1 : (x == (32 : Int)) = true := by simp [hx]
        have HB := Lib.hid hb
        clear hb hx hno
        go_wp2_with (rw [t1])
        go_ret
        exact ⟨ret_b9 (by rw [← HP.out, HB.out]), rfl⟩
      · have hn2 := Lib.hid (power_step (p := 32) hno.out (by decide) hx)
        have t1 : (x == (32 : Int)) = false := by simp [hx]
        clear hno hx
        go_wp2_with (rw [t1])
        go_round
        case rel => exact ⟨5, by omega, rfl, hn2⟩
        case measure => simp [intOf]
    · by_cases hx : x = 64
      · have hb : powB x = true := by subst hx; rfl
        have t1 : (x == (64 : Int)) = true := by simp [hx]
        have HB := Lib.hid hb
        clear hb hx hno
        go_wp2_with (rw [t1])
        go_ret
        exact ⟨ret_b9 (by rw [← HP.out, HB.out]), rfl⟩
      · have hn2 := Lib.hid (power_step (p := 64) hno.out (by decide) hx)
        have t1 : (x == (64 : Int)) = false := by simp [hx]
        clear hno hx
        go_wp2_with (rw [t1])
        go_round
        case rel => exact ⟨6, by omega, rfl, hn2⟩
        case measure => simp [intOf]
    · by_cases hx : x = 128
      · have hb : powB x = true := by subst hx; rfl
        have t1 : (x == (128 : Int)) = true := by simp [hx]
        have HB := Lib.hid hb
        clear hb hx hno
        go_wp2_with (rw [t1])
        go_ret
        exact ⟨ret_b9 (by rw [← HP.out, HB.out]), rfl⟩
      · have hn2 := Lib.hid (power_step (p := 128) hno.out (by decide) hx)
        have t1 : (x == (128 : Int)) = false := by simp [hx]
        clear hno hx
        go_wp2_with (rw [t1])
        go_round
        case rel => exact ⟨7, by omega, rfl, hn2⟩
        case measure => simp [intOf]
    · by_cases hx : x = 256
      · have hb : powB x = true := by subst hx; rfl
        have t1 : (x == (256 : Int)) = true := by simp [hx]
        have HB := Lib.hid hb
        clear hb hx hno
        go_wp2_with (rw [t1])
        go_ret
        exact ⟨ret_b9 (by rw [← HP.out, HB.out]), rfl⟩
      · have hn2 := Lib.hid (power_step (p := 256) hno.out (by decide) hx)
        have t1 : (x == (256 : Int)) = false := by simp [hx]
        clear hno hx
        go_wp2_with (rw [t1])
        go_round
        case rel => exact ⟨8, by omega, rfl, hn2⟩
        case measure => simp [intOf]
    · go_wp2
      go_ret
      exact ⟨ret_b9 (by rw [← HP.out]; exact (power_none hno.out).symm), rfl⟩

/-- The smallest power of two that is at least 2 and not less than n. -/
def capU (n : Int) : Int := if n ≤ 2 then 2 else if n ≤ 4 then 4 else if n ≤ 8 then 8 else if n ≤ 16 then 16 else if n ≤ 32 then 32 else if n ≤ 64 then 64 else if n ≤ 128 then 128 else 256
theorem capU_cap {t : Int} (h : t ≤ 64) : capU t = capN t := by
  unfold capU capN
  repeat' split
  all_goals omega
theorem capU_pow {x : Int} (h1 : 1 ≤ x) (h : x ≤ 256) : (x == capU x) = powB x := by
  cases hp : powB x with
  | true =>
    rcases powB_cases hp with rfl | rfl | rfl | rfl | rfl | rfl | rfl | rfl <;> rfl
  | false =>
    simp only [powB, Bool.or_eq_false_iff, beq_eq_false_iff_ne] at hp
    rw [beq_eq_false_iff_ne]
    unfold capU
    repeat' split
    all_goals omega
set_option maxHeartbeats 1000000 in
theorem RoundUp_any (n : Int) (hn : n ≤ 256) (w : World) :
    Calls Tryz.prog 69 #[.int .i64 n] w fun e w' => e = .returned (.int .i64 (capU n)) ∧ w = w' := by
  generalize hP : capU n = P
  have HP := Lib.hid hP
  clear hP
  go_enter Tryz.func69, Tryz.ntmps69
  go_wp2
  go_loop [3] (fun t => ∃ k : Nat, k ≤ 7 ∧ t = .int .i64 (2 ^ (k + 1)) ∧ Hid (0 < k → (2 : Int) ^ k < n)) (fun t => 600 - (intOf t).toNat)
  case atStart => exact ⟨0, by omega, rfl, Lib.hid (fun h => absurd h (by omega))⟩
  case round =>
    obtain ⟨k, hk, rfl, hno⟩ := hrel
    have hc : k = 0 ∨ k = 1 ∨ k = 2 ∨ k = 3 ∨ k = 4 ∨ k = 5 ∨ k = 6 ∨ k = 7 := by omega
    rcases hc with rfl | rfl | rfl | rfl | rfl | rfl | rfl | rfl
    · by_cases hx : 2 < n
      · clear hno hn
        go_wp2
        go_round
        case rel => exact ⟨1, by omega, rfl, Lib.hid (fun _ => hx)⟩
        case measure => simp [intOf]
      · have hv : capU n = 2 := by
          have := hno.out
          unfold capU
          clear this
          repeat' split
          all_goals omega
        have HV := Lib.hid hv
        clear hno hn hv
        go_wp2
        go_ret
        exact ⟨ret_i9 (by rw [← HP.out, HV.out]), rfl⟩
    · by_cases hx : 4 < n
      · clear hno hn
        go_wp2
        go_round
        case rel => exact ⟨2, by omega, rfl, Lib.hid (fun _ => hx)⟩
        case measure => simp [intOf]
      · have hv : capU n = 4 := by
          have := hno.out
          unfold capU
          simp at this
          repeat' split
          all_goals omega
        have HV := Lib.hid hv
        clear hno hn hv
        go_wp2
        go_ret
        exact ⟨ret_i9 (by rw [← HP.out, HV.out]), rfl⟩
    · by_cases hx : 8 < n
      · clear hno hn
        go_wp2
        go_round
        case rel => exact ⟨3, by omega, rfl, Lib.hid (fun _ => hx)⟩
        case measure => simp [intOf]
      · have hv : capU n = 8 := by
          have := hno.out
          unfold capU
          simp at this
          repeat' split
          all_goals omega
        have HV := Lib.hid hv
        clear hno hn hv
        go_wp2
        go_ret
        exact ⟨ret_i9 (by rw [← HP.out, HV.out]), rfl⟩
    · by_cases hx : 16 < n
      · clear hno hn
        go_wp2
        go_round
        case rel => exact ⟨4, by omega, rfl, Lib.hid (fun _ => hx)⟩
        case measure => simp [intOf]
      · have hv : capU n = 16 := by
          have := hno.out
          unfold capU
          simp at this
          repeat' split
          all_goals omega
        have HV := Lib.hid hv
        clear hno hn hv
        go_wp2
        go_ret
        exact ⟨ret_i9 (by rw [← HP.out, HV.out]), rfl⟩
    · by_cases hx : 32 < n
      · clear hno hn
        go_wp2
        go_round
        case rel => exact ⟨5, by omega, rfl, Lib.hid (fun _ => hx)⟩
        case measure => simp [intOf]
      · have hv : capU n = 32 := by
          have := hno.out
          unfold capU
          simp at this
          repeat' split
          all_goals omega
        have HV := Lib.hid hv
        clear hno hn hv
        go_wp2
        go_ret
        exact ⟨ret_i9 (by rw [← HP.out, HV.out]), rfl⟩
    · by_cases hx : 64 < n
      · clear hno hn
        go_wp2
        go_round
        case rel => exact ⟨6, by omega, rfl, Lib.hid (fun _ => hx)⟩
        case measure => simp [intOf]
      · have hv : capU n = 64 := by
          have := hno.out
          unfold capU
          simp at this
          repeat' split
          all_goals omega
        have HV := Lib.hid hv
        clear hno hn hv
        go_wp2
        go_ret
        exact ⟨ret_i9 (by rw [← HP.out, HV.out]), rfl⟩
    · by_cases hx : 128 < n
      · clear hno hn
        go_wp2
        go_round
        case rel => exact ⟨7, by omega, rfl, Lib.hid (fun _ => hx)⟩
        case measure => simp [intOf]
      · have hv : capU n = 128 := by
          have := hno.out
          unfold capU
          simp at this
          repeat' split
          all_goals omega
        have HV := Lib.hid hv
        clear hno hn hv
        go_wp2
        go_ret
        exact ⟨ret_i9 (by rw [← HP.out, HV.out]), rfl⟩
    · have hx : ¬ 256 < n := by omega
      have hv : capU n = 256 := by
        have := hno.out
        unfold capU
        simp at this
        repeat' split
        all_goals omega
      have HV := Lib.hid hv
      clear hno hn hv
      go_wp2
      go_ret
      exact ⟨ret_i9 (by rw [← HP.out, HV.out]), rfl⟩
end Go.Proofs.YtbdimfcdpkldpaaGreatDoor
