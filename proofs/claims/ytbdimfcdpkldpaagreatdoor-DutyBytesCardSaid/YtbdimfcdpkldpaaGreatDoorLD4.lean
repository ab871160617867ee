/- The contract of an operand's read; all operands' values out of words. The contract of deed's readAll. The contract of deed's Parse. -/
import Derived.Test.YtbdimfcdpkldpaaGreatDoorLD1
import Derived.Test.YtbdimfcdpkldpaaGreatDoorLD3
import Derived.OwnWalk
import Derived.Test.YtbdimfcdpkldpaaGreatDoorLW1
namespace Go.Proofs.YtbdimfcdpkldpaaGreatDoor
open Go.RowKit

/-- The value that a word writes, or none. -/
def rdW (o : Nat) (l : List UInt8) : Option Nat :=
  if o = 6 then (if l = looseL then some 1 else none) else if o = 5 then (if (hexR l).2 = 0 then some (hexR l).1 else none) else (if (readL l).2 = 0 then some (readL l).1 else none)
def rdC (o : Nat) (l : List UInt8) : Nat × Nat := match rdW o l with
  | some x => (x, 0)
  | none => (0, 3)
theorem hexR_lt' (l : List UInt8) : (hexR l).1 < 18446744073709551616 := by
  unfold hexR
  split
  · rename_i h
    have := num_lt 16 l h.2
    rw [h.1] at this
    omega
  · decide
theorem rdW_lt (o : Nat) (l : List UInt8) (x : Nat) (h : rdW o l = some x) : x < 18446744073709551616 := by
  unfold rdW at h
  split at h
  · split at h <;> simp at h
    omega
  · split at h
    · split at h <;> simp at h
      have := hexR_lt' l
      omega
    · split at h <;> simp at h
      have := read_lt l
      omega

set_option maxHeartbeats 1000000 in
theorem read_any (o : Nat) (ho : o < 7) (s : ByteArray) (w : World) :
    Calls Tryz.prog 175 #[.int .i64 o, .string s] w fun e w' => e = .returned (.tuple #[.int .u64 ((rdC o s.data.toList).1 : Nat), .int .i64 ((rdC o s.data.toList).2 : Nat)]) ∧ Below w.heap.size w w' := by
  by_cases h6 : o = 6
  · subst h6
    by_cases h : s.data.toList = looseL
    · have e : rdC 6 s.data.toList = (1, 0) := by unfold rdC rdW; simp [h]
      have t : (s.toList == [108, 111, 111, 115, 101]) = true := by rw [Lib.toList_data]; simp [h, looseL]
      rw [e]
      clear e h
      go_enter Tryz.func175, Tryz.ntmps175
      go_wp2
      go_ret2
      exact ⟨rfl, Below.refl _ _⟩
    · have e : rdC 6 s.data.toList = (0, 3) := by unfold rdC rdW; simp [h]
      have t : (s.toList == [108, 111, 111, 115, 101]) = false := by rw [Lib.toList_data, beq_eq_false_iff_ne]; exact h
      rw [e]
      clear e h
      go_enter Tryz.func175, Tryz.ntmps175
      go_wp2
      go_ret2
      exact ⟨rfl, Below.refl _ _⟩
  · have e6 : ((o : Int) == 6) = false := by rw [beq_eq_false_iff_ne]; omega
    by_cases h5 : o = 5
    · subst h5
      have hr := ReadHex_any s w
      by_cases h : (hexR s.data.toList).2 = 0
      · have e : rdC 5 s.data.toList = ((hexR s.data.toList).1, 0) := by unfold rdC rdW; simp [h]
        rw [e]
        rw [h] at hr
        generalize (hexR s.data.toList).1 = x at *
        clear e h
        go_enter Tryz.func175, Tryz.ntmps175
        go_wp2_with (go_at_call 150; (with_reducible refine hr.mono ?_); clear hr; rintro e w1 ⟨rfl, hb⟩)
        go_ret2
        exact ⟨rfl, hb⟩
      · have e : rdC 5 s.data.toList = (0, 3) := by unfold rdC rdW; simp [h]
        rw [e]
        generalize (hexR s.data.toList).2 = y at *
        have ty : ((y : Int) != 0) = true := by simp; omega
        clear e
        go_enter Tryz.func175, Tryz.ntmps175
        go_wp2_with (go_at_call 150; (with_reducible refine hr.mono ?_); clear hr; rintro e w1 ⟨rfl, hb⟩)
        go_ret2
        exact ⟨rfl, hb⟩
    · have e5 : ((o : Int) == 5) = false := by rw [beq_eq_false_iff_ne]; omega
      have hr := Read_any s w
      by_cases h : (readL s.data.toList).2 = 0
      · have e : rdC o s.data.toList = ((readL s.data.toList).1, 0) := by unfold rdC rdW; simp [h, h6, h5]
        rw [e]
        rw [h] at hr
        generalize (readL s.data.toList).1 = x at *
        clear e h h5 h6
        go_enter Tryz.func175, Tryz.ntmps175
        go_wp2_with (go_at_call 149; (with_reducible refine hr.mono ?_); clear hr; rintro e w1 ⟨rfl, hb⟩)
        go_ret2
        exact ⟨rfl, hb⟩
      · have e : rdC o s.data.toList = (0, 3) := by unfold rdC rdW; simp [h, h6, h5]
        rw [e]
        generalize (readL s.data.toList).2 = y at *
        have ty : ((y : Int) != 0) = true := by simp; omega
        clear e h5 h6
        go_enter Tryz.func175, Tryz.ntmps175
        go_wp2_with (go_at_call 149; (with_reducible refine hr.mono ?_); clear hr; rintro e w1 ⟨rfl, hb⟩)
        go_ret2
        exact ⟨rfl, hb⟩

/-- The values that words write; what is missing is 0. -/
def rdAll : List Nat → List (List UInt8) → Option (List Nat)
  | o :: os, w :: ws => match rdW o w with
    | some x => (rdAll os ws).map (x :: ·)
    | none => none
  | os, [] => some (os.map fun _ => 0)
  | [], _ :: _ => some []
theorem rdAll_len : ∀ (os : List Nat) (ws : List (List UInt8)) (xs : List Nat), rdAll os ws = some xs → xs.length = os.length
  | [], [], xs, h => by simp [rdAll] at h; simp [← h]
  | [], _ :: _, xs, h => by simp [rdAll] at h; simp [← h]
  | o :: os, [], xs, h => by simp [rdAll] at h; simp [← h]
  | o :: os, w :: ws, xs, h => by
    unfold rdAll at h
    split at h
    · rename_i x hx
      cases hr : rdAll os ws with
      | none => simp [hr] at h
      | some ys =>
        rw [hr] at h
        simp at h
        rw [← h, List.length_cons, List.length_cons, rdAll_len os ws ys hr]
    · cases h
def lenOk (op : Int) (n m : Nat) : Bool := m == n || (m + 1 == n && op == 2)
/-- What readAll answers. -/
def readR (op : Int) (ws : List (List UInt8)) : List Nat × Nat :=
  if lenOk op (opr op).length ws.length = true then (match rdAll (opr op) ws with
    | some xs => (xs, 0)
    | none => ([], 3)) else ([], 3)
/-- A made row, stored into. -/
theorem made_set (pre : List Nat) (k m x : Nat) (hk : pre.length = k) : (((pre ++ List.replicate (m + 1) 0).map uV).toArray).setIfInBounds k (uV x) = ((((pre ++ [x]) ++ List.replicate m 0).map uV).toArray) := by
  subst hk
  simp [List.replicate_succ]
end Go.Proofs.YtbdimfcdpkldpaaGreatDoor

namespace Go.Proofs.YtbdimfcdpkldpaaGreatDoor
open Go.RowKit

theorem rdC_some {o : Nat} {l : List UInt8} {x : Nat} (h : rdW o l = some x) : rdC o l = (x, 0) := by unfold rdC; rw [h]
theorem rdC_none {o : Nat} {l : List UInt8} (h : rdW o l = none) : rdC o l = (0, 3) := by unfold rdC; rw [h]
theorem made_cells (n : Nat) : (madeCells (Value.int .u64 0).cells (n * 1)).toList = (List.replicate n 0).map uV := by
  rw [Nat.mul_one]
  simp [madeCells, Value.cells, uV, Nat.mod_one, List.map_const']
theorem made_get (pre : List Nat) (k m : Nat) (hk : pre.length = k) (hm : 0 < m) : (((pre ++ List.replicate m 0).map uV).toArray)[k]? = some (uV 0) := by
  subst hk
  obtain ⟨j, rfl⟩ : ∃ j, m = j + 1 := ⟨m - 1, by omega⟩
  simp [List.replicate_succ]
theorem made_blk {w : World} {base g n : Nat} {xs : List Value} (h : w.ownsRow base 22 1 (.slice (some ⟨g, 0, none⟩) n n) n xs) (_hn : 0 < n) : Blk w g 22 xs.toArray := by
  obtain ⟨hl, ⟨hv, h0⟩ | ⟨g', cap, cur, hv, _, hg, hc, _, hs, ht⟩⟩ := h
  · cases hv
  · cases hv
    unfold Blk
    rw [hg]
    have : cur.toList.length = n := by simpa using hs
    rw [← ht, Nat.mul_one, List.take_of_length_le (by omega), Array.toArray_toList]
theorem rv_of_blk {w : World} {g : Nat} {xs : List Nat} (h : Blk w g 22 ((xs.map uV).toArray)) (hm : xs.length ≤ 4000) : RV w (fun _ => True) (.slice (some ⟨g, 0, none⟩) xs.length xs.length) xs.length 1 (xs.map uV) :=
  ⟨_, _, rfl, Nat.le_refl _, by unfold maxLen; omega, (fun e => by cases e), by simp, .inr ⟨g, 0, rfl, h.lt, trivial, fun j u hu => by rw [Nat.zero_add, h.cell]; simpa using hu⟩⟩

set_option maxHeartbeats 400000 in
theorem readAll_form (op : Int) (ho : isOp op = true) (ws : List (List UInt8)) (hwl : ws.length ≤ 4000) (hl : lenOk op (opr op).length ws.length = false) (v : Value) (G : Nat → Prop) (w : World) (hv : RV w G v ws.length 1 (ws.map sV)) :
    Calls Tryz.prog 152 #[.int .i64 op, v] w fun e w' => e = .returned (.tuple #[.slice none 0 0, .int .i64 3]) ∧ Below w.heap.size w w' := by
  have hops := operands_any op ho
  have h5 := opr_len op ho
  have hcase : (¬ ws.length = (opr op).length ∧ ¬ ws.length + 1 = (opr op).length) ∨ (ws.length + 1 = (opr op).length ∧ ¬ op = 2) := by
    unfold lenOk at hl
    simp only [Bool.or_eq_false_iff, beq_eq_false_iff_ne, Bool.and_eq_false_iff] at hl
    omega
  generalize (opr op) = os at *
  obtain ⟨pv, cv, rfl, _⟩ := id hv
  clear ho hl hv
  rcases hcase with ⟨h1, h2⟩ | ⟨h1, h2⟩
  · have t0 : (((os.length : Int) - (ws.length : Int)) != 0) = true := by simp; omega
    have t1 : (((os.length : Int) - (ws.length : Int)) == 1) = false := by rw [beq_eq_false_iff_ne]; omega
    clear h1 h2
    go_enter Tryz.func152, Tryz.ntmps152
    go_wp2_with (go_at_call 110; (with_reducible refine (hops _).mono ?_); clear hops; rintro e w1 ⟨lv, rfl, hown1, hb1⟩; obtain ⟨p, c, rfl, _⟩ := id (RV.of_own hown1))
    go_ret2
    exact ⟨rfl, hb1⟩
  · have t0 : (((os.length : Int) - (ws.length : Int)) != 0) = true := by simp; omega
    have t1 : (((os.length : Int) - (ws.length : Int)) == 1) = true := by rw [beq_iff_eq]; omega
    have t2 : (op == 2) = false := by rw [beq_eq_false_iff_ne]; exact h2
    clear h1 h2
    go_enter Tryz.func152, Tryz.ntmps152
    go_wp2_with (go_at_call 110; (with_reducible refine (hops _).mono ?_); clear hops; rintro e w1 ⟨lv, rfl, hown1, hb1⟩; obtain ⟨p, c, rfl, _⟩ := id (RV.of_own hown1))
    go_ret2
    exact ⟨rfl, hb1⟩

set_option maxHeartbeats 4000000 in
theorem readAll_ok (op : Int) (ho : isOp op = true) (ws : List (List UInt8)) (hl : lenOk op (opr op).length ws.length = true) (hlen : ∀ l ∈ ws, l.length ≤ 4000) (v : Value) (G : Nat → Prop) (w : World) (hv : RV w G v ws.length 1 (ws.map sV)) :
    Calls Tryz.prog 152 #[.int .i64 op, v] w fun e w' => ∃ xv, e = .returned (.tuple #[xv, .int .i64 ((readR op ws).2 : Nat)]) ∧ RV w' (fun _ => True) xv (readR op ws).1.length 1 ((readR op ws).1.map uV) ∧ Below w.heap.size w w' := by
  obtain ⟨i0, hi, hz0, hz1, hz2⟩ := info_parts infoU
  have hops := operands_any op ho
  have h5 := opr_len op ho
  have h7 := Lib.hid (opr_lt op ho)
  have hR1 : ∀ xs, rdAll ((opr op).drop 0) (ws.drop 0) = some xs → readR op ws = (xs, 0) := fun xs h => by unfold readR; rw [if_pos hl]; rw [List.drop_zero, List.drop_zero] at h; rw [h]
  have hR2 : rdAll ((opr op).drop 0) (ws.drop 0) = none → readR op ws = ([], 3) := fun h => by unfold readR; rw [if_pos hl]; rw [List.drop_zero, List.drop_zero] at h; rw [h]
  generalize readR op ws = R at *
  have hcase : ws.length = (opr op).length ∨ (ws.length + 1 = (opr op).length ∧ op = 2) := by
    unfold lenOk at hl
    simp only [Bool.or_eq_true, beq_iff_eq, Bool.and_eq_true] at hl
    exact hl
  generalize (opr op) = os at *
  obtain ⟨A, hA⟩ : ∃ A, rdAll (os.drop 0) (ws.drop 0) = A := ⟨_, rfl⟩
  have HA : Hid ((rdAll (os.drop 0) (ws.drop 0)).map ([] ++ ·) = A) := Lib.hid (by rw [hA]; cases A <;> rfl)
  rw [hA] at hR1 hR2
  have HR1 := Lib.hid hR1
  have HR2 := Lib.hid hR2
  have HLEN := Lib.hid hlen
  clear hR1 hR2 hA hl ho hlen
  have hwn : ws.length ≤ os.length := by omega
  obtain ⟨pv, cv, rfl, _⟩ := id hv
  have htt : (ws.length = os.length ∧ (((os.length : Int) - (ws.length : Int)) != 0) = false) ∨ ((((os.length : Int) - (ws.length : Int)) != 0) = true ∧ (((os.length : Int) - (ws.length : Int)) == 1) = true ∧ (op == 2) = true) := by
    rcases hcase with h1 | ⟨h1, rfl⟩
    · exact .inl ⟨h1, by simp; omega⟩
    · refine .inr ⟨by simp; omega, by rw [beq_iff_eq]; omega, rfl⟩
  clear hcase
  rcases htt with ⟨_, t0⟩ | ⟨t0, t1, t2⟩
  all_goals
    go_enter Tryz.func152, Tryz.ntmps152
    go_wp2_with (first
      | (go_at_call 110; (with_reducible refine (hops _).mono ?_); clear hops; rintro e w1 ⟨lv, rfl, hown1, hb1⟩; obtain ⟨p, c, rfl, _⟩ := id (RV.of_own hown1))
      | (refine wpList_make_full _ rfl _ _ 54 rfl w1.heap.size 22 i0 (.int .u64 0) 1 Tryz.underlying54 hi hz0 hz1 .i64 .i64 _ _ os.length rfl rfl rfl rfl (by rw [hz2]; omega) (by unfold maxLen; omega) (Nat.le_refl _) ?_; intro w2 hownA hgA))
    have hb2 : Below w1.heap.size w1 w2 := (Below.refl _ _).grown hgA (Nat.le_refl _) (fun k hk => by cases hk)
    have hr := (RV.of_own hown1).mono (G' := fun b => b < w1.heap.size) (fun k hk _ => hk)
    have hr2 := hr.below hb2 (fun k _ hk => hk)
    rw [made_cells] at hownA
    clear hgA hown1
    go_loopw [36] (fun t wr => ∃ (k : Nat) (pre : List Nat), k ≤ ws.length ∧ t = .int .i64 k ∧ pre.length = k ∧ Hid ((rdAll (os.drop k) (ws.drop k)).map (pre ++ ·) = A) ∧ (0 < os.length → Blk wr w1.heap.size 22 (((pre ++ List.replicate (os.length - k) 0).map uV).toArray)) ∧ Foot (fun b => b = w1.heap.size) w2 wr) (fun t _ => ws.length - (intOf t).toNat)
    case atStart => exact ⟨0, [], by omega, rfl, rfl, HA, fun h0 => by simpa using made_blk hownA h0, Foot.refl _ _⟩
    case round =>
      obtain ⟨k, pre, hk, rfl, hpre, ha, hblk, hfoot⟩ := hrel
      have hbw : Below w1.heap.size w1 wr := hb2.trans (hfoot.below hb2.size (fun b hb => by omega))
      by_cases hlt : k < ws.length
      · obtain ⟨o, ho1⟩ : ∃ o, os[k]? = some o := ⟨_, List.getElem?_eq_getElem (by omega)⟩
        obtain ⟨z, hz⟩ : ∃ z, ws[k]? = some z := ⟨_, List.getElem?_eq_getElem hlt⟩
        have ho7 := h7.out o (List.mem_of_getElem? ho1)
        have hzl := HLEN.out z (List.mem_of_getElem? hz)
        have ha2 := ha.out
        rw [drop_cons os k o ho1, drop_cons ws k z hz] at ha2
        obtain ⟨b, off, rfl, _, _, hcell0⟩ := (hr.below hbw (fun k _ hk => hk)).at1 k (oV o) (by rw [List.getElem?_map, ho1]; rfl)
        have hcell : wr.cell? ⟨b, off + k, none⟩ = some (.int .i64 (o : Int)) := hcell0
        obtain ⟨b2, off2, rfl, _, _, hcell1⟩ := (hv.below (hb1.trans (hbw.mono hb1.size)) (fun k hk _ => hk)).at1 k (sV z) (by rw [List.getElem?_map, hz]; rfl)
        unfold sV at hcell1
        obtain ⟨Z, hZ⟩ : ∃ Z : ByteArray, Z = ⟨z.toArray⟩ := ⟨_, rfl⟩
        have hZl : Z.data.toList = z := by rw [hZ]
        rw [← hZ] at hcell1
        have hread := read_any o ho7 Z wr
        rw [hZl] at hread
        have hkn : k < os.length := by omega
        replace hblk := hblk (by omega)
        have hfr := hblk.frozen k
        have hcA : wr.cell? ⟨w1.heap.size, k, none⟩ = some (.int .u64 0) := by rw [hblk.cell]; exact made_get pre k _ hpre (by omega)
        clear ho1 hz hcell0 hZ hZl hzl ha
        cases hrd : rdW o z with
        | none =>
          rw [rdC_none hrd] at hread
          have hA : A = none := by rw [← ha2]; simp [rdAll, hrd]
          have HRR := Lib.hid (HR2.out hA)
          clear ha2 hA hrd
          go_wp2_with (go_at_call 175; (with_reducible refine hread.mono ?_); clear hread; rintro e w3 ⟨rfl, hb3⟩)
          go_ret2
          rw [HRR.out]
          exact ⟨_, rfl, RV.nil _ _ _, hb1.trans ((hbw.trans (hb3.mono hbw.size)).mono hb1.size)⟩
        | some x =>
          rw [rdC_some hrd] at hread
          have hA : (rdAll (os.drop (k + 1)) (ws.drop (k + 1))).map ((pre ++ [x]) ++ ·) = A := by
            rw [← ha2, rdAll, hrd]
            cases rdAll (os.drop (k + 1)) (ws.drop (k + 1)) <;> simp
          have HA2 := Lib.hid hA
          have hms := made_set pre k (os.length - (k + 1)) x hpre
          rw [show os.length - (k + 1) + 1 = os.length - k by omega] at hms
          have HMS := Lib.hid hms
          have HB := Lib.hid hblk
          clear ha2 hA hrd hms hblk
          go_wp2_with (go_at_call 175; (with_reducible refine hread.mono ?_); clear hread; rintro e w3 ⟨rfl, hb3⟩; have hB3 := Lib.hid (HB.out.below hb3 HB.out.lt); have hcA3 := (hb3.cell (p := ⟨w1.heap.size, k, none⟩) HB.out.lt).trans hcA; have hfr3 := hB3.out.frozen k)
          go_roundw
          case rel => exact ⟨k + 1, pre ++ [x], by omega, by go_num, by simp [hpre], HA2, fun _ => by rw [← HMS.out]; exact hB3.out.set k (uV x), (hfoot.trans (Foot.of_below _ hb3)).setCell (p := ⟨w1.heap.size, k, none⟩) (.inl rfl) _⟩
          case measure => simp [intOf]; omega
      · obtain rfl : k = ws.length := by omega
        have ha2 := ha.out
        have hfin : A = some (pre ++ List.replicate (os.length - ws.length) 0) := by
          rw [← ha2, List.drop_length]
          have : ∀ l : List Nat, rdAll l [] = some (l.map fun _ => 0) := fun l => by cases l <;> rfl
          rw [this, Option.map_some, List.map_const', List.length_drop]
        have HRR := Lib.hid (HR1.out _ hfin)
        clear ha ha2 hfin
        go_wp2
        go_ret2
        rw [HRR.out]
        have hln : (pre ++ List.replicate (os.length - ws.length) 0).length = os.length := by simp [hpre]; omega
        refine ⟨_, rfl, ?_, hb1.trans (hbw.mono hb1.size)⟩
        by_cases h0 : 0 < os.length
        · have := rv_of_blk (hblk h0) (by omega)
          rw [hln] at this
          rw [hln]
          exact this
        · have e0 : os.length = 0 := by omega
          have : pre ++ List.replicate (os.length - ws.length) 0 = [] := List.eq_nil_of_length_eq_zero (by omega)
          rw [this, e0]
          exact ⟨_, _, rfl, Nat.le_refl _, by decide, (fun e => by cases e), rfl, .inl rfl⟩
end Go.Proofs.YtbdimfcdpkldpaaGreatDoor

namespace Go.Proofs.YtbdimfcdpkldpaaGreatDoor
open Go.RowKit

theorem opFrom_cases (l : List UInt8) : ∀ (f k : Nat), opFrom l k f = 0 ∨ (k ≤ opFrom l k f ∧ opFrom l k f < k + f)
  | 0, _ => .inl rfl
  | f + 1, k => by
    unfold opFrom
    split
    · right; omega
    · rcases opFrom_cases l f (k + 1) with h | h
      · exact .inl h
      · right; omega
theorem opOf_isOp (l : List UInt8) (h : ¬ opOf l = 0) : isOp (opOf l : Int) = true := by
  rcases opFrom_cases l 11 1 with h1 | h1
  · exact absurd h1 h
  · unfold isOp
    have e : opOf l = opFrom l 1 11 := rfl
    rw [e]
    simp
    omega
/-- What Parse answers. -/
def parseD (l : List UInt8) : Deed × Nat :=
  match wordsGo [] l with
  | [] => (zeroD, 15)
  | z :: ws => if opOf z = 0 then (zeroD, 15) else if (readR (opOf z) ws).2 = 0 then bldD (opOf z) (readR (opOf z) ws).1 else (zeroD, (readR (opOf z) ws).2)
theorem total_mem : ∀ (ws : List (List UInt8)) (l : List UInt8), l ∈ ws → l.length ≤ total ws
  | w :: ws, l, h => by
    rw [total_cons]
    rcases List.mem_cons.1 h with e | h
    · rw [e]; omega
    · have := total_mem ws l h; omega
theorem words_small (l : List UInt8) (hl : l.length ≤ 4000) : (wordsGo [] l).length ≤ 4000 ∧ ∀ z ∈ wordsGo [] l, z.length ≤ 4000 := by
  have ht := go_total l []
  have hn := len_total (wordsGo [] l) (go_words l [] (fun _ h => by cases h))
  simp at ht
  exact ⟨by omega, fun z hz => by have := total_mem _ z hz; omega⟩
theorem readR_len (op : Int) (ws : List (List UInt8)) (h : (readR op ws).2 = 0) : (opr op).length ≤ (readR op ws).1.length := by
  unfold readR at h ⊢
  split at h
  · rename_i hl
    rw [if_pos hl]
    split at h
    · rename_i xs hx
      have := rdAll_len _ _ _ hx
      exact Nat.le_of_eq this.symm
    · simp at h
  · simp at h
theorem readAll_any (op : Int) (ho : isOp op = true) (ws : List (List UInt8)) (hwl : ws.length ≤ 4000) (hlen : ∀ l ∈ ws, l.length ≤ 4000) (v : Value) (G : Nat → Prop) (w : World) (hv : RV w G v ws.length 1 (ws.map sV)) :
    Calls Tryz.prog 152 #[.int .i64 op, v] w fun e w' => ∃ xv, e = .returned (.tuple #[xv, .int .i64 ((readR op ws).2 : Nat)]) ∧ RV w' (fun _ => True) xv (readR op ws).1.length 1 ((readR op ws).1.map uV) ∧ Below w.heap.size w w' := by
  by_cases h : lenOk op (opr op).length ws.length = true
  · exact readAll_ok op ho ws h hlen v G w hv
  · have h' : lenOk op (opr op).length ws.length = false := by simpa using h
    have e : readR op ws = ([], 3) := by unfold readR; rw [if_neg h]
    rw [e]
    refine (readAll_form op ho ws hwl h' v G w hv).mono ?_
    rintro e w' ⟨rfl, hb⟩
    exact ⟨_, rfl, RV.nil _ _ _, hb⟩

theorem rv_tail {w : World} {G : Nat → Prop} {b off n c : Nat} {u : Value} {xs : List Value} (h : RV w G (.slice (some ⟨b, off, none⟩) (n + 1) c) (n + 1) 1 (u :: xs)) :
    RV w G (.slice (if c = 1 then some ⟨b, off, none⟩ else some ⟨b, off + 1, none⟩) n (c - 1)) n 1 xs := by
  have h1 := Wire.RV_rest h 1 (by omega)
  have e : (⟨b, off, none⟩ : Addr).add (1 * 1) = ⟨b, off + 1, none⟩ := by unfold Addr.add; split <;> simp_all
  rw [Option.map_some, e, Nat.add_sub_cancel] at h1
  exact h1
section
variable (s : ByteArray) (hs : s.size ≤ 4000) (w : World)
include hs
set_option maxHeartbeats 1000000 in
theorem Parse_none (hD : wordsGo [] s.data.toList = []) :
    Calls Tryz.prog 121 #[.string s] w fun e w' => e = .returned (.tuple #[.agg zeroD.cells, .int .i64 15]) ∧ Below w.heap.size w w' := by
  have hw := Words_any s hs
  rw [hD] at hw
  have hbr0 := Blk.new w 109 zeroD.cells
  have hb0 := below_alloc1 w (.cells zeroD.cells 109)
  go_enter Tryz.func121, Tryz.ntmps121
  go_wp2_with (first
    | (refine wpList_alloc_agg rfl 109 rfl zeroD.cells zeroR ?_)
    | (go_at_call 73; (with_reducible refine (hw _).mono ?_); clear hw; rintro e w1 ⟨v, rfl, hown, hb1⟩; have hbr1 := hbr0.below hb1 hbr0.lt; obtain ⟨p, c, rfl, _⟩ := id (RV.of_own hown))
    | (refine wpList_store_row rfl 109 _ _ rfl w.heap.size zeroD.cells rfl rfl 109 _ hbr1 (sizeD _) rfl (oneD _) ?_))
  refine bodyPost_ret (results_row_tmp rfl _ _ w.heap.size 109 zeroD.cells (0, 0) _ rfl (hbr1.row _) Tryz.underlying109 rfl (sizeD _)) rfl ?_
  exact ⟨rfl, (below_pre hb0 hb1).trans (foot_row _ (Nat.le_refl _))⟩

set_option maxHeartbeats 1000000 in
theorem Parse_word (z : List UInt8) (ws : List (List UInt8)) (hD : wordsGo [] s.data.toList = z :: ws) (h0 : opOf z = 0) :
    Calls Tryz.prog 121 #[.string s] w fun e w' => e = .returned (.tuple #[.agg zeroD.cells, .int .i64 15]) ∧ Below w.heap.size w w' := by
  have hw := Words_any s hs
  rw [hD] at hw
  have hbr0 := Blk.new w 109 zeroD.cells
  have hb0 := below_alloc1 w (.cells zeroD.cells 109)
  obtain ⟨Z, hZ⟩ : ∃ Z : ByteArray, Z = ⟨z.toArray⟩ := ⟨_, rfl⟩
  have hnm : ∀ w, Calls Tryz.prog 151 #[.string Z] w fun e w' => e = .returned (.tuple #[.int .i64 0, .bool false]) ∧ Below w.heap.size w w' := fun w => by
    have := named_any Z w
    rw [show Z.data.toList = z by rw [hZ], h0] at this
    exact this
  have HZ := Lib.hid hZ
  clear h0 hs hD hZ
  go_enter Tryz.func121, Tryz.ntmps121
  go_wp2_with (first
    | (refine wpList_alloc_agg rfl 109 rfl zeroD.cells zeroR ?_)
    | (go_at_call 73; (with_reducible refine (hw _).mono ?_); clear hw; rintro e w1 ⟨v, rfl, hown, hb1⟩; have hbr1 := hbr0.below hb1 hbr0.lt; obtain ⟨p, c, rfl, hnc, _⟩ := id (RV.of_own hown); obtain ⟨b, off, rfl, _, _, hcell⟩ := (RV.of_own hown).at1 0 (sV z) rfl; rw [Nat.add_zero, sV, ← HZ.out] at hcell; rw [List.length_cons] at hnc)
    | (go_at_call 151; (with_reducible refine (hnm _).mono ?_); clear hnm; rintro e w2 ⟨rfl, hb2⟩; have hbr2 := hbr1.below hb2 hbr1.lt)
    | (refine wpList_store_row rfl 109 _ _ rfl w.heap.size zeroD.cells rfl rfl 109 _ hbr2 (sizeD _) rfl (oneD _) ?_))
  refine bodyPost_ret (results_row_tmp rfl _ _ w.heap.size 109 zeroD.cells (0, 0) _ rfl (hbr2.row _) Tryz.underlying109 rfl (sizeD _)) rfl ?_
  exact ⟨rfl, (below_pre (below_pre hb0 hb1) hb2).trans (foot_row _ (Nat.le_refl _))⟩

set_option maxHeartbeats 2000000 in
theorem Parse_rest (z : List UInt8) (ws : List (List UInt8)) (hD : wordsGo [] s.data.toList = z :: ws) (h0 : ¬ opOf z = 0) (D : Deed) (y : Nat) (hDy : (if (readR (opOf z) ws).2 = 0 then bldD (opOf z) (readR (opOf z) ws).1 else (zeroD, (readR (opOf z) ws).2)) = (D, y)) :
    Calls Tryz.prog 121 #[.string s] w fun e w' => e = .returned (.tuple #[.agg D.cells, .int .i64 (y : Int)]) ∧ Below w.heap.size w w' := by
  have hw := Words_any s hs
  have hsm := words_small s.data.toList hs
  rw [hD] at hw hsm
  have hbr0 := Blk.new w 109 zeroD.cells
  have hb0 := below_alloc1 w (.cells zeroD.cells 109)
  obtain ⟨Z, hZ⟩ : ∃ Z : ByteArray, Z = ⟨z.toArray⟩ := ⟨_, rfl⟩
  have hnm : ∀ w, Calls Tryz.prog 151 #[.string Z] w fun e w' => e = .returned (.tuple #[.int .i64 (opOf z : Nat), .bool true]) ∧ Below w.heap.size w w' := fun w => by
    have := named_any Z w
    rw [show Z.data.toList = z by rw [hZ], show decide (opOf z ≠ 0) = true by simpa using h0] at this
    exact this
  have hop := opOf_isOp z h0
  have hra := readAll_any (opOf z : Int) hop ws (by have := hsm.1; simp at this; omega) (fun l hl => hsm.2 l (List.mem_cons_of_mem _ hl))
  have hbu := fun h xv G W hv => build_any (opOf z : Int) hop (readR (opOf z) ws).1 (readR_len _ _ h) xv G W hv
  have HZ := Lib.hid hZ
  simp only [Deed.val] at hbu
  have hwl : ws.length ≤ 3999 := by have := hsm.1; simp at this; omega
  generalize readR (opOf z) ws = R at *
  generalize opOf z = op at *
  have hy : (R.2 = 0 ∧ bldD op R.1 = (D, y)) ∨ (¬ R.2 = 0 ∧ D = zeroD ∧ y = R.2) := by
    by_cases h : R.2 = 0
    · rw [if_pos h] at hDy; exact .inl ⟨h, hDy⟩
    · rw [if_neg h] at hDy
      injection hDy with e1 e2
      exact .inr ⟨h, e1.symm, e2.symm⟩
  clear h0 hs hD hZ hsm hop hDy
  obtain ⟨xs, e⟩ := R
  simp only at hra hbu hy
  rcases hy with ⟨rfl, hb⟩ | ⟨he, rfl, rfl⟩
  · replace hbu := hbu rfl
    rw [hb] at hbu
    clear hb
    go_enter Tryz.func121, Tryz.ntmps121
    go_wp2_with (first
      | (refine wpList_alloc_agg rfl 109 rfl zeroD.cells zeroR ?_)
      | (go_at_call 73; (with_reducible refine (hw _).mono ?_); clear hw; rintro e w1 ⟨v, rfl, hown, hb1⟩; have hbr1 := hbr0.below hb1 hbr0.lt; obtain ⟨p, c, rfl, hnc, _⟩ := id (RV.of_own hown); obtain ⟨b, off, rfl, _, _, hcell⟩ := (RV.of_own hown).at1 0 (sV z) rfl; rw [Nat.add_zero, sV, ← HZ.out] at hcell; have hrr := (RV.of_own hown).mono (G' := fun b => b < w1.heap.size) (fun k hk _ => hk); rw [List.length_cons] at hnc)
      | (go_at_call 151; (with_reducible refine (hnm _).mono ?_); clear hnm; rintro e w2 ⟨rfl, hb2⟩; have hbr2 := hbr1.below hb2 hbr1.lt; have hrr2 := hrr.below hb2 (fun k _ hk => hk))
      | (go_at_call 152; refine (hra _ _ _ (rv_tail hrr2)).mono ?_; clear hra; rintro e w3 ⟨xv, rfl, hxv, hb3⟩; have hbr3 := hbr2.below hb3 hbr2.lt)
      | (go_at_call 142; refine (hbu _ _ _ hxv).mono ?_; clear hbu; rintro e w4 ⟨rfl, hb4⟩; have hbr4 := hbr3.below hb4 hbr3.lt)
      | (refine wpList_store_row rfl 109 _ _ rfl w.heap.size D.cells rfl rfl 109 _ hbr4 (sizeD _) rfl (oneD _) ?_))
    all_goals refine bodyPost_ret (results_row_tmp rfl _ _ w.heap.size 109 D.cells (0, 0) _ rfl (hbr4.row _) Tryz.underlying109 rfl (sizeD _)) rfl ?_
    all_goals exact ⟨rfl, (below_pre (below_pre (below_pre (below_pre hb0 hb1) hb2) hb3) hb4).trans (foot_row _ (Nat.le_refl _))⟩
  · have ty : ((y : Int) != 0) = true := by simp; omega
    clear hbu
    go_enter Tryz.func121, Tryz.ntmps121
    go_wp2_with (first
      | (refine wpList_alloc_agg rfl 109 rfl zeroD.cells zeroR ?_)
      | (go_at_call 73; (with_reducible refine (hw _).mono ?_); clear hw; rintro e w1 ⟨v, rfl, hown, hb1⟩; have hbr1 := hbr0.below hb1 hbr0.lt; obtain ⟨p, c, rfl, hnc, _⟩ := id (RV.of_own hown); obtain ⟨b, off, rfl, _, _, hcell⟩ := (RV.of_own hown).at1 0 (sV z) rfl; rw [Nat.add_zero, sV, ← HZ.out] at hcell; have hrr := (RV.of_own hown).mono (G' := fun b => b < w1.heap.size) (fun k hk _ => hk); rw [List.length_cons] at hnc)
      | (go_at_call 151; (with_reducible refine (hnm _).mono ?_); clear hnm; rintro e w2 ⟨rfl, hb2⟩; have hbr2 := hbr1.below hb2 hbr1.lt; have hrr2 := hrr.below hb2 (fun k _ hk => hk))
      | (go_at_call 152; refine (hra _ _ _ (rv_tail hrr2)).mono ?_; clear hra; rintro e w3 ⟨xv, rfl, hxv, hb3⟩; have hbr3 := hbr2.below hb3 hbr2.lt)
      | (refine wpList_store_row rfl 109 _ _ rfl w.heap.size zeroD.cells rfl rfl 109 _ hbr3 (sizeD _) rfl (oneD _) ?_))
    all_goals refine bodyPost_ret (results_row_tmp rfl _ _ w.heap.size 109 zeroD.cells (0, 0) _ rfl (hbr3.row _) Tryz.underlying109 rfl (sizeD _)) rfl ?_
    all_goals exact ⟨rfl, (below_pre (below_pre (below_pre hb0 hb1) hb2) hb3).trans (foot_row _ (Nat.le_refl _))⟩
theorem Parse_any : Calls Tryz.prog 121 #[.string s] w fun e w' => e = .returned (.tuple #[(parseD s.data.toList).1.val, .int .i64 ((parseD s.data.toList).2 : Nat)]) ∧ Below w.heap.size w w' := by
  unfold parseD
  cases hD : wordsGo [] s.data.toList with
  | nil => exact Parse_none s hs w hD
  | cons z ws =>
    by_cases h0 : opOf z = 0
    · simp only [if_pos h0]
      exact Parse_word s hs w z ws hD h0
    · simp only [if_neg h0]
      exact Parse_rest s hs w z ws hD h0 _ _ rfl
end
end Go.Proofs.YtbdimfcdpkldpaaGreatDoor
