/- The contract of deed's readAll. -/
import Derived.Test.YtbjmdcjoaapmiaaDoorD16
import Derived.Test.YtbjmdcjoaapmiaaDoorD5
import Derived.OwnWalk
namespace Go.Proofs.YtbjmdcjoaapmiaaDoor
open Go.RowKit

theorem rdC_some {o : Nat} {l : List UInt8} {x : Nat} (h : rdW o l = some x) : rdC o l = (x, 0) := by unfold rdC; rw [h]
theorem rdC_none {o : Nat} {l : List UInt8} (h : rdW o l = none) : rdC o l = (0, 3) := by unfold rdC; rw [h]
theorem made_cells (n : Nat) : (madeCells (Value.int .u64 0).cells (n * 1)).toList = (List.replicate n 0).map uV := by
  rw [Nat.mul_one]
  simp [madeCells, Value.cells, uV, Nat.mod_one, List.map_const']
theorem made_get (pre : List Nat) (k m : Nat) (hk : pre.length = k) (hm : 0 < m) : (((pre ++ List.replicate m 0).map uV).toArray)[k]? = some (uV 0) := by
  subst hk
  obtain ⟨j, rfl⟩ : ∃ j, m = j + 1 := ⟨m - 1, by omega⟩
  simp [List.replicate_succ]
theorem made_blk {w : World} {base g n : Nat} {xs : List Value} (h : w.ownsRow base 22 1 (.slice (some ⟨g, 0, none⟩) n n) n xs) (_hn : 0 < n) : Blk w g 22 xs.toArray := by
  obtain ⟨hl, ⟨hv, h0⟩ | ⟨g', cap, cur, hv, _, hg, hc, _, hs, ht⟩⟩ := h
  · cases hv
  · cases hv
    unfold Blk
    rw [hg]
    have : cur.toList.length = n := by simpa using hs
    rw [← ht, Nat.mul_one, List.take_of_length_le (by omega), Array.toArray_toList]
theorem rv_of_blk {w : World} {g : Nat} {xs : List Nat} (h : Blk w g 22 ((xs.map uV).toArray)) (hm : xs.length ≤ 1000) : RV w (fun _ => True) (.slice (some ⟨g, 0, none⟩) xs.length xs.length) xs.length 1 (xs.map uV) :=
  ⟨_, _, rfl, Nat.le_refl _, by unfold maxLen; omega, (fun e => by cases e), by simp, .inr ⟨g, 0, rfl, h.lt, trivial, fun j u hu => by rw [Nat.zero_add, h.cell]; simpa using hu⟩⟩

set_option maxHeartbeats 400000 in
theorem readAll_form (op : Int) (ho : isOp op = true) (ws : List (List UInt8)) (hwl : ws.length ≤ 1000) (hl : lenOk op (opr op).length ws.length = false) (v : Value) (G : Nat → Prop) (w : World) (hv : RV w G v ws.length 1 (ws.map sV)) :
    Calls Tryd.prog 39 #[.int .i64 op, v] w fun e w' => e = .returned (.tuple #[.slice none 0 0, .int .i64 3]) ∧ Below w.heap.size w w' := by
  have hops := operands_any op ho
  have h5 := opr_len op ho
  have hcase : (¬ ws.length = (opr op).length ∧ ¬ ws.length + 1 = (opr op).length) ∨ (ws.length + 1 = (opr op).length ∧ ¬ op = 2) := by
    unfold lenOk at hl
    simp only [Bool.or_eq_false_iff, beq_eq_false_iff_ne, Bool.and_eq_false_iff] at hl
    omega
  generalize (opr op) = os at *
  obtain ⟨pv, cv, rfl, _⟩ := id hv
  clear ho hl hv
  rcases hcase with ⟨h1, h2⟩ | ⟨h1, h2⟩
  · have t0 : (((os.length : Int) - (ws.length : Int)) != 0) = true := by simp; omega
    have t1 : (((os.length : Int) - (ws.length : Int)) == 1) = false := by rw [beq_eq_false_iff_ne]; omega
    clear h1 h2
    go_enter Tryd.func39, Tryd.ntmps39
    go_wp2_with (go_at_call 33; (with_reducible refine (hops _).mono ?_); clear hops; rintro e w1 ⟨lv, rfl, hown1, hb1⟩; obtain ⟨p, c, rfl, _⟩ := id (RV.of_own hown1))
    go_ret2
    exact ⟨rfl, hb1⟩
  · have t0 : (((os.length : Int) - (ws.length : Int)) != 0) = true := by simp; omega
    have t1 : (((os.length : Int) - (ws.length : Int)) == 1) = true := by rw [beq_iff_eq]; omega
    have t2 : (op == 2) = false := by rw [beq_eq_false_iff_ne]; exact h2
    clear h1 h2
    go_enter Tryd.func39, Tryd.ntmps39
    go_wp2_with (go_at_call 33; (with_reducible refine (hops _).mono ?_); clear hops; rintro e w1 ⟨lv, rfl, hown1, hb1⟩; obtain ⟨p, c, rfl, _⟩ := id (RV.of_own hown1))
    go_ret2
    exact ⟨rfl, hb1⟩

set_option maxHeartbeats 4000000 in
theorem readAll_ok (op : Int) (ho : isOp op = true) (ws : List (List UInt8)) (hl : lenOk op (opr op).length ws.length = true) (hlen : ∀ l ∈ ws, l.length ≤ 1000) (v : Value) (G : Nat → Prop) (w : World) (hv : RV w G v ws.length 1 (ws.map sV)) :
    Calls Tryd.prog 39 #[.int .i64 op, v] w fun e w' => ∃ xv, e = .returned (.tuple #[xv, .int .i64 ((readR op ws).2 : Nat)]) ∧ RV w' (fun _ => True) xv (readR op ws).1.length 1 ((readR op ws).1.map uV) ∧ Below w.heap.size w w' := by
  obtain ⟨i0, hi, hz0, hz1, hz2⟩ := info_parts infoU
  have hops := operands_any op ho
  have h5 := opr_len op ho
  have h7 := Lib.hid (opr_lt op ho)
  have hR1 : ∀ xs, rdAll ((opr op).drop 0) (ws.drop 0) = some xs → readR op ws = (xs, 0) := fun xs h => by unfold readR; rw [if_pos hl]; rw [List.drop_zero, List.drop_zero] at h; rw [h]
  have hR2 : rdAll ((opr op).drop 0) (ws.drop 0) = none → readR op ws = ([], 3) := fun h => by unfold readR; rw [if_pos hl]; rw [List.drop_zero, List.drop_zero] at h; rw [h]
  generalize readR op ws = R at *
  have hcase : ws.length = (opr op).length ∨ (ws.length + 1 = (opr op).length ∧ op = 2) := by
    unfold lenOk at hl
    simp only [Bool.or_eq_true, beq_iff_eq, Bool.and_eq_true] at hl
    exact hl
  generalize (opr op) = os at *
  obtain ⟨A, hA⟩ : ∃ A, rdAll (os.drop 0) (ws.drop 0) = A := ⟨_, rfl⟩
  have HA : Hid ((rdAll (os.drop 0) (ws.drop 0)).map ([] ++ ·) = A) := Lib.hid (by rw [hA]; cases A <;> rfl)
  rw [hA] at hR1 hR2
  have HR1 := Lib.hid hR1
  have HR2 := Lib.hid hR2
  have HLEN := Lib.hid hlen
  clear hR1 hR2 hA hl ho hlen
  have hwn : ws.length ≤ os.length := by omega
  obtain ⟨pv, cv, rfl, _⟩ := id hv
  have htt : (ws.length = os.length ∧ (((os.length : Int) - (ws.length : Int)) != 0) = false) ∨ ((((os.length : Int) - (ws.length : Int)) != 0) = true ∧ (((os.length : Int) - (ws.length : Int)) == 1) = true ∧ (op == 2) = true) := by
    rcases hcase with h1 | ⟨h1, rfl⟩
    · exact .inl ⟨h1, by simp; omega⟩
    · refine .inr ⟨by simp; omega, by rw [beq_iff_eq]; omega, rfl⟩
  clear hcase
  rcases htt with ⟨_, t0⟩ | ⟨t0, t1, t2⟩
  all_goals
    go_enter Tryd.func39, Tryd.ntmps39
    go_wp2_with (first
      | (go_at_call 33; (with_reducible refine (hops _).mono ?_); clear hops; rintro e w1 ⟨lv, rfl, hown1, hb1⟩; obtain ⟨p, c, rfl, _⟩ := id (RV.of_own hown1))
      | (refine wpList_make_full _ rfl _ _ 53 rfl w1.heap.size 22 i0 (.int .u64 0) 1 Tryd.underlying53 hi hz0 hz1 .i64 .i64 _ _ os.length rfl rfl rfl rfl (by rw [hz2]; omega) (by unfold maxLen; omega) (Nat.le_refl _) ?_; intro w2 hownA hgA))
    have hb2 : Below w1.heap.size w1 w2 := (Below.refl _ _).grown hgA (Nat.le_refl _) (fun k hk => by cases hk)
    have hr := (RV.of_own hown1).mono (G' := fun b => b < w1.heap.size) (fun k hk _ => hk)
    have hr2 := hr.below hb2 (fun k _ hk => hk)
    rw [made_cells] at hownA
    clear hgA hown1
    go_loopw [36] (fun t wr => ∃ (k : Nat) (pre : List Nat), k ≤ ws.length ∧ t = .int .i64 k ∧ pre.length = k ∧ Hid ((rdAll (os.drop k) (ws.drop k)).map (pre ++ ·) = A) ∧ (0 < os.length → Blk wr w1.heap.size 22 (((pre ++ List.replicate (os.length - k) 0).map uV).toArray)) ∧ Foot (fun b => b = w1.heap.size) w2 wr) (fun t _ => ws.length - (intOf t).toNat)
    case atStart => exact ⟨0, [], by omega, rfl, rfl, HA, fun h0 => by simpa using made_blk hownA h0, Foot.refl _ _⟩
    case round =>
      obtain ⟨k, pre, hk, rfl, hpre, ha, hblk, hfoot⟩ := hrel
      have hbw : Below w1.heap.size w1 wr := hb2.trans (hfoot.below hb2.size (fun b hb => by omega))
      by_cases hlt : k < ws.length
      · obtain ⟨o, ho1⟩ : ∃ o, os[k]? = some o := ⟨_, List.getElem?_eq_getElem (by omega)⟩
        obtain ⟨z, hz⟩ : ∃ z, ws[k]? = some z := ⟨_, List.getElem?_eq_getElem hlt⟩
        have ho7 := h7.out o (List.mem_of_getElem? ho1)
        have hzl := HLEN.out z (List.mem_of_getElem? hz)
        have ha2 := ha.out
        rw [drop_cons os k o ho1, drop_cons ws k z hz] at ha2
        obtain ⟨b, off, rfl, _, _, hcell0⟩ := (hr.below hbw (fun k _ hk => hk)).at1 k (oV o) (by rw [List.getElem?_map, ho1]; rfl)
        have hcell : wr.cell? ⟨b, off + k, none⟩ = some (.int .i64 (o : Int)) := hcell0
        obtain ⟨b2, off2, rfl, _, _, hcell1⟩ := (hv.below (hb1.trans (hbw.mono hb1.size)) (fun k hk _ => hk)).at1 k (sV z) (by rw [List.getElem?_map, hz]; rfl)
        unfold sV at hcell1
        obtain ⟨Z, hZ⟩ : ∃ Z : ByteArray, Z = ⟨z.toArray⟩ := ⟨_, rfl⟩
        have hZl : Z.data.toList = z := by rw [hZ]
        rw [← hZ] at hcell1
        have hread := read_any o ho7 Z wr
        rw [hZl] at hread
        have hkn : k < os.length := by omega
        replace hblk := hblk (by omega)
        have hfr := hblk.frozen k
        have hcA : wr.cell? ⟨w1.heap.size, k, none⟩ = some (.int .u64 0) := by rw [hblk.cell]; exact made_get pre k _ hpre (by omega)
        clear ho1 hz hcell0 hZ hZl hzl ha
        cases hrd : rdW o z with
        | none =>
          rw [rdC_none hrd] at hread
          have hA : A = none := by rw [← ha2]; simp [rdAll, hrd]
          have HRR := Lib.hid (HR2.out hA)
          clear ha2 hA hrd
          go_wp2_with (go_at_call 66; (with_reducible refine hread.mono ?_); clear hread; rintro e w3 ⟨rfl, hb3⟩)
          go_ret2
          rw [HRR.out]
          exact ⟨_, rfl, RV.nil _ _ _, hb1.trans ((hbw.trans (hb3.mono hbw.size)).mono hb1.size)⟩
        | some x =>
          rw [rdC_some hrd] at hread
          have hA : (rdAll (os.drop (k + 1)) (ws.drop (k + 1))).map ((pre ++ [x]) ++ ·) = A := by
            rw [← ha2, rdAll, hrd]
            cases rdAll (os.drop (k + 1)) (ws.drop (k + 1)) <;> simp
          have HA2 := Lib.hid hA
          have hms := made_set pre k (os.length - (k + 1)) x hpre
          rw [show os.length - (k + 1) + 1 = os.length - k by omega] at hms
          have HMS := Lib.hid hms
          have HB := Lib.hid hblk
          clear ha2 hA hrd hms hblk
          go_wp2_with (go_at_call 66; (with_reducible refine hread.mono ?_); clear hread; rintro e w3 ⟨rfl, hb3⟩; have hB3 := Lib.hid (HB.out.below hb3 HB.out.lt); have hcA3 := (hb3.cell (p := ⟨w1.heap.size, k, none⟩) HB.out.lt).trans hcA; have hfr3 := hB3.out.frozen k)
          go_roundw
          case rel => exact ⟨k + 1, pre ++ [x], by omega, by go_num, by simp [hpre], HA2, fun _ => by rw [← HMS.out]; exact hB3.out.set k (uV x), (hfoot.trans (Foot.of_below _ hb3)).setCell (p := ⟨w1.heap.size, k, none⟩) (.inl rfl) _⟩
          case measure => simp [intOf]; omega
      · obtain rfl : k = ws.length := by omega
        have ha2 := ha.out
        have hfin : A = some (pre ++ List.replicate (os.length - ws.length) 0) := by
          rw [← ha2, List.drop_length]
          have : ∀ l : List Nat, rdAll l [] = some (l.map fun _ => 0) := fun l => by cases l <;> rfl
          rw [this, Option.map_some, List.map_const', List.length_drop]
        have HRR := Lib.hid (HR1.out _ hfin)
        clear ha ha2 hfin
        go_wp2
        go_ret2
        rw [HRR.out]
        have hln : (pre ++ List.replicate (os.length - ws.length) 0).length = os.length := by simp [hpre]; omega
        refine ⟨_, rfl, ?_, hb1.trans (hbw.mono hb1.size)⟩
        by_cases h0 : 0 < os.length
        · have := rv_of_blk (hblk h0) (by omega)
          rw [hln] at this
          rw [hln]
          exact this
        · have e0 : os.length = 0 := by omega
          have : pre ++ List.replicate (os.length - ws.length) 0 = [] := List.eq_nil_of_length_eq_zero (by omega)
          rw [this, e0]
          exact ⟨_, _, rfl, Nat.le_refl _, by decide, (fun e => by cases e), rfl, .inl rfl⟩
end Go.Proofs.YtbjmdcjoaapmiaaDoor
