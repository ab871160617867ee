/- The contracts of slices.Equal at numbers, starts and instructions, and of EqualFunc at programs. -/
import Derived.Test.YtbdimfcdpkldpaaDoorZ6
import Derived.Test.YtbdimfcdpkldpaaDoorZ8
namespace Go.Proofs.YtbdimfcdpkldpaaDoor
open Go.RowKit


set_option maxRecDepth 100000 in
set_option maxHeartbeats 4000000 in
theorem EqualU_any (p p' : Option Addr) (c c' : Nat) (xs ys : List Nat) (hl1 : xs.length ≤ 100000) (G G' : Nat → Prop) (w : World) (h : RV w G (.slice p xs.length c) xs.length 1 (xs.map uV)) (h' : RV w G' (.slice p' ys.length c') ys.length 1 (ys.map uV)) (R9 : Bool) (hR9 : R9 = true ↔ xs = ys) :
    Calls Tryd.prog 20 #[.slice p xs.length c, .slice p' ys.length c'] w fun e w' => e = .returned (.bool R9) ∧ Below w.heap.size w w' := by
  have HR := Lib.hid hR9
  have H := Lib.hid h
  have H' := Lib.hid h'
  clear h h' hR9
  by_cases hl : xs.length = ys.length
  · have ht : ((xs.length : Int) != (ys.length : Int)) = false := by simp [hl]
    have HL := Lib.hid hl
    clear hl
    go_enter Tryd.func20, Tryd.ntmps20
    go_wp2
    go_loopw [13] (fun t wr => ∃ k : Nat, k ≤ xs.length ∧ t = .int .i64 k ∧ Hid (xs.take k = ys.take k) ∧ Hid (RV wr G (.slice p xs.length c) xs.length 1 (xs.map uV)) ∧ Hid (RV wr G' (.slice p' ys.length c') ys.length 1 (ys.map uV)) ∧ Below w.heap.size w wr) (fun t _ => xs.length - (intOf t).toNat)
    case atStart => exact ⟨0, by omega, rfl, Lib.hid (by simp), H, H', Below.refl _ _⟩
    case round =>
      obtain ⟨k, hk, rfl, hg, hP, hQ, hb⟩ := hrel
      clear H H'
      by_cases hlt : k < xs.length
      · have hlt' : k < ys.length := by have := HL.out; omega
        obtain ⟨x, hx⟩ : ∃ x, xs[k]? = some x := ⟨_, List.getElem?_eq_getElem hlt⟩
        obtain ⟨y, hy⟩ : ∃ y, ys[k]? = some y := ⟨_, List.getElem?_eq_getElem hlt'⟩
        obtain ⟨b1, o1, rfl, _, _, hc1⟩ := hP.out.atU hx
        obtain ⟨b2, o2, rfl, _, _, hc2⟩ := hQ.out.atU hy
        have hc1' : wr.drew.cell? ⟨b1, o1 + k, none⟩ = some (.int .u64 (x : Int)) := hc1
        have hc2' : wr.drew.cell? ⟨b2, o2 + k, none⟩ = some (.int .u64 (y : Int)) := hc2
        obtain ⟨R, hR⟩ : ∃ R, decide (x = y) = R := ⟨_, rfl⟩
        have hne : ((x : Int) != (y : Int)) = !R := by rw [← hR, Bool.eq_iff_iff]; simp; omega
        have HX := Lib.hid hx
        have HY := Lib.hid hy
        clear hx hy
        go_wp2_with fail
        refine wp_region_held_drew (S := fun w' => w' = wr.drew) (by kernel_rfl) rfl (fun hS0 => ?_)
        refine wpAnyH_take (i := 0) (v := ?_) rfl (by kernel_rfl) (by kernel_rfl) (by kernel_rfl) (fun _ _ _ h => h) (Or.inl ⟨by rfl, ?_⟩) hS0 ?_
        rotate_left
        · intro w1 _; go_simp; with_reducible rfl
        try simp only [List.getElem_toArray, List.getElem_cons_zero, Act.put, List.setIfInBounds_toArray, List.set_cons_zero, List.set_cons_succ]
        refine wpAnyH_take (i := 1) (v := ?_) rfl (by kernel_rfl) (by kernel_rfl) (by kernel_rfl) (fun _ _ _ h => h) (Or.inl ⟨by rfl, ?_⟩) hS0 ?_
        rotate_left
        · intro w1 _; go_simp; with_reducible rfl
        try simp only [List.getElem_toArray, List.getElem_cons_zero, List.getElem_cons_succ, Act.put, List.setIfInBounds_toArray, List.set_cons_zero, List.set_cons_succ]
        refine wpAnyH_take (i := 2) (v := ?_) rfl (by kernel_rfl) (by kernel_rfl) (by kernel_rfl) (fun _ _ _ h => h) (Or.inl ⟨by rfl, ?_⟩) hS0 ?_
        rotate_left
        · intro w1 _; go_simp; with_reducible rfl
        try simp only [List.getElem_toArray, List.getElem_cons_zero, List.getElem_cons_succ, Act.put, List.setIfInBounds_toArray, List.set_cons_zero, List.set_cons_succ]
        refine wpAnyH_take (i := 3) (v := .int .u64 (x : Int)) rfl (by kernel_rfl) (by kernel_rfl) (by kernel_rfl) (fun _ _ _ h => h) (Or.inl ⟨by rfl, fun w1 hS1 => by subst hS1; go_simp⟩) hS0 ?_
        try simp only [List.getElem_toArray, List.getElem_cons_zero, List.getElem_cons_succ, Act.put, List.setIfInBounds_toArray, List.set_cons_zero, List.set_cons_succ]
        refine wpAnyH_take (i := 4) (v := ?_) rfl (by kernel_rfl) (by kernel_rfl) (by kernel_rfl) (fun _ _ _ h => h) (Or.inl ⟨by rfl, ?_⟩) hS0 ?_
        rotate_left
        · intro w1 _; go_simp; with_reducible rfl
        try simp only [List.getElem_toArray, List.getElem_cons_zero, List.getElem_cons_succ, Act.put, List.setIfInBounds_toArray, List.set_cons_zero, List.set_cons_succ]
        refine wpAnyH_take (i := 5) (v := ?_) rfl (by kernel_rfl) (by kernel_rfl) (by kernel_rfl) (fun _ _ _ h => h) (Or.inl ⟨by rfl, ?_⟩) hS0 ?_
        rotate_left
        · intro w1 _; go_simp; with_reducible rfl
        try simp only [List.getElem_toArray, List.getElem_cons_zero, List.getElem_cons_succ, Act.put, List.setIfInBounds_toArray, List.set_cons_zero, List.set_cons_succ]
        refine wpAnyH_take (i := 6) (v := ?_) rfl (by kernel_rfl) (by kernel_rfl) (by kernel_rfl) (fun _ _ _ h => h) (Or.inl ⟨by rfl, ?_⟩) hS0 ?_
        rotate_left
        · intro w1 _; go_simp; with_reducible rfl
        try simp only [List.getElem_toArray, List.getElem_cons_zero, List.getElem_cons_succ, Act.put, List.setIfInBounds_toArray, List.set_cons_zero, List.set_cons_succ]
        refine wpAnyH_take (i := 7) (v := .int .u64 (y : Int)) rfl (by kernel_rfl) (by kernel_rfl) (by kernel_rfl) (fun _ _ _ h => h) (Or.inl ⟨by rfl, fun w1 hS1 => by subst hS1; go_simp⟩) hS0 ?_
        try simp only [List.getElem_toArray, List.getElem_cons_zero, List.getElem_cons_succ, Act.put, List.setIfInBounds_toArray, List.set_cons_zero, List.set_cons_succ]
        refine wpAnyH_take (i := 8) (v := .bool (!R)) rfl (by kernel_rfl) (by kernel_rfl) (by kernel_rfl) (fun _ _ _ h => h) (Or.inl ⟨by rfl, fun w1 hS1 => by go_simp; first | done | rw [hne]⟩) hS0 ?_
        try simp only [List.getElem_toArray, List.getElem_cons_zero, List.getElem_cons_succ, Act.put, List.setIfInBounds_toArray, List.set_cons_zero, List.set_cons_succ]
        refine wpAnyH_done (by kernel_rfl) ?_ _
        cases R
        · go_wp2
          go_ret
          have hz : R9 = false := by rw [Bool.eq_false_iff]; exact fun hh => sameL_not HX.out HY.out (fun e => by rw [decide_eq_true e] at hR; cases hR) (HR.out.1 hh)
          exact ⟨ret_b9 hz.symm, hb.drew⟩
        · have hst : x = y := of_decide_eq_true hR
          have HG2 := Lib.hid ((sameL_at HX.out HY.out hg.out).2 hst)
          clear hst hR
          go_wp2
          go_roundw
          case rel => exact ⟨k + 1, by omega, by go_num, HG2, Lib.hid (RV.drew hP.out), Lib.hid (RV.drew hQ.out), hb.drew⟩
          case measure => simp [intOf]; omega
      · obtain rfl : k = xs.length := by omega
        have hx := hg.out
        rw [List.take_length, HL.out, List.take_length] at hx
        have hz : R9 = true := HR.out.2 hx
        go_wp2
        go_ret
        exact ⟨ret_b9 hz.symm, hb⟩
  · have ht : ((xs.length : Int) != (ys.length : Int)) = true := by simp; omega
    have hz : R9 = false := by rw [Bool.eq_false_iff]; exact fun hh => hl (by rw [HR.out.1 hh])
    have HZ := Lib.hid hz
    clear hl hz
    go_enter Tryd.func20, Tryd.ntmps20
    go_wp2
    go_ret
    exact ⟨ret_b9 HZ.out.symm, Below.refl _ _⟩

set_option maxRecDepth 100000 in
set_option maxHeartbeats 4000000 in
theorem EqualS_any (p p' : Option Addr) (c c' : Nat) (xs ys : List St) (hl1 : xs.length ≤ 100000) (G G' : Nat → Prop) (w : World) (h : RSs w G (.slice p xs.length c) xs) (h' : RSs w G' (.slice p' ys.length c') ys) (R9 : Bool) (hR9 : R9 = true ↔ xs = ys) :
    Calls Tryd.prog 24 #[.slice p xs.length c, .slice p' ys.length c'] w fun e w' => e = .returned (.bool R9) ∧ Below w.heap.size w w' := by
  have HR := Lib.hid hR9
  have H := Lib.hid h
  have H' := Lib.hid h'
  clear h h' hR9
  by_cases hl : xs.length = ys.length
  · have ht : ((xs.length : Int) != (ys.length : Int)) = false := by simp [hl]
    have HL := Lib.hid hl
    clear hl
    go_enter Tryd.func24, Tryd.ntmps24
    go_wp2
    go_loopw [13] (fun t wr => ∃ k : Nat, k ≤ xs.length ∧ t = .int .i64 k ∧ Hid (xs.take k = ys.take k) ∧ Hid (RSs wr G (.slice p xs.length c) xs) ∧ Hid (RSs wr G' (.slice p' ys.length c') ys) ∧ Below w.heap.size w wr) (fun t _ => xs.length - (intOf t).toNat)
    case atStart => exact ⟨0, by omega, rfl, Lib.hid (by simp), H, H', Below.refl _ _⟩
    case round =>
      obtain ⟨k, hk, rfl, hg, hP, hQ, hb⟩ := hrel
      clear H H'
      by_cases hlt : k < xs.length
      · have hlt' : k < ys.length := by have := HL.out; omega
        obtain ⟨x, hx⟩ : ∃ x, xs[k]? = some x := ⟨_, List.getElem?_eq_getElem hlt⟩
        obtain ⟨y, hy⟩ : ∃ y, ys[k]? = some y := ⟨_, List.getElem?_eq_getElem hlt'⟩
        obtain ⟨b1, o1, rfl, _, _, _, e0, e1, e2⟩ := hP.out.at hx
        obtain ⟨b2, o2, rfl, _, _, _, f0, f1, f2⟩ := hQ.out.at hy
        obtain ⟨R, hR⟩ : ∃ R, decide (x = y) = R := ⟨_, rfl⟩
        have HX := Lib.hid hx
        have HY := Lib.hid hy
        clear hx hy
        go_wp2_with fail
        refine wp_region_held_drew (S := fun w' => w' = wr.drew) (by kernel_rfl) rfl (fun hS0 => ?_)
        refine wpAnyH_take (i := 0) (v := ?_) rfl (by kernel_rfl) (by kernel_rfl) (by kernel_rfl) (fun _ _ _ h => h) (Or.inl ⟨by rfl, ?_⟩) hS0 ?_
        rotate_left
        · intro w1 _; go_simp; with_reducible rfl
        try simp only [List.getElem_toArray, List.getElem_cons_zero, Act.put, List.setIfInBounds_toArray, List.set_cons_zero, List.set_cons_succ]
        refine wpAnyH_take (i := 1) (v := ?_) rfl (by kernel_rfl) (by kernel_rfl) (by kernel_rfl) (fun _ _ _ h => h) (Or.inl ⟨by rfl, ?_⟩) hS0 ?_
        rotate_left
        · intro w1 _; go_simp; with_reducible rfl
        try simp only [List.getElem_toArray, List.getElem_cons_zero, List.getElem_cons_succ, Act.put, List.setIfInBounds_toArray, List.set_cons_zero, List.set_cons_succ]
        refine wpAnyH_take (i := 2) (v := ?_) rfl (by kernel_rfl) (by kernel_rfl) (by kernel_rfl) (fun _ _ _ h => h) (Or.inl ⟨by rfl, ?_⟩) hS0 ?_
        rotate_left
        · intro w1 _; go_simp; with_reducible rfl
        try simp only [List.getElem_toArray, List.getElem_cons_zero, List.getElem_cons_succ, Act.put, List.setIfInBounds_toArray, List.set_cons_zero, List.set_cons_succ]
        refine wpAnyH_take (i := 3) (v := .agg #[.int .i64 x.prog, .int .i64 x.grade, .int .u64 (x.mask : Int)]) rfl (by kernel_rfl) (by kernel_rfl) (by kernel_rfl) (fun _ _ _ h => h) (Or.inl ⟨by rfl, fun w1 hS1 => by subst hS1; go_simp⟩) hS0 ?_
        try simp only [List.getElem_toArray, List.getElem_cons_zero, List.getElem_cons_succ, Act.put, List.setIfInBounds_toArray, List.set_cons_zero, List.set_cons_succ]
        refine wpAnyH_take (i := 4) (v := ?_) rfl (by kernel_rfl) (by kernel_rfl) (by kernel_rfl) (fun _ _ _ h => h) (Or.inl ⟨by rfl, ?_⟩) hS0 ?_
        rotate_left
        · intro w1 _; go_simp; with_reducible rfl
        try simp only [List.getElem_toArray, List.getElem_cons_zero, List.getElem_cons_succ, Act.put, List.setIfInBounds_toArray, List.set_cons_zero, List.set_cons_succ]
        refine wpAnyH_take (i := 5) (v := ?_) rfl (by kernel_rfl) (by kernel_rfl) (by kernel_rfl) (fun _ _ _ h => h) (Or.inl ⟨by rfl, ?_⟩) hS0 ?_
        rotate_left
        · intro w1 _; go_simp; with_reducible rfl
        try simp only [List.getElem_toArray, List.getElem_cons_zero, List.getElem_cons_succ, Act.put, List.setIfInBounds_toArray, List.set_cons_zero, List.set_cons_succ]
        refine wpAnyH_take (i := 6) (v := ?_) rfl (by kernel_rfl) (by kernel_rfl) (by kernel_rfl) (fun _ _ _ h => h) (Or.inl ⟨by rfl, ?_⟩) hS0 ?_
        rotate_left
        · intro w1 _; go_simp; with_reducible rfl
        try simp only [List.getElem_toArray, List.getElem_cons_zero, List.getElem_cons_succ, Act.put, List.setIfInBounds_toArray, List.set_cons_zero, List.set_cons_succ]
        refine wpAnyH_take (i := 7) (v := .agg #[.int .i64 y.prog, .int .i64 y.grade, .int .u64 (y.mask : Int)]) rfl (by kernel_rfl) (by kernel_rfl) (by kernel_rfl) (fun _ _ _ h => h) (Or.inl ⟨by rfl, fun w1 hS1 => by subst hS1; go_simp⟩) hS0 ?_
        try simp only [List.getElem_toArray, List.getElem_cons_zero, List.getElem_cons_succ, Act.put, List.setIfInBounds_toArray, List.set_cons_zero, List.set_cons_succ]
        refine wpAnyH_take (i := 8) (v := .bool (!R)) rfl (by kernel_rfl) (by kernel_rfl) (by kernel_rfl) (fun _ _ _ h => h) (Or.inl ⟨by rfl, fun w1 hS1 => exec_neqS _ _ _ rfl x y rfl rfl R hR w1⟩) hS0 ?_
        try simp only [List.getElem_toArray, List.getElem_cons_zero, List.getElem_cons_succ, Act.put, List.setIfInBounds_toArray, List.set_cons_zero, List.set_cons_succ]
        refine wpAnyH_done (by kernel_rfl) ?_ _
        cases R
        · go_wp2
          go_ret
          have hz : R9 = false := by rw [Bool.eq_false_iff]; exact fun hh => sameL_not HX.out HY.out (fun e => by rw [decide_eq_true e] at hR; cases hR) (HR.out.1 hh)
          exact ⟨ret_b9 hz.symm, hb.drew⟩
        · have hst : x = y := of_decide_eq_true hR
          have HG2 := Lib.hid ((sameL_at HX.out HY.out hg.out).2 hst)
          clear hst hR
          go_wp2
          go_roundw
          case rel => exact ⟨k + 1, by omega, by go_num, HG2, Lib.hid (RSs.drew hP.out), Lib.hid (RSs.drew hQ.out), hb.drew⟩
          case measure => simp [intOf]; omega
      · obtain rfl : k = xs.length := by omega
        have hx := hg.out
        rw [List.take_length, HL.out, List.take_length] at hx
        have hz : R9 = true := HR.out.2 hx
        go_wp2
        go_ret
        exact ⟨ret_b9 hz.symm, hb⟩
  · have ht : ((xs.length : Int) != (ys.length : Int)) = true := by simp; omega
    have hz : R9 = false := by rw [Bool.eq_false_iff]; exact fun hh => hl (by rw [HR.out.1 hh])
    have HZ := Lib.hid hz
    clear hl hz
    go_enter Tryd.func24, Tryd.ntmps24
    go_wp2
    go_ret
    exact ⟨ret_b9 HZ.out.symm, Below.refl _ _⟩

set_option maxRecDepth 100000 in
set_option maxHeartbeats 4000000 in
theorem EqualD_any (p p' : Option Addr) (c c' : Nat) (xs ys : List Deed) (hl1 : xs.length ≤ 100000) (G G' : Nat → Prop) (w : World) (h : RP w G (.slice p xs.length c) xs) (h' : RP w G' (.slice p' ys.length c') ys) (R9 : Bool) (hR9 : R9 = true ↔ xs = ys) :
    Calls Tryd.prog 37 #[.slice p xs.length c, .slice p' ys.length c'] w fun e w' => e = .returned (.bool R9) ∧ Below w.heap.size w w' := by
  have HR := Lib.hid hR9
  have H := Lib.hid h
  have H' := Lib.hid h'
  clear h h' hR9
  by_cases hl : xs.length = ys.length
  · have ht : ((xs.length : Int) != (ys.length : Int)) = false := by simp [hl]
    have HL := Lib.hid hl
    clear hl
    go_enter Tryd.func37, Tryd.ntmps37
    go_wp2
    go_loopw [13] (fun t wr => ∃ k : Nat, k ≤ xs.length ∧ t = .int .i64 k ∧ Hid (xs.take k = ys.take k) ∧ Hid (RP wr G (.slice p xs.length c) xs) ∧ Hid (RP wr G' (.slice p' ys.length c') ys) ∧ Below w.heap.size w wr) (fun t _ => xs.length - (intOf t).toNat)
    case atStart => exact ⟨0, by omega, rfl, Lib.hid (by simp), H, H', Below.refl _ _⟩
    case round =>
      obtain ⟨k, hk, rfl, hg, hP, hQ, hb⟩ := hrel
      clear H H'
      by_cases hlt : k < xs.length
      · have hlt' : k < ys.length := by have := HL.out; omega
        obtain ⟨x, hx⟩ : ∃ x, xs[k]? = some x := ⟨_, List.getElem?_eq_getElem hlt⟩
        obtain ⟨y, hy⟩ : ∃ y, ys[k]? = some y := ⟨_, List.getElem?_eq_getElem hlt'⟩
        obtain ⟨b1, o1, rfl, _, _, hra, _⟩ := hP.out.at hx
        obtain ⟨b2, o2, rfl, _, _, hra', _⟩ := hQ.out.at hy
        have a0 : wr.cell? ⟨b1, o1 + k * 7, none⟩ = some (.int .i64 x.op) := hra 0 _ rfl
        have a1 : wr.cell? ⟨b1, o1 + k * 7 + 1, none⟩ = some (.int .i64 x.a) := hra 1 _ rfl
        have a2 : wr.cell? ⟨b1, o1 + k * 7 + 2, none⟩ = some (.int .i64 x.b) := hra 2 _ rfl
        have a3 : wr.cell? ⟨b1, o1 + k * 7 + 3, none⟩ = some (.int .i64 x.r) := hra 3 _ rfl
        have a4 : wr.cell? ⟨b1, o1 + k * 7 + 4, none⟩ = some (.int .u64 (x.n : Int)) := hra 4 _ rfl
        have a5 : wr.cell? ⟨b1, o1 + k * 7 + 5, none⟩ = some (.int .u64 (x.mask : Int)) := hra 5 _ rfl
        have a6 : wr.cell? ⟨b1, o1 + k * 7 + 6, none⟩ = some (.bool x.loose) := hra 6 _ rfl
        have q0 : wr.cell? ⟨b2, o2 + k * 7, none⟩ = some (.int .i64 y.op) := hra' 0 _ rfl
        have q1 : wr.cell? ⟨b2, o2 + k * 7 + 1, none⟩ = some (.int .i64 y.a) := hra' 1 _ rfl
        have q2 : wr.cell? ⟨b2, o2 + k * 7 + 2, none⟩ = some (.int .i64 y.b) := hra' 2 _ rfl
        have q3 : wr.cell? ⟨b2, o2 + k * 7 + 3, none⟩ = some (.int .i64 y.r) := hra' 3 _ rfl
        have q4 : wr.cell? ⟨b2, o2 + k * 7 + 4, none⟩ = some (.int .u64 (y.n : Int)) := hra' 4 _ rfl
        have q5 : wr.cell? ⟨b2, o2 + k * 7 + 5, none⟩ = some (.int .u64 (y.mask : Int)) := hra' 5 _ rfl
        have q6 : wr.cell? ⟨b2, o2 + k * 7 + 6, none⟩ = some (.bool y.loose) := hra' 6 _ rfl
        obtain ⟨R, hR⟩ : ∃ R, eqD x y = R := ⟨_, rfl⟩
        clear hra hra'
        have HX := Lib.hid hx
        have HY := Lib.hid hy
        clear hx hy
        go_wp2_with fail
        refine wp_region_held_drew (S := fun w' => w' = wr.drew) (by kernel_rfl) rfl (fun hS0 => ?_)
        refine wpAnyH_take (i := 0) (v := ?_) rfl (by kernel_rfl) (by kernel_rfl) (by kernel_rfl) (fun _ _ _ h => h) (Or.inl ⟨by rfl, ?_⟩) hS0 ?_
        rotate_left
        · intro w1 _; go_simp; with_reducible rfl
        try simp only [List.getElem_toArray, List.getElem_cons_zero, Act.put, List.setIfInBounds_toArray, List.set_cons_zero, List.set_cons_succ]
        refine wpAnyH_take (i := 1) (v := ?_) rfl (by kernel_rfl) (by kernel_rfl) (by kernel_rfl) (fun _ _ _ h => h) (Or.inl ⟨by rfl, ?_⟩) hS0 ?_
        rotate_left
        · intro w1 _; go_simp; with_reducible rfl
        try simp only [List.getElem_toArray, List.getElem_cons_zero, List.getElem_cons_succ, Act.put, List.setIfInBounds_toArray, List.set_cons_zero, List.set_cons_succ]
        refine wpAnyH_take (i := 2) (v := ?_) rfl (by kernel_rfl) (by kernel_rfl) (by kernel_rfl) (fun _ _ _ h => h) (Or.inl ⟨by rfl, ?_⟩) hS0 ?_
        rotate_left
        · intro w1 _; go_simp; with_reducible rfl
        try simp only [List.getElem_toArray, List.getElem_cons_zero, List.getElem_cons_succ, Act.put, List.setIfInBounds_toArray, List.set_cons_zero, List.set_cons_succ]
        refine wpAnyH_take (i := 3) (v := .agg x.cells) rfl (by kernel_rfl) (by kernel_rfl) (by kernel_rfl) (fun _ _ _ h => h) (Or.inl ⟨by rfl, fun w1 hS1 => by subst hS1; go_simp; first | done | rfl⟩) hS0 ?_
        try simp only [List.getElem_toArray, List.getElem_cons_zero, List.getElem_cons_succ, Act.put, List.setIfInBounds_toArray, List.set_cons_zero, List.set_cons_succ]
        refine wpAnyH_take (i := 4) (v := ?_) rfl (by kernel_rfl) (by kernel_rfl) (by kernel_rfl) (fun _ _ _ h => h) (Or.inl ⟨by rfl, ?_⟩) hS0 ?_
        rotate_left
        · intro w1 _; go_simp; with_reducible rfl
        try simp only [List.getElem_toArray, List.getElem_cons_zero, List.getElem_cons_succ, Act.put, List.setIfInBounds_toArray, List.set_cons_zero, List.set_cons_succ]
        refine wpAnyH_take (i := 5) (v := ?_) rfl (by kernel_rfl) (by kernel_rfl) (by kernel_rfl) (fun _ _ _ h => h) (Or.inl ⟨by rfl, ?_⟩) hS0 ?_
        rotate_left
        · intro w1 _; go_simp; with_reducible rfl
        try simp only [List.getElem_toArray, List.getElem_cons_zero, List.getElem_cons_succ, Act.put, List.setIfInBounds_toArray, List.set_cons_zero, List.set_cons_succ]
        refine wpAnyH_take (i := 6) (v := ?_) rfl (by kernel_rfl) (by kernel_rfl) (by kernel_rfl) (fun _ _ _ h => h) (Or.inl ⟨by rfl, ?_⟩) hS0 ?_
        rotate_left
        · intro w1 _; go_simp; with_reducible rfl
        try simp only [List.getElem_toArray, List.getElem_cons_zero, List.getElem_cons_succ, Act.put, List.setIfInBounds_toArray, List.set_cons_zero, List.set_cons_succ]
        refine wpAnyH_take (i := 7) (v := .agg y.cells) rfl (by kernel_rfl) (by kernel_rfl) (by kernel_rfl) (fun _ _ _ h => h) (Or.inl ⟨by rfl, fun w1 hS1 => by subst hS1; go_simp; first | done | rfl⟩) hS0 ?_
        try simp only [List.getElem_toArray, List.getElem_cons_zero, List.getElem_cons_succ, Act.put, List.setIfInBounds_toArray, List.set_cons_zero, List.set_cons_succ]
        refine wpAnyH_take (i := 8) (v := .bool (!R)) rfl (by kernel_rfl) (by kernel_rfl) (by kernel_rfl) (fun _ _ _ h => h) (Or.inl ⟨by rfl, fun w1 hS1 => hR ▸ exec_neq _ _ _ rfl x y rfl rfl w1⟩) hS0 ?_
        try simp only [List.getElem_toArray, List.getElem_cons_zero, List.getElem_cons_succ, Act.put, List.setIfInBounds_toArray, List.set_cons_zero, List.set_cons_succ]
        refine wpAnyH_done (by kernel_rfl) ?_ _
        cases R
        · go_wp2
          go_ret
          have hz : R9 = false := by rw [Bool.eq_false_iff]; exact fun hh => sameL_not HX.out HY.out (fun e => by rw [(eqD_iff x y).2 e] at hR; cases hR) (HR.out.1 hh)
          exact ⟨ret_b9 hz.symm, hb.drew⟩
        · have hst : x = y := (eqD_iff x y).1 hR
          have HG2 := Lib.hid ((sameL_at HX.out HY.out hg.out).2 hst)
          clear hst hR
          go_wp2
          go_roundw
          case rel => exact ⟨k + 1, by omega, by go_num, HG2, Lib.hid (RV.drew hP.out), Lib.hid (RV.drew hQ.out), hb.drew⟩
          case measure => simp [intOf]; omega
      · obtain rfl : k = xs.length := by omega
        have hx := hg.out
        rw [List.take_length, HL.out, List.take_length] at hx
        have hz : R9 = true := HR.out.2 hx
        go_wp2
        go_ret
        exact ⟨ret_b9 hz.symm, hb⟩
  · have ht : ((xs.length : Int) != (ys.length : Int)) = true := by simp; omega
    have hz : R9 = false := by rw [Bool.eq_false_iff]; exact fun hh => hl (by rw [HR.out.1 hh])
    have HZ := Lib.hid hz
    clear hl hz
    go_enter Tryd.func37, Tryd.ntmps37
    go_wp2
    go_ret
    exact ⟨ret_b9 HZ.out.symm, Below.refl _ _⟩

theorem SameProg_any (p p' : Option Addr) (c c' : Nat) (xs ys : List Deed) (hl1 : xs.length ≤ 100000) (G G' : Nat → Prop) (w : World) (h : RP w G (.slice p xs.length c) xs) (h' : RP w G' (.slice p' ys.length c') ys) (R9 : Bool) (hR9 : R9 = true ↔ xs = ys) :
    Calls Tryd.prog 23 #[.slice p xs.length c, .slice p' ys.length c'] w fun e w' => e = .returned (.bool R9) ∧ Below w.heap.size w w' := by
  have hq := EqualD_any p p' c c' xs ys hl1 G G' w h h' R9 hR9
  clear h h' hR9
  go_enter Tryd.func23, Tryd.ntmps23
  go_wp2_with (go_at_call 37; (with_reducible refine hq.mono ?_); clear hq; rintro e w2 ⟨rfl, hb2⟩)
  go_ret
  exact ⟨rfl, hb2⟩

set_option maxRecDepth 100000 in
set_option maxHeartbeats 4000000 in
theorem EqualP_any (p p' : Option Addr) (c c' : Nat) (xs ys : List (List Deed)) (hl1 : xs.length ≤ 100000) (hl2 : ∀ q ∈ xs, q.length ≤ 100000) (G G' : Nat → Prop) (w : World) (h : RPP w G (.slice p xs.length c) xs) (h' : RPP w G' (.slice p' ys.length c') ys) (R9 : Bool) (hR9 : R9 = true ↔ xs = ys) :
    Calls Tryd.prog 22 #[.slice p xs.length c, .slice p' ys.length c', .func (.func 23) #[] #[]] w fun e w' => e = .returned (.bool R9) ∧ Below w.heap.size w w' := by
  have HR := Lib.hid hR9
  have H := Lib.hid h
  have H' := Lib.hid h'
  have HL2 := Lib.hid hl2
  clear h h' hR9 hl2
  by_cases hl : xs.length = ys.length
  · have ht : ((xs.length : Int) != (ys.length : Int)) = false := by simp [hl]
    have HL := Lib.hid hl
    clear hl
    go_enter Tryd.func22, Tryd.ntmps22
    go_wp2
    go_loopw [17] (fun t wr => ∃ k : Nat, k ≤ xs.length ∧ t = .int .i64 k ∧ Hid (xs.take k = ys.take k) ∧ Hid (RPP wr G (.slice p xs.length c) xs) ∧ Hid (RPP wr G' (.slice p' ys.length c') ys) ∧ Below w.heap.size w wr) (fun t _ => xs.length - (intOf t).toNat)
    case atStart => exact ⟨0, by omega, rfl, Lib.hid (by simp), H, H', Below.refl _ _⟩
    case round =>
      obtain ⟨k, hk, rfl, hg, hP, hQ, hb⟩ := hrel
      clear H H'
      by_cases hlt : k < xs.length
      · have hlt' : k < ys.length := by have := HL.out; omega
        obtain ⟨x, hx⟩ : ∃ x, xs[k]? = some x := ⟨_, List.getElem?_eq_getElem hlt⟩
        obtain ⟨y, hy⟩ : ∃ y, ys[k]? = some y := ⟨_, List.getElem?_eq_getElem hlt'⟩
        obtain ⟨b1, o1, u1, c1, rfl, _, _, hc1, hr1⟩ := hP.out.at hx
        obtain ⟨b2, o2, u2, c2, rfl, _, _, hc2, hr2⟩ := hQ.out.at hy
        obtain ⟨R, hR⟩ : ∃ R : Bool, R = true ↔ x = y := by
          by_cases e : x = y
          · exact ⟨true, by simp [e]⟩
          · exact ⟨false, by simp [e]⟩
        have hsm := SameProg_any u1 u2 c1 c2 x y (HL2.out x (List.mem_of_getElem? hx)) G G' wr hr1 hr2 R hR
        have HX := Lib.hid hx
        have HY := Lib.hid hy
        have HRR := Lib.hid hR
        clear hx hy hr1 hr2 hR
        cases R
        · go_wp2_with (go_at_call 23; (with_reducible refine hsm.mono ?_); clear hsm; rintro e w2 ⟨rfl, hb2⟩)
          go_ret
          have hz : R9 = false := by rw [Bool.eq_false_iff]; exact fun hh => sameL_not HX.out HY.out (fun e => by have := HRR.out.2 e; cases this) (HR.out.1 hh)
          exact ⟨ret_b9 hz.symm, below_pre hb hb2⟩
        · have hst : x = y := HRR.out.1 rfl
          have HG2 := Lib.hid ((sameL_at HX.out HY.out hg.out).2 hst)
          clear hst
          go_wp2_with (go_at_call 23; (with_reducible refine hsm.mono ?_); clear hsm; rintro e w2 ⟨rfl, hb2⟩)
          go_roundw
          case rel => exact ⟨k + 1, by omega, by go_num, HG2, Lib.hid (hP.out.later hb2), Lib.hid (hQ.out.later hb2), below_pre hb hb2⟩
          case measure => simp [intOf]; omega
      · obtain rfl : k = xs.length := by omega
        have hx := hg.out
        rw [List.take_length, HL.out, List.take_length] at hx
        have hz : R9 = true := HR.out.2 hx
        go_wp2
        go_ret
        exact ⟨ret_b9 hz.symm, hb⟩
  · have ht : ((xs.length : Int) != (ys.length : Int)) = true := by simp; omega
    have hz : R9 = false := by rw [Bool.eq_false_iff]; exact fun hh => hl (by rw [HR.out.1 hh])
    have HZ := Lib.hid hz
    clear hl hz
    go_enter Tryd.func22, Tryd.ntmps22
    go_wp2
    go_ret
    exact ⟨ret_b9 HZ.out.symm, Below.refl _ _⟩
end Go.Proofs.YtbdimfcdpkldpaaDoor
