/- A slice of instructions that reads, an instruction read out of it, and the contract of prog's Check. The contracts of prog's Steps and takes. The contract of prog's hold. The contract of prog's Simple. The contract of prog's Locks. -/
import Derived.Test.YtlgjbcmkhcgigaaDoorD7
import Derived.Test.YtlgjbcmkhcgigaaDoorLQ0
import Derived.Test.YtlgjbcmkhcgigaaDoorLB
import Derived.Deep.MidRow
import Derived.Test.YtlgjbcmkhcgigaaDoorLK
import Derived.Test.YtlgjbcmkhcgigaaDoorLW1
import Derived.Deep.QuietTactic
import Derived.BigQuiet
namespace Go.Proofs.YtlgjbcmkhcgigaaDoor
open Go.RowKit

def dCells (d : Deed) : List Value := d.cells.toList
theorem dCells_len (d : Deed) : (dCells d).length = 7 := rfl
/-- v is a slice that reads as the instructions ps. -/
def RP (w : World) (G : Nat → Prop) (v : Value) (ps : List Deed) : Prop := RV w G v ps.length 7 (ps.flatMap dCells)
section
variable {w w' : World} {G : Nat → Prop} {v : Value} {ps : List Deed}
theorem RP.later (h : RP w G v ps) (hb : Below w.heap.size w w') : RP w' G v ps := RV.below h hb (fun _ hk _ => hk)
theorem RP.shape (h : RP w G v ps) : ∃ p c, v = .slice p ps.length c ∧ ps.length ≤ c ∧ c ≤ maxLen := by
  unfold RP at h
  obtain ⟨p, c, hv, h1, h2, _⟩ := h
  exact ⟨p, c, hv, h1, h2⟩
theorem RP.at {p : Option Addr} {n c : Nat} (h : RP w G (.slice p n c) ps) {k : Nat} {d : Deed} (hd : ps[k]? = some d) :
    ∃ b off, p = some ⟨b, off, none⟩ ∧ b < w.heap.size ∧ G b ∧ w.rangeAt b (off + k * 7) (dCells d) ∧ w.cell? ⟨b, off + k * 7, none⟩ = some (.int .i64 d.op) ∧ w.cell? ⟨b, off + k * 7 + 1, none⟩ = some (.int .i64 d.a) ∧ w.cell? ⟨b, off + k * 7 + 4, none⟩ = some (.int .u64 (d.n : Int)) := by
  obtain ⟨b, off, c', hv, hb, hG, hc⟩ := RV.elem (f := dCells) h (by decide) (fun t _ => dCells_len t) k d hd
  cases hv
  exact ⟨b, off, rfl, hb, hG, hc, hc 0 _ rfl, hc 1 _ rfl, hc 4 _ rfl⟩
end

section
variable {ops : Array Oper} {rest : List Oper} {o : Oper} {a : Act} {w : World} {Q : Exit → Act → World → Prop}
theorem wpList_load_deed (hgd : o.guard = none) (x : Operand) (ho : o.op = .load 45 x) (b off : Nat) (hx : a.eval x = .pointer (some ⟨b, off, none⟩)) (d : Deed) (hc : w.rangeAt b off (dCells d))
    (h : wpList Tryd.prog ops Q rest (a.put o.dst (.agg d.cells)) w) : wpList Tryd.prog ops Q (o :: rest) a w :=
  wpList_load_mid hgd 45 x ho b off hx (dCells d) _ hc Tryd.underlying45 rfl (by kernel_rfl) h
end

theorem ret_i {a b : Int} (h : a = b) : Ending.returned (.int .i64 a) = .returned (.int .i64 b) := by rw [h]

set_option maxHeartbeats 1000000 in
theorem Check_any (p : Option Addr) (c : Nat) (ps : List Deed) (hok : ∀ d ∈ ps, d.ok) (G : Nat → Prop) (w : World) (h : RP w G (.slice p ps.length c) ps) :
    Calls Tryd.prog 11 #[.slice p ps.length c] w fun e w' => e = .returned (.int .i64 (checkN ps : Nat)) ∧ Below w.heap.size w w' := by
  by_cases hl : 256 < ps.length
  · have hc : checkN ps = 4 := by unfold checkN; rw [if_pos hl]
    rw [hc]
    have ht : decide ((ps.length : Int) > 256) = true := by simp; omega
    clear hl hok h hc
    go_enter Tryd.func11, Tryd.ntmps11
    go_wp2
    go_ret
    exact ⟨rfl, Below.refl _ _⟩
  · have HC : Hid (∀ b, goodP ps = b → checkN ps = if b = true then 0 else 1) := Lib.hid (by rintro _ rfl; unfold checkN; rw [if_neg hl])
    have ht : decide ((ps.length : Int) > 256) = false := by simp; omega
    have hOK := Lib.hid hok
    have H := Lib.hid h
    have hl6 : ps.length ≤ 256 := by omega
    clear hl hok h
    go_enter Tryd.func11, Tryd.ntmps11
    go_wp2
    go_loopw [10] (fun t wr => ∃ k : Nat, k ≤ ps.length ∧ t = .int .i64 k ∧ Hid (∀ d ∈ ps.take k, goodD d = true) ∧ Hid (RP wr G (.slice p ps.length c) ps) ∧ Below w.heap.size w wr) (fun t _ => ps.length - (intOf t).toNat)
    case atStart => exact ⟨0, by omega, rfl, Lib.hid (by simp), H, Below.refl _ _⟩
    case round =>
      obtain ⟨k, hk, rfl, hg, hR, hb⟩ := hrel
      by_cases hlt : k < ps.length
      · obtain ⟨d, hd⟩ : ∃ d, ps[k]? = some d := ⟨_, List.getElem?_eq_getElem hlt⟩
        obtain ⟨b, off, rfl, _, _, hra, _⟩ := hR.out.at hd
        have hgood := Good_any d (hOK.out d (List.mem_of_getElem? hd))
        have hb1 : Below w.heap.size w (wr.alloc (.cells d.cells 45)) := hb.alloc hb.size _
        have hR1 := Lib.hid (hR.out.later (below_alloc1 wr (.cells d.cells 45)))
        have HD := Lib.hid hd
        clear hd H
        simp only [Deed.val] at hgood
        cases hgd : goodD d
        all_goals
          rw [hgd] at hgood
          have HG := Lib.hid hgd
          clear hgd
          go_wp2_with (first
            | (refine wpList_load_deed rfl _ rfl b (off + k * 7) rfl d hra ?_)
            | (refine wpList_alloc_agg rfl 45 rfl zeroD.cells zeroR ?_)
            | (refine wpList_store_row rfl 45 _ _ rfl wr.heap.size d.cells rfl rfl 45 _ (heap_alloc_new wr _) (sizeD _) rfl (oneD _) ?_; rw [World.setRow_alloc_new])
            | (refine wpList_load_row rfl 45 _ rfl wr.heap.size rfl 45 _ (0, 0) _ (heap_alloc_new wr _) Tryd.underlying45 rfl (sizeD _) ?_)
            | (go_at_call 31; (with_reducible refine (hgood _).mono ?_); clear hgood; rintro e w2 ⟨rfl, hb2⟩))
        · go_ret
          exact ⟨ret_i (by rw [HC.out false (goodP_not HD.out HG.out)]; rfl), below_pre hb1 hb2⟩
        · go_roundw
          case rel => exact ⟨k + 1, by omega, by go_num, Lib.hid (goodP_take hg.out d HD.out HG.out), Lib.hid (hR1.out.later hb2), below_pre hb1 hb2⟩
          case measure => simp [intOf]; omega
      · obtain rfl : k = ps.length := by omega
        have hgp := hg.out
        rw [List.take_length] at hgp
        go_wp2
        go_ret
        exact ⟨ret_i (by rw [HC.out true (goodP_all hgp)]; rfl), hb⟩
end Go.Proofs.YtlgjbcmkhcgigaaDoor

namespace Go.Proofs.YtlgjbcmkhcgigaaDoor
open Go.RowKit

theorem add_small (a b c : Nat) (h : a + b = c) (hc : c ≤ 100000000) (w : World) :
    Calls Tryd.prog 35 #[.int .u64 (a : Int), .int .u64 (b : Int)] w fun e w' => e = .returned (.int .u64 (c : Int)) ∧ w = w' := by
  have := Sums.Add_any a b (by omega) (by omega) w
  rwa [show Sums.addS a b = c by unfold Sums.addS; rw [if_pos (by omega)]; exact h] at this
theorem radd_small (a b c : Nat) (h : a + b = c) (hc : c ≤ 100000000) (w : World) :
    Calls Tryd.prog 36 #[.int .u64 (a : Int), .int .u64 (b : Int)] w fun e w' => e = .returned (.int .u64 (c : Int)) ∧ w = w' := by
  have := Sums.RAdd_any a b (by omega) (by omega) w
  rwa [show Sums.addS a b = c by unfold Sums.addS; rw [if_pos (by omega)]; exact h] at this
theorem ret_u {a b : Int} (h : a = b) : Ending.returned (.int .u64 a) = .returned (.int .u64 b) := by rw [h]

section
variable (p : Option Addr) (c : Nat) (ps : List Deed) (hok : ∀ d ∈ ps, d.ok) (G : Nat → Prop) (w : World) (h : RP w G (.slice p ps.length c) ps)
include hok h
set_option maxHeartbeats 400000 in
theorem Steps_bad (h0 : ¬ checkN ps = 0) :
    Calls Tryd.prog 16 #[.slice p ps.length c] w fun e w' => e = .returned (.int .u64 (stepsN ps : Nat)) ∧ Below w.heap.size w w' := by
  have hck := Check_any p c ps hok G w h
  have hr : stepsN ps = 0 := by unfold stepsN; rw [if_neg h0]
  have ht : ((checkN ps : Int) != 0) = true := by simp; omega
  rw [hr]
  clear hok h h0 hr
  go_enter Tryd.func16, Tryd.ntmps16
  go_wp2_with (go_at_call 11; (with_reducible refine hck.mono ?_); clear hck; rintro e w1 ⟨rfl, hb1⟩)
  go_ret
  exact ⟨rfl, hb1⟩
end

theorem ends_last {ps : List Deed} {m : Nat} {d : Deed} (hn : ps.length = m + 1) (hd : ps[m]? = some d) : endsExit ps = (d.op == 3) := by
  unfold endsExit
  rw [List.getLast?_eq_getElem?, hn, Nat.add_sub_cancel, hd]

set_option maxRecDepth 100000 in
set_option maxHeartbeats 2000000 in
theorem Steps_good (p : Option Addr) (c n : Nat) (ps : List Deed) (hn : ps.length = n) (hok : ∀ d ∈ ps, d.ok) (G : Nat → Prop) (w : World) (h : RP w G (.slice p n c) ps) (h0 : checkN ps = 0) :
    Calls Tryd.prog 16 #[.slice p n c] w fun e w' => e = .returned (.int .u64 (stepsN ps : Nat)) ∧ Below w.heap.size w w' := by
  have hck := Check_any p c ps hok G w (by rw [hn]; exact h)
  rw [hn, h0] at hck
  obtain ⟨hl6, hgp⟩ := checkN_zero.1 h0
  rw [hn] at hl6
  have hr : stepsN ps = sumC (ps.take n) + if endsExit ps = true then 0 else 1 := by unfold stepsN; rw [if_pos h0, ← hn, List.take_length]
  have hsum := fun k hk => sumC_take hgp k hk
  have HR := Lib.hid hr
  have HS := Lib.hid hsum
  have H := Lib.hid h
  have HN := Lib.hid hn
  have HGP := Lib.hid hgp
  clear h0 hr hsum hok h hgp hn
  go_enter Tryd.func16, Tryd.ntmps16
  go_wp2_with (go_at_call 11; (with_reducible refine hck.mono ?_); clear hck; rintro e w1 ⟨rfl, hb1⟩; have H1 := Lib.hid (H.out.later hb1))
  go_loopw [3, 11] (fun s t wr => ∃ k : Nat, k ≤ n ∧ t = .int .i64 k ∧ s = .int .u64 (sumC (ps.take k) : Nat) ∧ Hid (RP wr G (.slice p n c) ps) ∧ Below w.heap.size w wr) (fun _ t _ => n - (intOf t).toNat)
  case atStart => exact ⟨0, by omega, rfl, rfl, H1, hb1⟩
  case round =>
    obtain ⟨k, hk, rfl, rfl, hR, hb⟩ := hrel
    clear H H1 hb1
    by_cases hlt : k < n
    · obtain ⟨d, hd⟩ : ∃ d, ps[k]? = some d := ⟨_, List.getElem?_eq_getElem (by rw [HN.out]; exact hlt)⟩
      obtain ⟨b, off, rfl, _, _, hra, _⟩ := hR.out.at hd
      have hb1 : Below w.heap.size w (wr.alloc (.cells d.cells 45)) := hb.alloc hb.size _
      have hR1 := Lib.hid (hR.out.later (below_alloc1 wr (.cells d.cells 45)))
      have hnew := Blk.new wr 45 d.cells
      have hc0 : (wr.alloc (.cells d.cells 45)).cell? ⟨wr.heap.size, 0, none⟩ = some (.int .i64 d.op) := hnew.cell 0
      have hc4 : (wr.alloc (.cells d.cells 45)).cell? ⟨wr.heap.size, 4, none⟩ = some (.int .u64 (d.n : Int)) := hnew.cell 4
      have hsn := sumC_snoc hd
      have hle := HS.out (k + 1) (by omega)
      by_cases h1 : d.op = 1
      · have hadd : ∀ W, Calls Tryd.prog 35 #[.int .u64 (sumC (ps.take k) : Nat), .int .u64 (d.n : Int)] W fun e w' => e = .returned (.int .u64 (sumC (ps.take (k + 1)) : Nat)) ∧ W = w' := fun W => add_small _ _ _ (by rw [hsn]; unfold costD; rw [if_pos h1]) (by omega) W
        have ht : (d.op == 1) = true := by simp [h1]
        clear h1 hd hsn hle hnew
        go_wp2_with (first
          | (refine wpList_load_deed rfl _ rfl b (off + k * 7) rfl d hra ?_)
          | (refine wpList_alloc_agg rfl 45 rfl zeroD.cells zeroR ?_)
          | (refine wpList_store_row rfl 45 _ _ rfl wr.heap.size d.cells rfl rfl 45 _ (heap_alloc_new wr _) (sizeD _) rfl (oneD _) ?_; rw [World.setRow_alloc_new])
          | (go_at_call 35; (with_reducible refine (hadd _).mono ?_); clear hadd; rintro e w2 ⟨rfl, rfl⟩))
        go_roundw
        case rel => exact ⟨k + 1, by omega, by go_num, rfl, hR1, hb1⟩
        case measure => simp [intOf]; omega
      · have hadd : ∀ W, Calls Tryd.prog 35 #[.int .u64 (sumC (ps.take k) : Nat), .int .u64 1] W fun e w' => e = .returned (.int .u64 (sumC (ps.take (k + 1)) : Nat)) ∧ W = w' := fun W => add_small _ 1 _ (by rw [hsn]; unfold costD; rw [if_neg h1]) (by omega) W
        have ht : (d.op == 1) = false := by simp [h1]
        clear h1 hd hsn hle hnew
        go_wp2_with (first
          | (refine wpList_load_deed rfl _ rfl b (off + k * 7) rfl d hra ?_)
          | (refine wpList_alloc_agg rfl 45 rfl zeroD.cells zeroR ?_)
          | (refine wpList_store_row rfl 45 _ _ rfl wr.heap.size d.cells rfl rfl 45 _ (heap_alloc_new wr _) (sizeD _) rfl (oneD _) ?_; rw [World.setRow_alloc_new])
          | (go_at_call 35; (with_reducible refine (hadd _).mono ?_); clear hadd; rintro e w2 ⟨rfl, rfl⟩))
        go_roundw
        case rel => exact ⟨k + 1, by omega, by go_num, rfl, hR1, hb1⟩
        case measure => simp [intOf]; omega
    · obtain rfl : k = n := by omega
      have hle := HS.out k (by omega)
      have hadd : ∀ W, Calls Tryd.prog 35 #[.int .u64 (sumC (ps.take k) : Nat), .int .u64 1] W fun e w' => e = .returned (.int .u64 (sumC (ps.take k) + 1 : Nat)) ∧ W = w' := fun W => add_small _ 1 _ rfl (by omega) W
      have hr0 := HR.out
      obtain ⟨T, hT⟩ : ∃ T, sumC (ps.take k) = T := ⟨_, rfl⟩
      rw [hT] at hadd hr0 ⊢
      have HQ := Lib.hid hr0
      clear hr0 hT hle HR
      cases k with
      | zero =>
        have he : endsExit ps = false := by rw [List.length_eq_zero_iff.1 HN.out]; rfl
        have hr := HQ.out
        rw [he] at hr
        have HR2 := Lib.hid hr
        clear hr he
        go_wp2_with (go_at_call 35; (with_reducible refine (hadd _).mono ?_); clear hadd; rintro e w2 ⟨rfl, rfl⟩)
        go_ret
        exact ⟨ret_u (by rw [HR2.out]; rfl), hb⟩
      | succ m =>
        obtain ⟨d, hd⟩ : ∃ d, ps[m]? = some d := ⟨_, List.getElem?_eq_getElem (by rw [HN.out]; omega)⟩
        obtain ⟨b, off, rfl, _, _, _, hc0, _⟩ := hR.out.at hd
        have he := ends_last HN.out hd
        have hr := HQ.out
        rw [he] at hr
        have HR2 := Lib.hid hr
        clear hr he hd
        cases ht : (d.op == 3)
        · have ht2 : (d.op != 3) = true := by simp [bne, ht]
          have HT := Lib.hid ht
          clear ht
          go_wp2_with (go_at_call 35; (with_reducible refine (hadd _).mono ?_); clear hadd; rintro e w2 ⟨rfl, rfl⟩)
          go_ret
          exact ⟨ret_u (by rw [HR2.out, HT.out]; rfl), hb⟩
        · have ht2 : (d.op != 3) = false := by simp [bne, ht]
          have HT := Lib.hid ht
          clear ht
          go_wp2_with (go_at_call 35; (with_reducible refine (hadd _).mono ?_); clear hadd; rintro e w2 ⟨rfl, rfl⟩)
          go_ret
          exact ⟨ret_u (by rw [HR2.out, HT.out]; rfl), hb⟩
theorem Steps_any (p : Option Addr) (c : Nat) (ps : List Deed) (hok : ∀ d ∈ ps, d.ok) (G : Nat → Prop) (w : World) (h : RP w G (.slice p ps.length c) ps) :
    Calls Tryd.prog 16 #[.slice p ps.length c] w fun e w' => e = .returned (.int .u64 (stepsN ps : Nat)) ∧ Below w.heap.size w w' := by
  by_cases h0 : checkN ps = 0
  · exact Steps_good p c _ ps rfl hok G w h h0
  · exact Steps_bad p c ps hok G w h h0

set_option maxHeartbeats 400000 in
theorem takes_any (d : Deed) (w : World) :
    Calls Tryd.prog 28 #[d.val] w fun e w' => e = .returned (.bool (isTake d)) ∧ Below w.heap.size w w' := by
  have hnew := Blk.new w 45 d.cells
  have hc0 : (w.alloc (.cells d.cells 45)).cell? ⟨w.heap.size, 0, none⟩ = some (.int .i64 d.op) := hnew.cell 0
  have hb := below_alloc1 w (.cells d.cells 45)
  unfold isTake
  simp only [Deed.val]
  cases h9 : (d.op == 9)
  · go_enter Tryd.func28, Tryd.ntmps28
    go_wp2_with (refine wpList_box_agg rfl 45 _ rfl d.cells rfl ?_)
    go_ret
    exact ⟨by simp, hb⟩
  · go_enter Tryd.func28, Tryd.ntmps28
    go_wp2_with (refine wpList_box_agg rfl 45 _ rfl d.cells rfl ?_)
    go_ret
    exact ⟨by simp, hb⟩
end Go.Proofs.YtlgjbcmkhcgigaaDoor

namespace Go.Proofs.YtlgjbcmkhcgigaaDoor
open Go.RowKit

def holdV : Option (Nat × Nat) → Array Value
  | some (s, k) => #[.int .u64 (s : Int), .int .i64 (k : Int), .bool true]
  | none => #[.int .u64 0, .int .i64 0, .bool false]
theorem dropk {α : Type} {ps : List α} {k : Nat} {d : α} (hd : ps[k]? = some d) : ps.drop k = d :: ps.drop (k + 1) := by
  obtain ⟨h, rfl⟩ := List.getElem?_eq_some_iff.1 hd
  exact List.drop_eq_getElem_cons h
theorem holdR_work {a : Int} {s k : Nat} {d : Deed} {ds : List Deed} {R : Option (Nat × Nat)} (h1 : d.op = 1) (h : (holdR a s (d :: ds)).map (fun x => (x.1, k + x.2)) = R) : (holdR a (s + d.n) ds).map (fun x => (x.1, k + 1 + x.2)) = R := by
  rw [← h, holdR, if_pos h1, Option.map_map]
  congr 1
  funext x
  simp only [Function.comp]
  congr 1
  omega
theorem holdR_bad {a : Int} {s k : Nat} {d : Deed} {ds : List Deed} {R : Option (Nat × Nat)} (h1 : ¬ d.op = 1) (h2 : ¬ (d.op = 11 ∧ d.a = a)) (h : (holdR a s (d :: ds)).map (fun x => (x.1, k + x.2)) = R) : R = none := by
  rw [← h, holdR, if_neg h1, if_neg h2]; rfl
theorem holdR_end {a : Int} {s k : Nat} {d : Deed} {ds : List Deed} {R : Option (Nat × Nat)} (h1 : ¬ d.op = 1) (h2 : d.op = 11 ∧ d.a = a) (h : (holdR a s (d :: ds)).map (fun x => (x.1, k + x.2)) = R) : R = some (s + 1, k + 1) := by
  rw [← h, holdR, if_neg h1, if_pos h2]; rfl

set_option maxRecDepth 100000 in
set_option maxHeartbeats 2000000 in
theorem hold_any (a : Int) (p : Option Addr) (c n : Nat) (ps : List Deed) (hn : ps.length = n) (hn6 : n ≤ 256) (hgp : ∀ d ∈ ps, goodD d = true) (G : Nat → Prop) (w : World) (h : RP w G (.slice p n c) ps) :
    Calls Tryd.prog 29 #[.int .i64 a, .slice p n c] w fun e w' => e = .returned (.tuple (holdV (holdR a 0 ps))) ∧ w = w' := by
  obtain ⟨R, hR0⟩ : ∃ R, holdR a 0 ps = R := ⟨_, rfl⟩
  have hr : (holdR a 0 ps).map (fun x => (x.1, 0 + x.2)) = R := by rw [hR0]; cases R <;> simp
  rw [hR0]
  clear hR0
  have HR := Lib.hid hr
  have H := Lib.hid h
  have HN := Lib.hid hn
  have HGP := Lib.hid hgp
  clear hr h hn hgp
  go_enter Tryd.func29, Tryd.ntmps29
  go_wp2
  go_loopw [4, 5] (fun s t wr => ∃ k S : Nat, wr = w ∧ k ≤ n ∧ t = .int .i64 k ∧ s = .int .u64 (S : Nat) ∧ Hid (S ≤ 65536 * k) ∧ Hid ((holdR a S (ps.drop k)).map (fun x => (x.1, k + x.2)) = R)) (fun _ t _ => n - (intOf t).toNat)
  case atStart => exact ⟨0, 0, rfl, by omega, rfl, rfl, Lib.hid (by omega), HR⟩
  case round =>
    obtain ⟨k, S, rfl, hk, rfl, rfl, hS, hX⟩ := hrel
    clear HR
    by_cases hlt : k < n
    · obtain ⟨d, hd⟩ : ∃ d, ps[k]? = some d := ⟨_, List.getElem?_eq_getElem (by rw [HN.out]; exact hlt)⟩
      obtain ⟨b, off, rfl, _, _, _, hc0, hc1, hc4⟩ := H.out.at hd
      have hx := hX.out
      rw [dropk hd] at hx
      have hcost := cost_le (HGP.out d (List.mem_of_getElem? hd))
      unfold costD at hcost
      clear hX
      have hkn : ((k : Int) == (n : Int)) = false := by simp; omega
      by_cases h1 : d.op = 1
      · have ht : (d.op == 1) = true := by simp [h1]
        rw [if_pos h1] at hcost
        have hs2 := hS.out
        have hadd : ∀ W, Calls Tryd.prog 35 #[.int .u64 (S : Int), .int .u64 (d.n : Int)] W fun e w' => e = .returned (.int .u64 (S + d.n : Nat)) ∧ W = w' := fun W => add_small _ _ _ rfl (by omega) W
        have HX := Lib.hid (holdR_work h1 hx)
        have HS := Lib.hid (show S + d.n ≤ 65536 * (k + 1) by omega)
        clear h1 hx hcost hs2 hd
        go_wp2_with (go_at_call 35; (with_reducible refine (hadd _).mono ?_); clear hadd; rintro e w2 ⟨rfl, rfl⟩)
        go_roundw
        case rel => exact ⟨k + 1, S + d.n, by trivial, by omega, by go_num, by trivial, HS, HX⟩
        case measure => simp [intOf]; omega
      · have ht : (d.op == 1) = false := by simp [h1]
        by_cases h11 : d.op = 11
        · have ht2 : (d.op != 11) = false := by simp [h11]
          by_cases ha : d.a = a
          · have ht3 : (d.a != a) = false := by simp [ha]
            have hs2 := hS.out
            have hadd : ∀ W, Calls Tryd.prog 35 #[.int .u64 (S : Int), .int .u64 1] W fun e w' => e = .returned (.int .u64 (S + 1 : Nat)) ∧ W = w' := fun W => add_small _ 1 _ rfl (by omega) W
            have HX := Lib.hid (holdR_end h1 ⟨h11, ha⟩ hx)
            clear h1 hx hcost hs2 hd h11 ha
            go_wp2_with (go_at_call 35; (with_reducible refine (hadd _).mono ?_); clear hadd; rintro e w2 ⟨rfl, rfl⟩)
            go_ret3
            exact ⟨by rw [HX.out]; simp only [holdV]; congr 5, rfl⟩
          · have ht3 : (d.a != a) = true := by simp [ha]
            have HX := Lib.hid (holdR_bad h1 (fun h => ha h.2) hx)
            clear h1 hx hcost hd h11 ha
            go_wp2
            go_ret3
            exact ⟨by rw [HX.out]; rfl, rfl⟩
        · have ht2 : (d.op != 11) = true := by simp [h11]
          have HX := Lib.hid (holdR_bad h1 (fun h => h11 h.1) hx)
          clear h1 hx hcost hd h11
          go_wp2
          go_ret3
          exact ⟨by rw [HX.out]; rfl, rfl⟩
    · obtain rfl : k = n := by omega
      have hx := hX.out
      rw [List.drop_of_length_le (by rw [HN.out]; exact Nat.le_refl _)] at hx
      have hx2 : R = none := hx.symm
      have HX := Lib.hid hx2
      clear hX hx hx2
      go_wp2
      go_ret3
      exact ⟨by rw [HX.out]; rfl, rfl⟩
end Go.Proofs.YtlgjbcmkhcgigaaDoor

namespace Go.Proofs.YtlgjbcmkhcgigaaDoor
open Go.RowKit

theorem RP.rest {w : World} {G : Nat → Prop} {b off n c : Nat} {ps : List Deed} (h : RP w G (.slice (some ⟨b, off, none⟩) n c) ps) (hn : ps.length = n) (k : Nat) (hk : k ≤ n) :
    RP w G (.slice (if c = k then some ⟨b, off, none⟩ else some ⟨b, off + k * 7, none⟩) (n - k) (c - k)) (ps.drop k) := by
  unfold RP at *
  rw [hn] at h
  have h1 := Wire.RV_rest h k hk
  have e : (⟨b, off, none⟩ : Addr).add (k * 7) = ⟨b, off + k * 7, none⟩ := by unfold Addr.add; split <;> simp_all
  rw [Option.map_some, e] at h1
  rw [List.length_drop, hn]
  have e2 : (ps.flatMap dCells).drop (k * 7) = (ps.drop k).flatMap dCells := by
    clear h h1 hn
    induction k generalizing ps with
    | zero => simp
    | succ k ih =>
      cases ps with
      | nil => simp
      | cons d ps =>
        rw [List.flatMap_cons, List.drop_succ_cons, ← ih (by omega) (ps := ps) (by unfold Addr.add; split <;> simp_all)]
        rw [show (k + 1) * 7 = (dCells d).length + k * 7 by rw [dCells_len]; omega, List.drop_append]
        simp
  rw [e2] at h1
  exact h1
theorem sGo_step (f : Nat) (d : Deed) (ds : List Deed) (m : Nat) : sGo (f + 1) (d :: ds) m = if d.op = 11 then none else if isTake d = true then (match holdR d.a 0 ds with
      | some x => sGo f (ds.drop x.2) (max m x.1)
      | none => none) else sGo f ds m := rfl
def simV (x : Nat × Bool) : Array Value := #[.int .u64 (x.1 : Int), .bool x.2]

set_option maxHeartbeats 400000 in
theorem Simple_bad (p : Option Addr) (c : Nat) (ps : List Deed) (hok : ∀ d ∈ ps, d.ok) (G : Nat → Prop) (w : World) (h : RP w G (.slice p ps.length c) ps) (h0 : ¬ checkN ps = 0) :
    Calls Tryd.prog 9 #[.slice p ps.length c] w fun e w' => e = .returned (.tuple (simV (simN ps))) ∧ Below w.heap.size w w' := by
  have hck := Check_any p c ps hok G w h
  have hr : simN ps = (0, false) := by unfold simN; rw [if_neg h0]
  have ht : ((checkN ps : Int) != 0) = true := by simp; omega
  rw [hr]
  clear hok h h0 hr
  go_enter Tryd.func9, Tryd.ntmps9
  go_wp2_with (go_at_call 11; (with_reducible refine hck.mono ?_); clear hck; rintro e w1 ⟨rfl, hb1⟩)
  go_ret2
  exact ⟨rfl, hb1⟩

set_option maxRecDepth 100000 in
set_option maxHeartbeats 2000000 in
theorem Simple_good (p : Option Addr) (c n : Nat) (ps : List Deed) (hn : ps.length = n) (hok : ∀ d ∈ ps, d.ok) (G : Nat → Prop) (w : World) (h : RP w G (.slice p n c) ps) (h0 : checkN ps = 0) :
    Calls Tryd.prog 9 #[.slice p n c] w fun e w' => e = .returned (.tuple (simV (simN ps))) ∧ Below w.heap.size w w' := by
  have hck := Check_any p c ps hok G w (by rw [hn]; exact h)
  rw [hn, h0] at hck
  obtain ⟨hl6, hgp⟩ := checkN_zero.1 h0
  have hr : simN ps = match finT (simT ps) with
    | some m => (m, true)
    | none => (0, false) := by unfold simN; rw [if_pos h0]; rfl
  rw [← sim_prog hgp, hn] at hr
  rw [hn] at hl6
  obtain ⟨R, hR0⟩ : ∃ R, sGo n ps 0 = R := ⟨_, rfl⟩
  rw [hR0] at hr
  have HR := Lib.hid hr
  have HR0 := Lib.hid (show n - 0 ≤ n ∧ sGo n (ps.drop 0) 0 = R from ⟨by omega, hR0⟩)
  have H := Lib.hid h
  have HN := Lib.hid hn
  have HGP := Lib.hid hgp
  clear h0 hr hok h hgp hn hR0
  have hcn : n ≤ c := by have := H.out.shape; obtain ⟨_, _, e, h1, _⟩ := this; rw [HN.out] at e h1; cases e; exact h1
  go_enter Tryd.func9, Tryd.ntmps9
  go_wp2_with (go_at_call 11; (with_reducible refine hck.mono ?_); clear hck; rintro e w1 ⟨rfl, hb1⟩; have H1 := Lib.hid (H.out.later hb1))
  go_loopw [4, 5] (fun s t wr => ∃ k m f : Nat, k ≤ n ∧ t = .int .i64 k ∧ s = .int .u64 (m : Nat) ∧ Hid (n - k ≤ f ∧ sGo f (ps.drop k) m = R) ∧ Hid (RP wr G (.slice p n c) ps) ∧ Below w.heap.size w wr) (fun _ t _ => n - (intOf t).toNat)
  case atStart => exact ⟨0, 0, n, by omega, rfl, rfl, HR0, H1, hb1⟩
  case round =>
    obtain ⟨k, m, f, hk, rfl, rfl, hX, hR, hb⟩ := hrel
    clear H H1 hb1 HR0
    by_cases hlt : k < n
    · obtain ⟨d, hd⟩ : ∃ d, ps[k]? = some d := ⟨_, List.getElem?_eq_getElem (by rw [HN.out]; exact hlt)⟩
      obtain ⟨b, off, rfl, _, _, hra, _⟩ := hR.out.at hd
      have hb1 : Below w.heap.size w (wr.alloc (.cells d.cells 45)) := hb.alloc hb.size _
      have hR1 := Lib.hid (hR.out.later (below_alloc1 wr (.cells d.cells 45)))
      have hnew := Blk.new wr 45 d.cells
      have hc0 : (wr.alloc (.cells d.cells 45)).cell? ⟨wr.heap.size, 0, none⟩ = some (.int .i64 d.op) := hnew.cell 0
      have hx := hX.out.2
      obtain ⟨f1, rfl⟩ : ∃ f1, f = f1 + 1 := ⟨f - 1, by have := hX.out.1; omega⟩
      have hf1 : n - (k + 1) ≤ f1 := by have := hX.out.1; omega
      rw [dropk hd, sGo_step] at hx
      have htk := takes_any d
      simp only [Deed.val] at htk
      have HGD := Lib.hid hd
      by_cases h11 : d.op = 11
      · rw [if_pos h11] at hx
        have hr2 := HR.out
        rw [← hx] at hr2
        have HR2 := Lib.hid hr2
        have ht : (d.op == 11) = true := by simp [h11]
        clear h11 hx hr2 hd htk hX
        go_wp2_with (first
          | (refine wpList_load_deed rfl _ rfl b (off + k * 7) rfl d hra ?_)
          | (refine wpList_alloc_agg rfl 45 rfl zeroD.cells zeroR ?_)
          | (refine wpList_store_row rfl 45 _ _ rfl wr.heap.size d.cells rfl rfl 45 _ (heap_alloc_new wr _) (sizeD _) rfl (oneD _) ?_; rw [World.setRow_alloc_new]))
        go_ret2
        exact ⟨by rw [HR2.out]; rfl, hb1⟩
      · rw [if_neg h11] at hx
        have ht : (d.op == 11) = false := by simp [h11]
        by_cases hT : isTake d = true
        · rw [if_pos hT] at hx
          simp only [hT] at htk
          have hdr : ∀ e ∈ ps.drop (k + 1), goodD e = true := fun e he => goodP_mem HGP.out (List.mem_of_mem_drop he)
          have hhold : ∀ W : World, RP W G (.slice (some ⟨b, off, none⟩) n c) ps → Calls Tryd.prog 29 #[.int .i64 d.a, .slice (if c = k + 1 then some ⟨b, off, none⟩ else some ⟨b, off + (k + 1) * 7, none⟩) (n - (k + 1)) (c - (k + 1))] W fun e w' => e = .returned (.tuple (holdV (holdR d.a 0 (ps.drop (k + 1))))) ∧ w' = W := fun W hW =>
            (hold_any d.a _ _ _ (ps.drop (k + 1)) (by rw [List.length_drop, HN.out]) (by omega) hdr G W (RP.rest hW HN.out (k + 1) (by omega))).mono fun _ _ h => ⟨h.1, h.2.symm⟩
          have hlen := holdR_len d.a (ps.drop (k + 1)) 0
          rw [List.length_drop, HN.out] at hlen
          cases hq : holdR d.a 0 (ps.drop (k + 1)) with
          | none =>
            rw [hq] at hx hhold
            have hr2 := HR.out
            rw [← hx] at hr2
            have HR2 := Lib.hid hr2
            simp only [holdV] at hhold
            have HH := Lib.hid hhold
            clear h11 hx hr2 hd hX hT hdr hlen hq hhold
            go_wp2_with (first
              | (refine wpList_load_deed rfl _ rfl b (off + k * 7) rfl d hra ?_)
              | (refine wpList_alloc_agg rfl 45 rfl zeroD.cells zeroR ?_)
              | (refine wpList_store_row rfl 45 _ _ rfl wr.heap.size d.cells rfl rfl 45 _ (heap_alloc_new wr _) (sizeD _) rfl (oneD _) ?_; rw [World.setRow_alloc_new])
              | (refine wpList_load_row rfl 45 _ rfl wr.heap.size rfl 45 _ (0, 0) _ (heap_alloc_new wr _) Tryd.underlying45 rfl (sizeD _) ?_)
              | (go_at_call 28; (with_reducible refine (htk _).mono ?_); clear htk; rintro e w2 ⟨rfl, hb2⟩))
            have hc1 : w2.cell? ⟨wr.heap.size, 1, none⟩ = some (.int .i64 d.a) := (hnew.below hb2 hnew.lt).cell 1
            have HW2 := Lib.hid (hR1.out.later hb2)
            go_quiet ((go_at_call 29; exact Calls.quiet_of_same (HH.out _ HW2.out)))
            go_wp2
            all_goals go_ret2
            all_goals exact ⟨by rw [HR2.out]; rfl, Below.drewN' (below_pre hb1 hb2) _⟩
          | some x =>
            obtain ⟨s, q⟩ := x
            rw [hq] at hx hhold
            have hlq := hlen _ hq
            simp only [holdV] at hhold hx hlq
            rw [List.drop_drop] at hx
            have HX2 := Lib.hid (show n - (k + q + 1) ≤ f1 ∧ sGo f1 (ps.drop (k + q + 1)) (max m s) = R from ⟨by omega, by rw [← hx]; congr 2; omega⟩)
            have HH := Lib.hid hhold
            have HQ := Lib.hid hlq
            clear h11 hx hd hX hT hdr hlen hq hhold hlq
            go_wp2_with (first
              | (refine wpList_load_deed rfl _ rfl b (off + k * 7) rfl d hra ?_)
              | (refine wpList_alloc_agg rfl 45 rfl zeroD.cells zeroR ?_)
              | (refine wpList_store_row rfl 45 _ _ rfl wr.heap.size d.cells rfl rfl 45 _ (heap_alloc_new wr _) (sizeD _) rfl (oneD _) ?_; rw [World.setRow_alloc_new])
              | (refine wpList_load_row rfl 45 _ rfl wr.heap.size rfl 45 _ (0, 0) _ (heap_alloc_new wr _) Tryd.underlying45 rfl (sizeD _) ?_)
              | (go_at_call 28; (with_reducible refine (htk _).mono ?_); clear htk; rintro e w2 ⟨rfl, hb2⟩))
            have hc1 : w2.cell? ⟨wr.heap.size, 1, none⟩ = some (.int .i64 d.a) := (hnew.below hb2 hnew.lt).cell 1
            have HW2 := Lib.hid (hR1.out.later hb2)
            go_quiet ((go_at_call 29; exact Calls.quiet_of_same (HH.out _ HW2.out)))
            go_wp2
            all_goals
              have hq2 := HQ.out
              have W1 : wrap64 ((k : Int) + (q : Int)) = ((k + q : Nat) : Int) := by rw [IntWalk.wrap64_in _ (by omega)]; omega
              have W2 : wrap64 (((k + q : Nat) : Int) + 1) = ((k + q + 1 : Nat) : Int) := by rw [IntWalk.wrap64_in _ (by omega)]; omega
              clear hq2
              go_roundw
              case rel => exact ⟨k + q + 1, max m s, f1, by have := HQ.out; omega, by have := HQ.out; rw [W1, W2], by simp only [Value.int.injEq, true_and]; omega, HX2, HW2, Below.drewN' (below_pre hb1 hb2) _⟩
              case measure => have := HQ.out; rw [W1, W2]; simp [intOf]; omega
        · have hTf : isTake d = false := by simpa using hT
          rw [if_neg hT] at hx
          simp only [hTf] at htk
          have HX2 := Lib.hid (show n - (k + 1) ≤ f1 ∧ sGo f1 (ps.drop (k + 1)) m = R from ⟨hf1, hx⟩)
          clear h11 hx hd hX hT hTf
          go_wp2_with (first
            | (refine wpList_load_deed rfl _ rfl b (off + k * 7) rfl d hra ?_)
            | (refine wpList_alloc_agg rfl 45 rfl zeroD.cells zeroR ?_)
            | (refine wpList_store_row rfl 45 _ _ rfl wr.heap.size d.cells rfl rfl 45 _ (heap_alloc_new wr _) (sizeD _) rfl (oneD _) ?_; rw [World.setRow_alloc_new])
            | (refine wpList_load_row rfl 45 _ rfl wr.heap.size rfl 45 _ (0, 0) _ (heap_alloc_new wr _) Tryd.underlying45 rfl (sizeD _) ?_)
            | (go_at_call 28; (with_reducible refine (htk _).mono ?_); clear htk; rintro e w2 ⟨rfl, hb2⟩))
          go_roundw
          case rel => exact ⟨k + 1, m, f1, by omega, by go_num, rfl, HX2, Lib.hid (hR1.out.later hb2), below_pre hb1 hb2⟩
          case measure => simp [intOf]; omega
    · obtain rfl : k = n := by omega
      have hx := hX.out.2
      rw [List.drop_of_length_le (by rw [HN.out]; exact Nat.le_refl _), sGo_nil] at hx
      have hr2 := HR.out
      rw [← hx] at hr2
      have HR2 := Lib.hid hr2
      clear hx hr2 hX
      go_wp2
      go_ret2
      exact ⟨by rw [HR2.out]; rfl, hb⟩
theorem Simple_any (p : Option Addr) (c : Nat) (ps : List Deed) (hok : ∀ d ∈ ps, d.ok) (G : Nat → Prop) (w : World) (h : RP w G (.slice p ps.length c) ps) :
    Calls Tryd.prog 9 #[.slice p ps.length c] w fun e w' => e = .returned (.tuple (simV (simN ps))) ∧ Below w.heap.size w w' := by
  by_cases h0 : checkN ps = 0
  · exact Simple_good p c _ ps rfl hok G w h h0
  · exact Simple_bad p c ps hok G w h h0
end Go.Proofs.YtlgjbcmkhcgigaaDoor

namespace Go.Proofs.YtlgjbcmkhcgigaaDoor
open Go.RowKit

theorem or_put (n : Nat) (hn : n < 18446744073709551616) (i : Int) (h0 : 0 ≤ i) (h6 : i < 64) : bits .or .u64 (n : Int) (IntKind.u64.wrap ((2 : Int) ^ i.toNat)) = (Sets.putN n i true : Nat) := by
  rw [Sets.wrap_pow _ (by omega), u64_or_nat _ _ hn (Sets.pow_lt_64 _ (by omega)), ← Sets.with_put n hn, Sets.bitN_mid i (by omega) (by omega)]

set_option maxHeartbeats 400000 in
theorem Locks_bad (p : Option Addr) (c : Nat) (ps : List Deed) (hok : ∀ d ∈ ps, d.ok) (G : Nat → Prop) (w : World) (h : RP w G (.slice p ps.length c) ps) (h0 : ¬ checkN ps = 0) :
    Calls Tryd.prog 13 #[.slice p ps.length c] w fun e w' => e = .returned (.int .u64 (locksN ps : Nat)) ∧ Below w.heap.size w w' := by
  have hck := Check_any p c ps hok G w h
  have hr : locksN ps = 0 := by unfold locksN; rw [if_neg h0]
  have ht : ((checkN ps : Int) != 0) = true := by simp; omega
  rw [hr]
  clear hok h h0 hr
  go_enter Tryd.func13, Tryd.ntmps13
  go_wp2_with (go_at_call 11; (with_reducible refine hck.mono ?_); clear hck; rintro e w1 ⟨rfl, hb1⟩)
  go_ret
  exact ⟨rfl, hb1⟩

set_option maxRecDepth 100000 in
set_option maxHeartbeats 2000000 in
theorem Locks_good (p : Option Addr) (c n : Nat) (ps : List Deed) (hn : ps.length = n) (hok : ∀ d ∈ ps, d.ok) (G : Nat → Prop) (w : World) (h : RP w G (.slice p n c) ps) (h0 : checkN ps = 0) :
    Calls Tryd.prog 13 #[.slice p n c] w fun e w' => e = .returned (.int .u64 (locksN ps : Nat)) ∧ Below w.heap.size w w' := by
  have hck := Check_any p c ps hok G w (by rw [hn]; exact h)
  rw [hn, h0] at hck
  obtain ⟨hl6, hgp⟩ := checkN_zero.1 h0
  rw [hn] at hl6
  have hr : locksN ps = locksGo (ps.take n) := by unfold locksN; rw [if_pos h0, ← hn, List.take_length]
  have HR := Lib.hid hr
  have H := Lib.hid h
  have HN := Lib.hid hn
  have HGP := Lib.hid hgp
  clear h0 hr hok h hgp hn
  go_enter Tryd.func13, Tryd.ntmps13
  go_wp2_with (go_at_call 11; (with_reducible refine hck.mono ?_); clear hck; rintro e w1 ⟨rfl, hb1⟩; have H1 := Lib.hid (H.out.later hb1))
  go_loopw [3, 11] (fun s t wr => ∃ k : Nat, k ≤ n ∧ t = .int .i64 k ∧ s = .int .u64 (locksGo (ps.take k) : Nat) ∧ Hid (RP wr G (.slice p n c) ps) ∧ Below w.heap.size w wr) (fun _ t _ => n - (intOf t).toNat)
  case atStart => exact ⟨0, by omega, rfl, rfl, H1, hb1⟩
  case round =>
    obtain ⟨k, hk, rfl, rfl, hR, hb⟩ := hrel
    clear H H1 hb1
    by_cases hlt : k < n
    · obtain ⟨d, hd⟩ : ∃ d, ps[k]? = some d := ⟨_, List.getElem?_eq_getElem (by rw [HN.out]; exact hlt)⟩
      obtain ⟨b, off, rfl, _, _, hra, _⟩ := hR.out.at hd
      have hb1 : Below w.heap.size w (wr.alloc (.cells d.cells 45)) := hb.alloc hb.size _
      have hR1 := Lib.hid (hR.out.later (below_alloc1 wr (.cells d.cells 45)))
      have hnew := Blk.new wr 45 d.cells
      have hsn := locksGo_snoc hd
      obtain ⟨h00, h64, _⟩ := good_range (goodP_mem HGP.out (List.mem_of_getElem? hd))
      have hor := or_put (locksGo (ps.take k)) (locksGo_lt _) d.a h00 h64
      have htk := takes_any d
      simp only [Deed.val] at htk
      by_cases hT : isTake d = true
      · rw [if_pos hT, ← Int.natCast_inj (m := locksGo (ps.take (k + 1))), ← hor] at hsn
        simp only [hT] at htk
        have HS := Lib.hid hsn
        clear hd hsn hor hT
        go_wp2_with (first
          | (refine wpList_load_deed rfl _ rfl b (off + k * 7) rfl d hra ?_)
          | (refine wpList_alloc_agg rfl 45 rfl zeroD.cells zeroR ?_)
          | (refine wpList_store_row rfl 45 _ _ rfl wr.heap.size d.cells rfl rfl 45 _ (heap_alloc_new wr _) (sizeD _) rfl (oneD _) ?_; rw [World.setRow_alloc_new])
          | (refine wpList_load_row rfl 45 _ rfl wr.heap.size rfl 45 _ (0, 0) _ (heap_alloc_new wr _) Tryd.underlying45 rfl (sizeD _) ?_)
          | (go_at_call 28; (with_reducible refine (htk _).mono ?_); clear htk; rintro e w2 ⟨rfl, hb2⟩; have hc1 : w2.cell? ⟨wr.heap.size, 1, none⟩ = some (.int .i64 d.a) := (hnew.below hb2 hnew.lt).cell 1))
        go_roundw
        case rel => exact ⟨k + 1, by omega, by go_num, by rw [HS.out], Lib.hid (hR1.out.later hb2), below_pre hb1 hb2⟩
        case measure => simp [intOf]; omega
      · have hTf : isTake d = false := by simpa using hT
        rw [if_neg hT] at hsn
        simp only [hTf] at htk
        have HS := Lib.hid hsn
        clear hd hsn hor hT hTf
        go_wp2_with (first
          | (refine wpList_load_deed rfl _ rfl b (off + k * 7) rfl d hra ?_)
          | (refine wpList_alloc_agg rfl 45 rfl zeroD.cells zeroR ?_)
          | (refine wpList_store_row rfl 45 _ _ rfl wr.heap.size d.cells rfl rfl 45 _ (heap_alloc_new wr _) (sizeD _) rfl (oneD _) ?_; rw [World.setRow_alloc_new])
          | (refine wpList_load_row rfl 45 _ rfl wr.heap.size rfl 45 _ (0, 0) _ (heap_alloc_new wr _) Tryd.underlying45 rfl (sizeD _) ?_)
          | (go_at_call 28; (with_reducible refine (htk _).mono ?_); clear htk; rintro e w2 ⟨rfl, hb2⟩))
        go_roundw
        case rel => exact ⟨k + 1, by omega, by go_num, by rw [HS.out], Lib.hid (hR1.out.later hb2), below_pre hb1 hb2⟩
        case measure => simp [intOf]; omega
    · obtain rfl : k = n := by omega
      go_wp2
      go_ret
      exact ⟨ret_u (by rw [HR.out]), hb⟩
theorem Locks_any (p : Option Addr) (c : Nat) (ps : List Deed) (hok : ∀ d ∈ ps, d.ok) (G : Nat → Prop) (w : World) (h : RP w G (.slice p ps.length c) ps) :
    Calls Tryd.prog 13 #[.slice p ps.length c] w fun e w' => e = .returned (.int .u64 (locksN ps : Nat)) ∧ Below w.heap.size w w' := by
  by_cases h0 : checkN ps = 0
  · exact Locks_good p c _ ps rfl hok G w h h0
  · exact Locks_bad p c ps hok G w h h0
end Go.Proofs.YtlgjbcmkhcgigaaDoor
