/- A slice of instructions that reads, an instruction read out of it, and the contract of prog's Check. -/
import Derived.Test.YtbdimfcdpkldpaaGreatDoorD7
import Derived.Test.YtbdimfcdpkldpaaGreatDoorLQ0
import Derived.Test.YtbdimfcdpkldpaaGreatDoorLB
import Derived.Deep.MidRow
namespace Go.Proofs.YtbdimfcdpkldpaaGreatDoor
open Go.RowKit

def dCells (d : Deed) : List Value := d.cells.toList
theorem dCells_len (d : Deed) : (dCells d).length = 7 := rfl
/-- v is a slice that reads as the instructions ps. -/
def RP (w : World) (G : Nat → Prop) (v : Value) (ps : List Deed) : Prop := RV w G v ps.length 7 (ps.flatMap dCells)
section
variable {w w' : World} {G : Nat → Prop} {v : Value} {ps : List Deed}
theorem RP.later (h : RP w G v ps) (hb : Below w.heap.size w w') : RP w' G v ps := RV.below h hb (fun _ hk _ => hk)
theorem RP.shape (h : RP w G v ps) : ∃ p c, v = .slice p ps.length c ∧ ps.length ≤ c ∧ c ≤ maxLen := by
  unfold RP at h
  obtain ⟨p, c, hv, h1, h2, _⟩ := h
  exact ⟨p, c, hv, h1, h2⟩
theorem RP.at {p : Option Addr} {n c : Nat} (h : RP w G (.slice p n c) ps) {k : Nat} {d : Deed} (hd : ps[k]? = some d) :
    ∃ b off, p = some ⟨b, off, none⟩ ∧ b < w.heap.size ∧ G b ∧ w.rangeAt b (off + k * 7) (dCells d) ∧ w.cell? ⟨b, off + k * 7, none⟩ = some (.int .i64 d.op) ∧ w.cell? ⟨b, off + k * 7 + 1, none⟩ = some (.int .i64 d.a) ∧ w.cell? ⟨b, off + k * 7 + 4, none⟩ = some (.int .u64 (d.n : Int)) := by
  obtain ⟨b, off, c', hv, hb, hG, hc⟩ := RV.elem (f := dCells) h (by decide) (fun t _ => dCells_len t) k d hd
  cases hv
  exact ⟨b, off, rfl, hb, hG, hc, hc 0 _ rfl, hc 1 _ rfl, hc 4 _ rfl⟩
end

section
variable {ops : Array Oper} {rest : List Oper} {o : Oper} {a : Act} {w : World} {Q : Exit → Act → World → Prop}
theorem wpList_load_deed (hgd : o.guard = none) (x : Operand) (ho : o.op = .load 109 x) (b off : Nat) (hx : a.eval x = .pointer (some ⟨b, off, none⟩)) (d : Deed) (hc : w.rangeAt b off (dCells d))
    (h : wpList Tryz.prog ops Q rest (a.put o.dst (.agg d.cells)) w) : wpList Tryz.prog ops Q (o :: rest) a w :=
  wpList_load_mid hgd 109 x ho b off hx (dCells d) _ hc Tryz.underlying109 rfl (by kernel_rfl) h
end

theorem ret_i {a b : Int} (h : a = b) : Ending.returned (.int .i64 a) = .returned (.int .i64 b) := by rw [h]

set_option maxHeartbeats 1000000 in
theorem Check_any (p : Option Addr) (c : Nat) (ps : List Deed) (hok : ∀ d ∈ ps, d.ok) (G : Nat → Prop) (w : World) (h : RP w G (.slice p ps.length c) ps) :
    Calls Tryz.prog 85 #[.slice p ps.length c] w fun e w' => e = .returned (.int .i64 (checkN ps : Nat)) ∧ Below w.heap.size w w' := by
  by_cases hl : 256 < ps.length
  · have hc : checkN ps = 4 := by unfold checkN; rw [if_pos hl]
    rw [hc]
    have ht : decide ((ps.length : Int) > 256) = true := by simp; omega
    clear hl hok h hc
    go_enter Tryz.func85, Tryz.ntmps85
    go_wp2
    go_ret
    exact ⟨rfl, Below.refl _ _⟩
  · have HC : Hid (∀ b, goodP ps = b → checkN ps = if b = true then 0 else 1) := Lib.hid (by rintro _ rfl; unfold checkN; rw [if_neg hl])
    have ht : decide ((ps.length : Int) > 256) = false := by simp; omega
    have hOK := Lib.hid hok
    have H := Lib.hid h
    have hl6 : ps.length ≤ 256 := by omega
    clear hl hok h
    go_enter Tryz.func85, Tryz.ntmps85
    go_wp2
    go_loopw [10] (fun t wr => ∃ k : Nat, k ≤ ps.length ∧ t = .int .i64 k ∧ Hid (∀ d ∈ ps.take k, goodD d = true) ∧ Hid (RP wr G (.slice p ps.length c) ps) ∧ Below w.heap.size w wr) (fun t _ => ps.length - (intOf t).toNat)
    case atStart => exact ⟨0, by omega, rfl, Lib.hid (by simp), H, Below.refl _ _⟩
    case round =>
      obtain ⟨k, hk, rfl, hg, hR, hb⟩ := hrel
      by_cases hlt : k < ps.length
      · obtain ⟨d, hd⟩ : ∃ d, ps[k]? = some d := ⟨_, List.getElem?_eq_getElem hlt⟩
        obtain ⟨b, off, rfl, _, _, hra, _⟩ := hR.out.at hd
        have hgood := Good_any d (hOK.out d (List.mem_of_getElem? hd))
        have hb1 : Below w.heap.size w (wr.alloc (.cells d.cells 109)) := hb.alloc hb.size _
        have hR1 := Lib.hid (hR.out.later (below_alloc1 wr (.cells d.cells 109)))
        have HD := Lib.hid hd
        clear hd H
        simp only [Deed.val] at hgood
        cases hgd : goodD d
        all_goals
          rw [hgd] at hgood
          have HG := Lib.hid hgd
          clear hgd
          go_wp2_with (first
            | (refine wpList_load_deed rfl _ rfl b (off + k * 7) rfl d hra ?_)
            | (refine wpList_alloc_agg rfl 109 rfl zeroD.cells zeroR ?_)
            | (refine wpList_store_row rfl 109 _ _ rfl wr.heap.size d.cells rfl rfl 109 _ (heap_alloc_new wr _) (sizeD _) rfl (oneD _) ?_; rw [World.setRow_alloc_new])
            | (refine wpList_load_row rfl 109 _ rfl wr.heap.size rfl 109 _ (0, 0) _ (heap_alloc_new wr _) Tryz.underlying109 rfl (sizeD _) ?_)
            | (go_at_call 108; (with_reducible refine (hgood _).mono ?_); clear hgood; rintro e w2 ⟨rfl, hb2⟩))
        · go_ret
          exact ⟨ret_i (by rw [HC.out false (goodP_not HD.out HG.out)]; rfl), below_pre hb1 hb2⟩
        · go_roundw
          case rel => exact ⟨k + 1, by omega, by go_num, Lib.hid (goodP_take hg.out d HD.out HG.out), Lib.hid (hR1.out.later hb2), below_pre hb1 hb2⟩
          case measure => simp [intOf]; omega
      · obtain rfl : k = ps.length := by omega
        have hgp := hg.out
        rw [List.take_length] at hgp
        go_wp2
        go_ret
        exact ⟨ret_i (by rw [HC.out true (goodP_all hgp)]; rfl), hb⟩
end Go.Proofs.YtbdimfcdpkldpaaGreatDoor
