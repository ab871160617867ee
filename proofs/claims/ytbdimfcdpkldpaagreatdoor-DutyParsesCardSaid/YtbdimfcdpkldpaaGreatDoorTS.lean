/- The contract of the reference's Same of programs. -/
import Derived.Test.YtbdimfcdpkldpaaGreatDoorQ1
import Derived.Test.YtbdimfcdpkldpaaGreatDoorLD1
import Derived.Deep.QuietTactic
import Derived.BigQuiet
namespace Go.Proofs.YtbdimfcdpkldpaaGreatDoor
open Go.RowKit

/-- Are two programs the same? -/
def sameP : List Deed → List Deed → Bool
  | [], [] => true
  | d :: ps, e :: qs => eqD d e && sameP ps qs
  | _, _ => false
theorem sameP_iff : ∀ ps qs : List Deed, sameP ps qs = true ↔ ps = qs
  | [], [] => by simp [sameP]
  | d :: ps, e :: qs => by simp [sameP, sameP_iff ps qs, eqD_iff]
  | [], _ :: _ => by simp [sameP]
  | _ :: _, [] => by simp [sameP]
theorem same_step {ps qs : List Deed} {k : Nat} {d e : Deed} (hd : ps[k]? = some d) (he : qs[k]? = some e) (h : ps.take k = qs.take k) (hde : d = e) : ps.take (k + 1) = qs.take (k + 1) := by
  rw [List.take_add_one, List.take_add_one, hd, he, h, hde]
theorem same_not {ps qs : List Deed} {k : Nat} {d e : Deed} (hd : ps[k]? = some d) (he : qs[k]? = some e) (hde : ¬ d = e) : sameP ps qs = false := by
  rw [Bool.eq_false_iff]
  intro hs
  obtain rfl := (sameP_iff _ _).1 hs
  rw [hd] at he
  exact hde (Option.some.inj he)

set_option maxRecDepth 100000 in
set_option maxHeartbeats 4000000 in
theorem Same_any (p p' : Option Addr) (c c' : Nat) (ps qs : List Deed) (hpl : ps.length ≤ 100000) (G G' : Nat → Prop) (w : World) (h : RP w G (.slice p ps.length c) ps) (h' : RP w G' (.slice p' qs.length c') qs) :
    Calls Tryz.prog 38 #[.slice p ps.length c, .slice p' qs.length c'] w fun e w' => e = .returned (.bool (sameP ps qs)) ∧ Below w.heap.size w w' := by
  by_cases hl : ps.length = qs.length
  · obtain ⟨R, hR⟩ : ∃ R, sameP ps qs = R := ⟨_, rfl⟩
    rw [hR]
    have HR := Lib.hid hR
    have ht : ((ps.length : Int) != (qs.length : Int)) = false := by simp [hl]
    have HL := Lib.hid hl
    have H := Lib.hid h
    have H' := Lib.hid h'
    clear h h' hl hR
    go_enter Tryz.func38, Tryz.ntmps38
    go_wp2
    go_loopw [5] (fun t wr => ∃ k : Nat, k ≤ ps.length ∧ t = .int .i64 k ∧ Hid (ps.take k = qs.take k) ∧ Hid (RP wr G (.slice p ps.length c) ps) ∧ Hid (RP wr G' (.slice p' qs.length c') qs) ∧ Below w.heap.size w wr) (fun t _ => ps.length - (intOf t).toNat)
    case atStart => exact ⟨0, by omega, rfl, Lib.hid (by simp), H, H', Below.refl _ _⟩
    case round =>
      obtain ⟨k, hk, rfl, hE, hP, hQ, hb⟩ := hrel
      clear H H'
      by_cases hlt : k < ps.length
      · have hlt' : k < qs.length := by have := HL.out; omega
        obtain ⟨d, hd⟩ : ∃ d, ps[k]? = some d := ⟨_, List.getElem?_eq_getElem hlt⟩
        obtain ⟨e, he⟩ : ∃ e, qs[k]? = some e := ⟨_, List.getElem?_eq_getElem hlt'⟩
        obtain ⟨b, off, rfl, _, _, hra, _⟩ := hP.out.at hd
        obtain ⟨b', off', rfl, _, _, hra', _⟩ := hQ.out.at he
        have a0 : wr.cell? ⟨b, off + k * 7, none⟩ = some (.int .i64 d.op) := hra 0 _ rfl
        have a1 : wr.cell? ⟨b, off + k * 7 + 1, none⟩ = some (.int .i64 d.a) := hra 1 _ rfl
        have a2 : wr.cell? ⟨b, off + k * 7 + 2, none⟩ = some (.int .i64 d.b) := hra 2 _ rfl
        have a3 : wr.cell? ⟨b, off + k * 7 + 3, none⟩ = some (.int .i64 d.r) := hra 3 _ rfl
        have a4 : wr.cell? ⟨b, off + k * 7 + 4, none⟩ = some (.int .u64 (d.n : Int)) := hra 4 _ rfl
        have a5 : wr.cell? ⟨b, off + k * 7 + 5, none⟩ = some (.int .u64 (d.mask : Int)) := hra 5 _ rfl
        have a6 : wr.cell? ⟨b, off + k * 7 + 6, none⟩ = some (.bool d.loose) := hra 6 _ rfl
        have c0 : wr.cell? ⟨b', off' + k * 7, none⟩ = some (.int .i64 e.op) := hra' 0 _ rfl
        have c1 : wr.cell? ⟨b', off' + k * 7 + 1, none⟩ = some (.int .i64 e.a) := hra' 1 _ rfl
        have c2 : wr.cell? ⟨b', off' + k * 7 + 2, none⟩ = some (.int .i64 e.b) := hra' 2 _ rfl
        have c3 : wr.cell? ⟨b', off' + k * 7 + 3, none⟩ = some (.int .i64 e.r) := hra' 3 _ rfl
        have c4 : wr.cell? ⟨b', off' + k * 7 + 4, none⟩ = some (.int .u64 (e.n : Int)) := hra' 4 _ rfl
        have c5 : wr.cell? ⟨b', off' + k * 7 + 5, none⟩ = some (.int .u64 (e.mask : Int)) := hra' 5 _ rfl
        have c6 : wr.cell? ⟨b', off' + k * 7 + 6, none⟩ = some (.bool e.loose) := hra' 6 _ rfl
        have q3 := neq_run d e
        simp only [Deed.cells] at q3
        by_cases hde : d = e
        · have HX := Lib.hid (same_step hd he hE.out hde)
          rw [(eqD_iff d e).2 hde] at q3
          clear hd he hde hra hra' hE
          go_wp2_with fail
          go_quiet (fail)
          go_wp2
          go_roundw
          case rel => exact ⟨k + 1, by omega, by go_num, HX, Lib.hid (hP.out.drewN _), Lib.hid (hQ.out.drewN _), Below.drewN' hb _⟩
          case measure => simp [intOf]; omega
        · have HX := Lib.hid (same_not hd he hde)
          rw [show eqD d e = false by rw [Bool.eq_false_iff]; exact fun h => hde ((eqD_iff d e).1 h)] at q3
          clear hd he hde hra hra' hE
          go_wp2_with fail
          go_quiet (fail)
          go_wp2
          go_ret
          exact ⟨by rw [← HR.out, HX.out]; rfl, Below.drewN' hb _⟩
      · obtain rfl : k = ps.length := by omega
        have hx := hE.out
        rw [List.take_length, HL.out, List.take_length] at hx
        have hr : R = true := by rw [← HR.out]; exact (sameP_iff _ _).2 hx
        subst hr
        clear hx
        go_wp2
        go_ret
        exact ⟨rfl, hb⟩
  · have hr : sameP ps qs = false := by
      rw [Bool.eq_false_iff]
      intro hs
      exact hl (congrArg List.length ((sameP_iff _ _).1 hs))
    rw [hr]
    have ht : ((ps.length : Int) != (qs.length : Int)) = true := by simp; omega
    clear hl h h' hr
    go_enter Tryz.func38, Tryz.ntmps38
    go_wp2
    go_ret
    exact ⟨rfl, Below.refl _ _⟩
end Go.Proofs.YtbdimfcdpkldpaaGreatDoor
