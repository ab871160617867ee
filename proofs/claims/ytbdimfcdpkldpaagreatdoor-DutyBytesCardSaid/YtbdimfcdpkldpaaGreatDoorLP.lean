/- A slice of programs and a float that came in. A duty that came in. -/
import Derived.Test.YtbdimfcdpkldpaaGreatDoorP1
import Derived.Test.YtbdimfcdpkldpaaGreatDoorLY1
import Derived.ChangeArms
import Derived.Test.YtbdimfcdpkldpaaGreatDoorLYM
namespace Go.Proofs.YtbdimfcdpkldpaaGreatDoor
open Go.ChangeShapes Go.WideShapes Go.RowKit Go.Deep
section
variable {H : Type} {enc : TypeId × Value → H} {w : World} {base : Nat} {spare : Nat → Bool} {held : Bool}
theorem trod_float {P : Program} {t : TypeId} {k : FloatKind} {fuel : Nat} {cs : List Value} {x : DataW H × List MemPlace} (ht : P.underlying t = some (.float k)) (h : DataW.trod enc P w base spare held fuel t cs = some x) :
    ∃ b, cs = [.float k b] ∧ (Lit.float k b).wf = true := by
  cases fuel with
  | zero => simp [DataW.trod] at h
  | succ n =>
    unfold DataW.trod at h
    rw [ht] at h
    split at h <;> simp_all
theorem open_f64 {P : Program} {t : TypeId} {n : Nat} {cs : List Value} {y : DataW H × List MemPlace} (ht : P.underlying t = some (.float .f64)) (h : DataW.trod enc P w base spare held n t cs = some y) : ∃ b : Nat, cs = [.float .f64 b] ∧ b < 18446744073709551616 := by
  obtain ⟨b, e, hw⟩ := trod_float ht h
  refine ⟨b, e, ?_⟩
  simpa [Lit.wf] using hw
theorem open_program {n : Nat} {cs : List Value} {y : DataW H × List MemPlace} (h : DataW.trod enc Tryz.prog w base spare held n 45 cs = some y) :
    ∃ u : Value × List Deed, cs = [u.1] ∧ (∀ d ∈ u.2, d.ok) ∧ RP w (fun k => k < w.heap.size) u.1 u.2 := by
  have hc : ∃ v, cs = [v] := by
    rcases open_slice Tryz.underlying45 h with ⟨h0, _⟩ | ⟨a, len, cap, m, n, D, Pl, hcs, _⟩
    · exact ⟨_, h0⟩
    · exact ⟨_, hcs⟩
  obtain ⟨v, rfl⟩ := hc
  obtain ⟨ps, h1, h2⟩ := open_deeds h
  exact ⟨(v, ps), rfl, h1, h2⟩
/-- A slice of programs that came in; t: its type. -/
theorem open_progs {t : TypeId} {v : Value} {fuel : Nat} {x : DataW H × List MemPlace} (ht : Tryz.prog.underlying t = some (.slice 45)) (h : DataW.trod enc Tryz.prog w base spare held fuel t [v] = some x) :
    ∃ pss : List (List Deed), (∀ p ∈ pss, ∀ d ∈ p, d.ok) ∧ RPP w (fun k => k < w.heap.size) v pss := by
  obtain ⟨ts, hg, hr⟩ := open_list (f := fun u : Value × List Deed => [u.1]) (good := fun u => (∀ d ∈ u.2, d.ok) ∧ RP w (fun k => k < w.heap.size) u.1 u.2) 1 ht (by kernel_rfl) (by decide) (fun n cs y hy => open_program hy) (fun _ => rfl) h
  rw [flat_one (fun u : Value × List Deed => u.1)] at hr
  refine ⟨ts.map fun u => u.2, fun p hp d hd => ?_, ts.map fun u => u.1, by simp, by rw [List.length_map]; exact hr, fun k u ps hu hp => ?_⟩
  · obtain ⟨u, hu, rfl⟩ := List.mem_map.1 hp
    exact (hg u hu).1 d hd
  · rw [List.getElem?_map] at hu hp
    obtain ⟨y, hy, rfl⟩ := Option.map_eq_some_iff.1 hu
    obtain ⟨z, hz, rfl⟩ := Option.map_eq_some_iff.1 hp
    rw [hy] at hz
    cases hz
    exact (hg y (List.mem_of_getElem? hy)).2
end
end Go.Proofs.YtbdimfcdpkldpaaGreatDoor

namespace Go.Proofs.YtbdimfcdpkldpaaGreatDoor
open Go.ChangeShapes Go.WideShapes Go.RowKit Go.Deep
/-- A duty with its two slices. -/
structure DI where
  dut : Dut
  vp : Value
  vs : Value
def DI.cells (x : DI) : Array Value := x.dut.cells x.vp x.vs
section
variable {H : Type} {enc : TypeId × Value → H} {w : World} {base : Nat} {spare : Nat → Bool} {held : Bool}
theorem open_start {n : Nat} {cs : List Value} {y : DataW H × List MemPlace} (h : DataW.trod enc Tryz.prog w base spare held n 58 cs = some y) : ∃ s : St, cs = stCells s ∧ s.ok := by
  obtain ⟨hl, hf⟩ := open_fields Tryz.underlying58 (by kernel_rfl) (by kernel_rfl) h
  match cs, hl with
  | [c0, c1, c2], _ =>
    obtain ⟨_, _, h0⟩ := hf 0 _ rfl
    obtain ⟨_, _, h1⟩ := hf 1 _ rfl
    obtain ⟨_, _, h2⟩ := hf 2 _ rfl
    obtain ⟨z0, e0, b0⟩ := open_i64 Tryz.underlying3 h0
    obtain ⟨z1, e1, b1⟩ := open_i64 Tryz.underlying3 h1
    obtain ⟨n2, e2, b2⟩ := open_u64 Tryz.underlying22 h2
    simp at e0 e1 e2
    subst e0 e1 e2
    exact ⟨⟨z0, z1, n2⟩, rfl, b0, b1, b2⟩
theorem open_starts {t : TypeId} {v : Value} {fuel : Nat} {x : DataW H × List MemPlace} (ht : Tryz.prog.underlying t = some (.slice 58)) (h : DataW.trod enc Tryz.prog w base spare held fuel t [v] = some x) :
    ∃ ss : List St, (∀ s ∈ ss, s.ok) ∧ RSs w (fun k => k < w.heap.size) v ss :=
  open_list (f := stCells) (good := fun s => s.ok) 3 ht (by kernel_rfl) (by decide) (fun _ _ _ hy => open_start hy) stCells_len h
theorem open_duty {n : Nat} {cs : List Value} {y : DataW H × List MemPlace} (h : DataW.trod enc Tryz.prog w base spare held n 27 cs = some y) :
    ∃ d : DI, cs = d.cells.toList ∧ d.dut.ok ∧ DV w (fun k => k < w.heap.size) d.vp d.vs d.dut := by
  obtain ⟨hl, hf⟩ := open_fields Tryz.underlying27 (by kernel_rfl) (by kernel_rfl) h
  match cs, hl with
  | [c0, c1, c2, c3, c4, c5, c6, c7, c8], _ =>
    obtain ⟨_, _, h0⟩ := hf 0 _ rfl
    obtain ⟨_, _, h1⟩ := hf 1 _ rfl
    obtain ⟨_, _, h2⟩ := hf 2 _ rfl
    obtain ⟨_, _, h3⟩ := hf 3 _ rfl
    obtain ⟨_, _, h4⟩ := hf 4 _ rfl
    obtain ⟨_, _, h5⟩ := hf 5 _ rfl
    obtain ⟨_, _, h6⟩ := hf 6 _ rfl
    obtain ⟨_, _, h7⟩ := hf 7 _ rfl
    obtain ⟨_, _, h8⟩ := hf 8 _ rfl
    obtain ⟨z0, e0, b0⟩ := open_i64 Tryz.underlying3 h0
    obtain ⟨z1, e1, b1⟩ := open_i64 Tryz.underlying3 h1
    obtain ⟨z2, e2, b2⟩ := open_i64 Tryz.underlying3 h2
    obtain ⟨z3, e3, b3⟩ := open_i64 Tryz.underlying3 h3
    obtain ⟨n4, e4, b4⟩ := open_u64 Tryz.underlying22 h4
    obtain ⟨n5, e5, b5⟩ := open_f64 Tryz.underlying23 h5
    obtain ⟨n6, e6, b6⟩ := open_f64 Tryz.underlying23 h6
    simp at e0 e1 e2 e3 e4 e5 e6
    subst e0 e1 e2 e3 e4 e5 e6
    obtain ⟨pss, hpo, hpr⟩ := open_progs Tryz.underlying24 h7
    obtain ⟨ss, hso, hsr⟩ := open_starts Tryz.underlying25 h8
    exact ⟨⟨⟨z0, z1, z2, z3, n4, n5, n6, pss, ss⟩, c7, c8⟩, rfl, ⟨b0, b1, b2, b3, b4, b5, b6, hpo, hso⟩, ⟨hpr, hsr⟩⟩
end
end Go.Proofs.YtbdimfcdpkldpaaGreatDoor
