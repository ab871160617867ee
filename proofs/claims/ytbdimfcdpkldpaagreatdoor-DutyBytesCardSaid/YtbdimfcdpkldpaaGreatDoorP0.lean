/- What the rows' listed variables give the walks: the table of the powers of ten, and one cell of the table by which the library counts trailing zeros. -/
import Derived.Test.YtbdimfcdpkldpaaGreatDoorLN2
import Derived.Test.YtbdimfcdpkldpaaGreatDoorLB
import Derived.Test.YtbdimfcdpkldpaaGreatDoorLDM
import Derived.ProofKit
import Derived.LaidMore
import Derived.OpenShut
import Derived.Stop.Joined
import Derived.Lib.LaidTab
import Derived.Stop.LaidErr
import Derived.Shelf.Spec.TrailingZeros
namespace Go.Proofs.YtbdimfcdpkldpaaGreatDoor
open Go.ChangeShapes Go.WideShapes Go.ChangeAt Go.RowKit

theorem own : ownKnob Tryz.prog.godebug = none := by kernel_rfl
theorem laidOut : laidOutB Tryz.prog = true := by kernel_rfl
abbrev laid3 : List (String × DataW Unit) := [("math/bits.deBruijn32tab", Rows.laid_math_bits_deBruijn32tab), ("math/bits.deBruijn64tab", Rows.laid_math_bits_deBruijn64tab), ("internal/strconv.uint64pow10", Rows.laid_internal_strconv_uint64pow10)]
theorem gTab : Tryz.prog.globalNamed "math/bits.deBruijn64tab" = some 4 := by kernel_rfl
theorem tTab : (Tryz.prog.globals[4]?).map (·.type) = some 220 := by kernel_rfl
theorem tPow : (Tryz.prog.globals[2]?).map (·.type) = some 214 := by kernel_rfl

/-- The door's own heap meets the condition. -/
theorem door_met (os : Os) (args : Array Value) : laidMetH Tryz.prog laid3 ((World.doorLaid Tryz.prog 24 os).forCall (fun _ _ => 0) ⟨#[], args, []⟩).memory :=
  laidMetH_of_parts3 (fuel := 8) (laidMet_of_run' 8 (by kernel_rfl) (by kernel_rfl)) (by kernel_rfl) (by kernel_rfl)

theorem tab_data : Rows.laid_math_bits_deBruijn64tab = (Lib.tabData .u8 (Lib.deBruijn64tab.map Int.ofNat) : DataW Unit) := by kernel_rfl
theorem pow_data : Rows.laid_internal_strconv_uint64pow10 = (Lib.tabData .u64 Lib.pow10Tab : DataW Unit) := by kernel_rfl

theorem tabs_of_laid {W : World} (h : laidMetH Tryz.prog laid3 W) : Tabs W := by
  rw [MakeChecks.laidMetH_plain _ _ _ (by kernel_rfl)] at h
  have h2 := laidMet.tail h
  have h3 := laidMet.tail h2
  rw [tab_data] at h2
  rw [pow_data] at h3
  have ht := Lib.tabIs_of_head gTab tTab Tryz.underlying220 Tryz.underlying5 (by kernel_rfl) (by kernel_rfl) h2
  have hp := Lib.tabIs_of_head gPow tPow Tryz.underlying214 Tryz.underlying22 (by kernel_rfl) (by kernel_rfl) h3
  refine ⟨hp, ?_⟩
  have hc := ht.cell gTab 15 (by decide)
  rw [hc]
  rfl

theorem wf_u64 {a : Int} (h : (Lit.int .u64 a).wf = true) : ∃ n : Nat, a = (n : Int) ∧ n < 18446744073709551616 := by
  have hb := bounds_u64 h
  exact ⟨a.toNat, by omega, by omega⟩

section
open Go.Deep
variable {H : Type} {enc : TypeId × Value → H} {w : World} {base : Nat} {spare : Nat → Bool} {held : Bool}
theorem open_bytes {v : Value} {fuel : Nat} {x : DataW H × List MemPlace} (h : DataW.trod enc Tryz.prog w base spare held fuel 38 [v] = some x) :
    ∃ l : List UInt8, RV w (fun k => k < w.heap.size) v l.length 1 (l.map fun c => Value.int .u8 (c.toNat : Int)) := by
  obtain ⟨l, _, hr⟩ := open_list (f := fun c : UInt8 => [Value.int .u8 (c.toNat : Int)]) (good := fun _ => True) 1 Tryz.underlying38 (by kernel_rfl) (by decide) (fun n cs y hy => open_u8 Tryz.underlying5 hy) (fun _ => rfl) h
  exact ⟨l, by rw [← flat_one]; exact hr⟩
theorem open_deed {n : Nat} {cs : List Value} {y : DataW H × List MemPlace} (h : DataW.trod enc Tryz.prog w base spare held n 109 cs = some y) : ∃ d : Deed, cs = d.cells.toList ∧ d.ok := by
  obtain ⟨hl, hf⟩ := open_fields Tryz.underlying109 (by kernel_rfl) (by kernel_rfl) h
  match cs, hl with
  | [c0, c1, c2, c3, c4, c5, c6], _ =>
    obtain ⟨_, _, h0⟩ := hf 0 _ rfl
    obtain ⟨_, _, h1⟩ := hf 1 _ rfl
    obtain ⟨_, _, h2⟩ := hf 2 _ rfl
    obtain ⟨_, _, h3⟩ := hf 3 _ rfl
    obtain ⟨_, _, h4⟩ := hf 4 _ rfl
    obtain ⟨_, _, h5⟩ := hf 5 _ rfl
    obtain ⟨_, _, h6⟩ := hf 6 _ rfl
    obtain ⟨z0, e0, b0⟩ := open_i64 Tryz.underlying3 h0
    obtain ⟨z1, e1, b1⟩ := open_i64 Tryz.underlying3 h1
    obtain ⟨z2, e2, b2⟩ := open_i64 Tryz.underlying3 h2
    obtain ⟨z3, e3, b3⟩ := open_i64 Tryz.underlying3 h3
    obtain ⟨n4, e4, b4⟩ := open_u64 Tryz.underlying22 h4
    obtain ⟨n5, e5, b5⟩ := open_u64 Tryz.underlying22 h5
    obtain ⟨t6, e6, _⟩ := DataW.trod_bool Tryz.underlying4 h6
    simp at e0 e1 e2 e3 e4 e5 e6
    subst e0 e1 e2 e3 e4 e5 e6
    exact ⟨⟨z0, z1, z2, z3, n4, n5, t6⟩, rfl, b0, b1, b2, b3, b4, b5⟩
end
end Go.Proofs.YtbdimfcdpkldpaaGreatDoor
