/- A slice of instructions that came in. -/
import Derived.Test.YtbdimfcdpkldpaaGreatDoorP0
import Derived.Test.YtbdimfcdpkldpaaGreatDoorQ1
namespace Go.Proofs.YtbdimfcdpkldpaaGreatDoor
open Go.ChangeShapes Go.WideShapes Go.RowKit Go.Deep

theorem open_deeds {H : Type} {enc : TypeId × Value → H} {w : World} {base : Nat} {spare : Nat → Bool} {held : Bool} {v : Value} {fuel : Nat} {x : DataW H × List MemPlace} (h : DataW.trod enc Tryz.prog w base spare held fuel 45 [v] = some x) :
    ∃ ps : List Deed, (∀ d ∈ ps, d.ok) ∧ RP w (fun k => k < w.heap.size) v ps :=
  open_list (f := dCells) (good := fun d => d.ok) 7 Tryz.underlying45 (by kernel_rfl) (by decide) (fun _ _ _ hy => open_deed hy) dCells_len h
end Go.Proofs.YtbdimfcdpkldpaaGreatDoor
