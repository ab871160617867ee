/-
  No cell of these rows narrows 'for every input' (looked for: loops, veiled, ifaces, maps, wideKeys, modest, calm, conditions, laid).
  DERIVED. THE GIVEN ROWS OF THIS SEAT. 4 by the template 'for every input the law returns true; each argument reads behind the call as it read before'; 0 by the template 'total and deterministic' (their statements: YtlcnnkedgdclpaaTotals.lean).
  GIVEN WITH THE SEED: the statements are not yours to turn. If you find one false, say at which input.
  Laid BY PROGRAM, IN A SANDBOX (cutbox-rows.mjs): the forced cells as the released guide's own fill.sh prints them over the translation 15daa05ea8aa3473… (all of the seat's roots in one cut). By AI agents, Wed Nov 11 2026. No macro, syntax, notation, axiom, sorry.
-/
import Derived.Test.YtlcnnkedgdclpaaChecked
import GoSem.Claim
import GoSem.ClaimJoined
import GoSem.ClaimMapViews
import Derived.JoinedTies
import Derived.KernelRfl
namespace Go.Proofs.Ytlcnnkedgdclpaa
/- THE CELL 'sum', in the pinned program and in every row, IS THE sha256 OF THE DUMP (.gsa) THAT YtlcnnkedgdclpaaProg.lean LOADS. Nothing in Lean hashes anything: it is a label: what it is worth is what the hold of that sum in a sandbox is worth. -/
noncomputable def Try.pinned : Pinned := { name := "ytlcnnkedgdclpaa", sum := "15daa05ea8aa34733ed03f556254218e4aab68d3f10ba4cf183c8fde23806dce", checked := Try.checked }
namespace Rows
def none {H : Type} : Left H := { results := [], args := [] }

/-- 'bosunlaw02.SumsHeld': WHATEVER THE INPUT: true; the input reads as it did. -/
def sumsHeldSpec : ChangeSpec := { name := "sumsHeld", fn := fun _ => fun
  | [d1, d2] => { results := [.lit (.bool true)], args := [d1, d2] }
  | _ => none }
def sumsHeldRow : OpenClaim := { program := "ytlcnnkedgdclpaa", sum := "15daa05ea8aa34733ed03f556254218e4aab68d3f10ba4cf183c8fde23806dce", func := "bosun/bosunlaw02.SumsHeld", spec := "sumsHeld", inPlace := ["math/bits.Add64"], apart := false }
def SumsHeldSaid : Prop := sumsHeldRow.holds Try.pinned (OpenSpec.ofChange sumsHeldSpec)

/-- ITS FALSE NEIGHBOUR: 'it returns false'. Refute it at one input. -/
def sumsHeldWrong : ChangeSpec := { name := "sumsHeld", fn := fun _ => fun
  | [d1, d2] => { results := [.lit (.bool false)], args := [d1, d2] }
  | _ => none }
def SumsHeldWrongFalsely : Prop := sumsHeldRow.holds Try.pinned (OpenSpec.ofChange sumsHeldWrong)

/-- 'bosunlaw02.SumsAll': WHATEVER THE INPUT: true; the input reads as it did. -/
def sumsAllSpec : ChangeSpec := { name := "sumsAll", fn := fun _ => fun
  | [d1, d2] => { results := [.lit (.bool true)], args := [d1, d2] }
  | _ => none }
def sumsAllRow : OpenClaim := { program := "ytlcnnkedgdclpaa", sum := "15daa05ea8aa34733ed03f556254218e4aab68d3f10ba4cf183c8fde23806dce", func := "bosun/bosunlaw02.SumsAll", spec := "sumsAll", inPlace := ["math/bits.Add64"], apart := false }
def SumsAllSaid : Prop := sumsAllRow.holds Try.pinned (OpenSpec.ofChange sumsAllSpec)

/-- ITS FALSE NEIGHBOUR: 'it returns false'. Refute it at one input. -/
def sumsAllWrong : ChangeSpec := { name := "sumsAll", fn := fun _ => fun
  | [d1, d2] => { results := [.lit (.bool false)], args := [d1, d2] }
  | _ => none }
def SumsAllWrongFalsely : Prop := sumsAllRow.holds Try.pinned (OpenSpec.ofChange sumsAllWrong)

/-- 'bosunlaw02.SumsExact': WHATEVER THE INPUT: true; the input reads as it did. -/
def sumsExactSpec : ChangeSpec := { name := "sumsExact", fn := fun _ => fun
  | [d1, d2, d3] => { results := [.lit (.bool true)], args := [d1, d2, d3] }
  | _ => none }
def sumsExactRow : OpenClaim := { program := "ytlcnnkedgdclpaa", sum := "15daa05ea8aa34733ed03f556254218e4aab68d3f10ba4cf183c8fde23806dce", func := "bosun/bosunlaw02.SumsExact", spec := "sumsExact", inPlace := ["math/bits.Add64"], apart := false }
def SumsExactSaid : Prop := sumsExactRow.holds Try.pinned (OpenSpec.ofChange sumsExactSpec)

/-- ITS FALSE NEIGHBOUR: 'it returns false'. Refute it at one input. -/
def sumsExactWrong : ChangeSpec := { name := "sumsExact", fn := fun _ => fun
  | [d1, d2, d3] => { results := [.lit (.bool false)], args := [d1, d2, d3] }
  | _ => none }
def SumsExactWrongFalsely : Prop := sumsExactRow.holds Try.pinned (OpenSpec.ofChange sumsExactWrong)

/-- 'bosunlaw02.SumsClamp': WHATEVER THE INPUT: true; the input reads as it did. -/
def sumsClampSpec : ChangeSpec := { name := "sumsClamp", fn := fun _ => fun
  | [d1, d2, d3, d4, d5, d6] => { results := [.lit (.bool true)], args := [d1, d2, d3, d4, d5, d6] }
  | _ => none }
def sumsClampRow : OpenClaim := { program := "ytlcnnkedgdclpaa", sum := "15daa05ea8aa34733ed03f556254218e4aab68d3f10ba4cf183c8fde23806dce", func := "bosun/bosunlaw02.SumsClamp", spec := "sumsClamp", inPlace := ["math/bits.Add64"], apart := false }
def SumsClampSaid : Prop := sumsClampRow.holds Try.pinned (OpenSpec.ofChange sumsClampSpec)

/-- ITS FALSE NEIGHBOUR: 'it returns false'. Refute it at one input. -/
def sumsClampWrong : ChangeSpec := { name := "sumsClamp", fn := fun _ => fun
  | [d1, d2, d3, d4, d5, d6] => { results := [.lit (.bool false)], args := [d1, d2, d3, d4, d5, d6] }
  | _ => none }
def SumsClampWrongFalsely : Prop := sumsClampRow.holds Try.pinned (OpenSpec.ofChange sumsClampWrong)

/- THE SECOND FORM. 'bulk': how many values and letters a reading holds, each counted each time it is reached (what is shared counts as often as it is met; a slice's spare places count too). A statement '..UptoSaid' is the law's where the arguments, and the package variables that the reading takes, are together of bulk at most 1048576: NARROWER than '..Said'. Prove '..Said' where nothing that the law and all that it calls make is longer than what came in: it says more and counts as full. Else prove '..UptoSaid'. A law counts once. -/
mutual
def uptoBulk {H : Type} : DataW H → Nat
  | .lit (.string bytes) => bytes.length + 1
  | .lit _ => 1
  | .nil => 1
  | .ptr d => uptoBulk d + 1
  | .slice elems spare => uptoBulkAll elems + uptoBulkAll spare + 1
  | .agg parts => uptoBulkAll parts + 1
  | .iface _ d => uptoBulk d + 1
  | .map entries => uptoBulkEntries entries + 1
  | .held _ => 1
def uptoBulkAll {H : Type} : List (DataW H) → Nat
  | [] => 0
  | d :: r => uptoBulk d + uptoBulkAll r
def uptoBulkEntries {H : Type} : List (Lit × DataW H) → Nat
  | [] => 0
  | x :: r => uptoBulkEntry x + uptoBulkEntries r
def uptoBulkEntry {H : Type} : Lit × DataW H → Nat
  | (.string bytes, d) => bytes.length + uptoBulk d + 1
  | (_, d) => uptoBulk d + 1
 end
def uptoSmall : (H : Type) → List (DataW H) → Bool := fun _ ds => decide (uptoBulkAll ds ≤ 1048576)
def OpenSpec.upto (s : _root_.Go.ChangeSpec) : _root_.Go.OpenSpec := { _root_.Go.OpenSpec.ofChange s with cond := some uptoSmall }

/-- 'bosunlaw02.SumsHeld', WHERE WHAT IT READS IS OF BULK AT MOST 1048576: true; the input reads as it did. -/
def sumsHeldUptoRow : OpenClaim := { program := "ytlcnnkedgdclpaa", sum := "15daa05ea8aa34733ed03f556254218e4aab68d3f10ba4cf183c8fde23806dce", func := "bosun/bosunlaw02.SumsHeld", spec := "sumsHeld", inPlace := ["math/bits.Add64"], apart := false, narrowed := true }
def SumsHeldUptoSaid : Prop := sumsHeldUptoRow.holds Try.pinned (OpenSpec.upto sumsHeldSpec)

/-- 'bosunlaw02.SumsAll', WHERE WHAT IT READS IS OF BULK AT MOST 1048576: true; the input reads as it did. -/
def sumsAllUptoRow : OpenClaim := { program := "ytlcnnkedgdclpaa", sum := "15daa05ea8aa34733ed03f556254218e4aab68d3f10ba4cf183c8fde23806dce", func := "bosun/bosunlaw02.SumsAll", spec := "sumsAll", inPlace := ["math/bits.Add64"], apart := false, narrowed := true }
def SumsAllUptoSaid : Prop := sumsAllUptoRow.holds Try.pinned (OpenSpec.upto sumsAllSpec)

/-- 'bosunlaw02.SumsExact', WHERE WHAT IT READS IS OF BULK AT MOST 1048576: true; the input reads as it did. -/
def sumsExactUptoRow : OpenClaim := { program := "ytlcnnkedgdclpaa", sum := "15daa05ea8aa34733ed03f556254218e4aab68d3f10ba4cf183c8fde23806dce", func := "bosun/bosunlaw02.SumsExact", spec := "sumsExact", inPlace := ["math/bits.Add64"], apart := false, narrowed := true }
def SumsExactUptoSaid : Prop := sumsExactUptoRow.holds Try.pinned (OpenSpec.upto sumsExactSpec)

/-- 'bosunlaw02.SumsClamp', WHERE WHAT IT READS IS OF BULK AT MOST 1048576: true; the input reads as it did. -/
def sumsClampUptoRow : OpenClaim := { program := "ytlcnnkedgdclpaa", sum := "15daa05ea8aa34733ed03f556254218e4aab68d3f10ba4cf183c8fde23806dce", func := "bosun/bosunlaw02.SumsClamp", spec := "sumsClamp", inPlace := ["math/bits.Add64"], apart := false, narrowed := true }
def SumsClampUptoSaid : Prop := sumsClampUptoRow.holds Try.pinned (OpenSpec.upto sumsClampSpec)

end Rows
end Go.Proofs.Ytlcnnkedgdclpaa
