/-
  No cell of these rows narrows 'for every input' (looked for: loops, veiled, ifaces, maps, wideKeys, modest, calm, conditions, laid).
  DERIVED. THE GIVEN ROWS OF THIS SEAT. 4 by the template 'for every input the law returns true; each argument reads behind the call as it read before'; 0 by the template 'total and deterministic' (their statements: YtpkgbhoifmaagaaTotals.lean).
  GIVEN WITH THE SEED: the statements are not yours to turn. If you find one false, say at which input.
  Laid BY PROGRAM, IN A SANDBOX (cutbox-rows.mjs): the forced cells as the released guide's own fill.sh prints them over the translation 396963f9ea8b01e4… (all of the seat's roots in one cut). By AI agents, Wed Nov 11 2026. No macro, syntax, notation, axiom, sorry.
-/
import Derived.Test.YtpkgbhoifmaagaaChecked
import GoSem.Claim
import GoSem.ClaimJoined
import GoSem.ClaimMapViews
import Derived.JoinedTies
import Derived.KernelRfl
namespace Go.Proofs.Ytpkgbhoifmaagaa
/- THE CELL 'sum', in the pinned program and in every row, IS THE sha256 OF THE DUMP (.gsa) THAT YtpkgbhoifmaagaaProg.lean LOADS. Nothing in Lean hashes anything: it is a label: what it is worth is what the hold of that sum in a sandbox is worth. -/
noncomputable def Try.pinned : Pinned := { name := "ytpkgbhoifmaagaa", sum := "396963f9ea8b01e4c0b30916b04e8e819f0c68e0bc5cae4434b246c4d368a1d9", checked := Try.checked }
namespace Rows
def none {H : Type} : Left H := { results := [], args := [] }

/-- 'bosunlaw06.TagWords': WHATEVER THE INPUT: true; the input reads as it did. -/
def tagWordsSpec : ChangeSpec := { name := "tagWords", fn := fun _ => fun
  | [d1, d2, d3] => { results := [.lit (.bool true)], args := [d1, d2, d3] }
  | _ => none }
def tagWordsRow : OpenClaim := { program := "ytpkgbhoifmaagaa", sum := "396963f9ea8b01e4c0b30916b04e8e819f0c68e0bc5cae4434b246c4d368a1d9", func := "bosun/bosunlaw06.TagWords", spec := "tagWords", apart := false }
def TagWordsSaid : Prop := tagWordsRow.holds Try.pinned (OpenSpec.ofChange tagWordsSpec)

/-- ITS FALSE NEIGHBOUR: 'it returns false'. Refute it at one input. -/
def tagWordsWrong : ChangeSpec := { name := "tagWords", fn := fun _ => fun
  | [d1, d2, d3] => { results := [.lit (.bool false)], args := [d1, d2, d3] }
  | _ => none }
def TagWordsWrongFalsely : Prop := tagWordsRow.holds Try.pinned (OpenSpec.ofChange tagWordsWrong)

/-- 'bosunlaw06.TagPlays': WHATEVER THE INPUT: true; the input reads as it did. -/
def tagPlaysSpec : ChangeSpec := { name := "tagPlays", fn := fun _ => fun
  | [d1, d2] => { results := [.lit (.bool true)], args := [d1, d2] }
  | _ => none }
def tagPlaysRow : OpenClaim := { program := "ytpkgbhoifmaagaa", sum := "396963f9ea8b01e4c0b30916b04e8e819f0c68e0bc5cae4434b246c4d368a1d9", func := "bosun/bosunlaw06.TagPlays", spec := "tagPlays", apart := false }
def TagPlaysSaid : Prop := tagPlaysRow.holds Try.pinned (OpenSpec.ofChange tagPlaysSpec)

/-- ITS FALSE NEIGHBOUR: 'it returns false'. Refute it at one input. -/
def tagPlaysWrong : ChangeSpec := { name := "tagPlays", fn := fun _ => fun
  | [d1, d2] => { results := [.lit (.bool false)], args := [d1, d2] }
  | _ => none }
def TagPlaysWrongFalsely : Prop := tagPlaysRow.holds Try.pinned (OpenSpec.ofChange tagPlaysWrong)

/-- 'bosunlaw06.TagOnce': WHATEVER THE INPUT: true; the input reads as it did. -/
def tagOnceSpec : ChangeSpec := { name := "tagOnce", fn := fun _ => fun
  | [d1, d2] => { results := [.lit (.bool true)], args := [d1, d2] }
  | _ => none }
def tagOnceRow : OpenClaim := { program := "ytpkgbhoifmaagaa", sum := "396963f9ea8b01e4c0b30916b04e8e819f0c68e0bc5cae4434b246c4d368a1d9", func := "bosun/bosunlaw06.TagOnce", spec := "tagOnce", apart := false }
def TagOnceSaid : Prop := tagOnceRow.holds Try.pinned (OpenSpec.ofChange tagOnceSpec)

/-- ITS FALSE NEIGHBOUR: 'it returns false'. Refute it at one input. -/
def tagOnceWrong : ChangeSpec := { name := "tagOnce", fn := fun _ => fun
  | [d1, d2] => { results := [.lit (.bool false)], args := [d1, d2] }
  | _ => none }
def TagOnceWrongFalsely : Prop := tagOnceRow.holds Try.pinned (OpenSpec.ofChange tagOnceWrong)

/-- 'bosunlaw06.TagNil': WHATEVER THE INPUT: true; the input reads as it did. -/
def tagNilSpec : ChangeSpec := { name := "tagNil", fn := fun _ => fun
  | [d1, d2] => { results := [.lit (.bool true)], args := [d1, d2] }
  | _ => none }
def tagNilRow : OpenClaim := { program := "ytpkgbhoifmaagaa", sum := "396963f9ea8b01e4c0b30916b04e8e819f0c68e0bc5cae4434b246c4d368a1d9", func := "bosun/bosunlaw06.TagNil", spec := "tagNil", apart := false }
def TagNilSaid : Prop := tagNilRow.holds Try.pinned (OpenSpec.ofChange tagNilSpec)

/-- ITS FALSE NEIGHBOUR: 'it returns false'. Refute it at one input. -/
def tagNilWrong : ChangeSpec := { name := "tagNil", fn := fun _ => fun
  | [d1, d2] => { results := [.lit (.bool false)], args := [d1, d2] }
  | _ => none }
def TagNilWrongFalsely : Prop := tagNilRow.holds Try.pinned (OpenSpec.ofChange tagNilWrong)

/- THE SECOND FORM. 'bulk': how many values and letters a reading holds, each counted each time it is reached (what is shared counts as often as it is met; a slice's spare places count too). A statement '..UptoSaid' is the law's where the arguments, and the package variables that the reading takes, are together of bulk at most 1048576: NARROWER than '..Said'. Prove '..Said' where nothing that the law and all that it calls make is longer than what came in: it says more and counts as full. Else prove '..UptoSaid'. A law counts once. -/
mutual
def uptoBulk {H : Type} : DataW H → Nat
  | .lit (.string bytes) => bytes.length + 1
  | .lit _ => 1
  | .nil => 1
  | .ptr d => uptoBulk d + 1
  | .slice elems spare => uptoBulkAll elems + uptoBulkAll spare + 1
  | .agg parts => uptoBulkAll parts + 1
  | .iface _ d => uptoBulk d + 1
  | .map entries => uptoBulkEntries entries + 1
  | .held _ => 1
def uptoBulkAll {H : Type} : List (DataW H) → Nat
  | [] => 0
  | d :: r => uptoBulk d + uptoBulkAll r
def uptoBulkEntries {H : Type} : List (Lit × DataW H) → Nat
  | [] => 0
  | x :: r => uptoBulkEntry x + uptoBulkEntries r
def uptoBulkEntry {H : Type} : Lit × DataW H → Nat
  | (.string bytes, d) => bytes.length + uptoBulk d + 1
  | (_, d) => uptoBulk d + 1
 end
def uptoSmall : (H : Type) → List (DataW H) → Bool := fun _ ds => decide (uptoBulkAll ds ≤ 1048576)
def OpenSpec.upto (s : _root_.Go.ChangeSpec) : _root_.Go.OpenSpec := { _root_.Go.OpenSpec.ofChange s with cond := some uptoSmall }

/-- 'bosunlaw06.TagWords', WHERE WHAT IT READS IS OF BULK AT MOST 1048576: true; the input reads as it did. -/
def tagWordsUptoRow : OpenClaim := { program := "ytpkgbhoifmaagaa", sum := "396963f9ea8b01e4c0b30916b04e8e819f0c68e0bc5cae4434b246c4d368a1d9", func := "bosun/bosunlaw06.TagWords", spec := "tagWords", apart := false, narrowed := true }
def TagWordsUptoSaid : Prop := tagWordsUptoRow.holds Try.pinned (OpenSpec.upto tagWordsSpec)

/-- 'bosunlaw06.TagPlays', WHERE WHAT IT READS IS OF BULK AT MOST 1048576: true; the input reads as it did. -/
def tagPlaysUptoRow : OpenClaim := { program := "ytpkgbhoifmaagaa", sum := "396963f9ea8b01e4c0b30916b04e8e819f0c68e0bc5cae4434b246c4d368a1d9", func := "bosun/bosunlaw06.TagPlays", spec := "tagPlays", apart := false, narrowed := true }
def TagPlaysUptoSaid : Prop := tagPlaysUptoRow.holds Try.pinned (OpenSpec.upto tagPlaysSpec)

/-- 'bosunlaw06.TagOnce', WHERE WHAT IT READS IS OF BULK AT MOST 1048576: true; the input reads as it did. -/
def tagOnceUptoRow : OpenClaim := { program := "ytpkgbhoifmaagaa", sum := "396963f9ea8b01e4c0b30916b04e8e819f0c68e0bc5cae4434b246c4d368a1d9", func := "bosun/bosunlaw06.TagOnce", spec := "tagOnce", apart := false, narrowed := true }
def TagOnceUptoSaid : Prop := tagOnceUptoRow.holds Try.pinned (OpenSpec.upto tagOnceSpec)

/-- 'bosunlaw06.TagNil', WHERE WHAT IT READS IS OF BULK AT MOST 1048576: true; the input reads as it did. -/
def tagNilUptoRow : OpenClaim := { program := "ytpkgbhoifmaagaa", sum := "396963f9ea8b01e4c0b30916b04e8e819f0c68e0bc5cae4434b246c4d368a1d9", func := "bosun/bosunlaw06.TagNil", spec := "tagNil", apart := false, narrowed := true }
def TagNilUptoSaid : Prop := tagNilUptoRow.holds Try.pinned (OpenSpec.upto tagNilSpec)

end Rows
end Go.Proofs.Ytpkgbhoifmaagaa
