/-
  No cell of these rows narrows 'for every input' (looked for: loops, veiled, ifaces, maps, wideKeys, modest, calm, conditions, laid).
  DERIVED. THE GIVEN ROWS OF THIS SEAT. 4 by the template 'for every input the law returns true; each argument reads behind the call as it read before'; 0 by the template 'total and deterministic' (their statements: YtjfgjblpaojjkaaTotals.lean).
  GIVEN WITH THE SEED: the statements are not yours to turn. If you find one false, say at which input.
  Laid BY PROGRAM, IN A SANDBOX (cutbox-rows.mjs): the forced cells as the released guide's own fill.sh prints them over the translation 150c31c9c4bc2c22… (all of the seat's roots in one cut). By AI agents, Wed Nov 11 2026. No macro, syntax, notation, axiom, sorry.
-/
import Derived.Test.YtjfgjblpaojjkaaChecked
import GoSem.Claim
import GoSem.ClaimJoined
import GoSem.ClaimMapViews
import Derived.JoinedTies
import Derived.KernelRfl
namespace Go.Proofs.Ytjfgjblpaojjkaa
/- THE CELL 'sum', in the pinned program and in every row, IS THE sha256 OF THE DUMP (.gsa) THAT YtjfgjblpaojjkaaProg.lean LOADS. Nothing in Lean hashes anything: it is a label: what it is worth is what the hold of that sum in a sandbox is worth. -/
noncomputable def Try.pinned : Pinned := { name := "ytjfgjblpaojjkaa", sum := "150c31c9c4bc2c2220a337b8375980e802ed2cb8e134b0739495c3a37fb39d32", checked := Try.checked }
namespace Rows
def none {H : Type} : Left H := { results := [], args := [] }

/-- 'bosunlaw05.GradeLevels': WHATEVER THE INPUT: true; the input reads as it did. -/
def gradeLevelsSpec : ChangeSpec := { name := "gradeLevels", fn := fun _ => fun
  | [d1, d2] => { results := [.lit (.bool true)], args := [d1, d2] }
  | _ => none }
def gradeLevelsRow : OpenClaim := { program := "ytjfgjblpaojjkaa", sum := "150c31c9c4bc2c2220a337b8375980e802ed2cb8e134b0739495c3a37fb39d32", func := "bosun/bosunlaw05.GradeLevels", spec := "gradeLevels", apart := false }
def GradeLevelsSaid : Prop := gradeLevelsRow.holds Try.pinned (OpenSpec.ofChange gradeLevelsSpec)

/-- ITS FALSE NEIGHBOUR: 'it returns false'. Refute it at one input. -/
def gradeLevelsWrong : ChangeSpec := { name := "gradeLevels", fn := fun _ => fun
  | [d1, d2] => { results := [.lit (.bool false)], args := [d1, d2] }
  | _ => none }
def GradeLevelsWrongFalsely : Prop := gradeLevelsRow.holds Try.pinned (OpenSpec.ofChange gradeLevelsWrong)

/-- 'bosunlaw05.GradeBest': WHATEVER THE INPUT: true; the input reads as it did. -/
def gradeBestSpec : ChangeSpec := { name := "gradeBest", fn := fun _ => fun
  | [d] => { results := [.lit (.bool true)], args := [d] }
  | _ => none }
def gradeBestRow : OpenClaim := { program := "ytjfgjblpaojjkaa", sum := "150c31c9c4bc2c2220a337b8375980e802ed2cb8e134b0739495c3a37fb39d32", func := "bosun/bosunlaw05.GradeBest", spec := "gradeBest", apart := false }
def GradeBestSaid : Prop := gradeBestRow.holds Try.pinned (OpenSpec.ofChange gradeBestSpec)

/-- ITS FALSE NEIGHBOUR: 'it returns false'. Refute it at one input. -/
def gradeBestWrong : ChangeSpec := { name := "gradeBest", fn := fun _ => fun
  | [d] => { results := [.lit (.bool false)], args := [d] }
  | _ => none }
def GradeBestWrongFalsely : Prop := gradeBestRow.holds Try.pinned (OpenSpec.ofChange gradeBestWrong)

/-- 'bosunlaw05.GradeRuns': WHATEVER THE INPUT: true; the input reads as it did. -/
def gradeRunsSpec : ChangeSpec := { name := "gradeRuns", fn := fun _ => fun
  | [d1, d2] => { results := [.lit (.bool true)], args := [d1, d2] }
  | _ => none }
def gradeRunsRow : OpenClaim := { program := "ytjfgjblpaojjkaa", sum := "150c31c9c4bc2c2220a337b8375980e802ed2cb8e134b0739495c3a37fb39d32", func := "bosun/bosunlaw05.GradeRuns", spec := "gradeRuns", apart := false }
def GradeRunsSaid : Prop := gradeRunsRow.holds Try.pinned (OpenSpec.ofChange gradeRunsSpec)

/-- ITS FALSE NEIGHBOUR: 'it returns false'. Refute it at one input. -/
def gradeRunsWrong : ChangeSpec := { name := "gradeRuns", fn := fun _ => fun
  | [d1, d2] => { results := [.lit (.bool false)], args := [d1, d2] }
  | _ => none }
def GradeRunsWrongFalsely : Prop := gradeRunsRow.holds Try.pinned (OpenSpec.ofChange gradeRunsWrong)

/-- 'bosunlaw05.GradeFalls': WHATEVER THE INPUT: true; the input reads as it did. -/
def gradeFallsSpec : ChangeSpec := { name := "gradeFalls", fn := fun _ => fun
  | [d1, d2, d3] => { results := [.lit (.bool true)], args := [d1, d2, d3] }
  | _ => none }
def gradeFallsRow : OpenClaim := { program := "ytjfgjblpaojjkaa", sum := "150c31c9c4bc2c2220a337b8375980e802ed2cb8e134b0739495c3a37fb39d32", func := "bosun/bosunlaw05.GradeFalls", spec := "gradeFalls", apart := false }
def GradeFallsSaid : Prop := gradeFallsRow.holds Try.pinned (OpenSpec.ofChange gradeFallsSpec)

/-- ITS FALSE NEIGHBOUR: 'it returns false'. Refute it at one input. -/
def gradeFallsWrong : ChangeSpec := { name := "gradeFalls", fn := fun _ => fun
  | [d1, d2, d3] => { results := [.lit (.bool false)], args := [d1, d2, d3] }
  | _ => none }
def GradeFallsWrongFalsely : Prop := gradeFallsRow.holds Try.pinned (OpenSpec.ofChange gradeFallsWrong)

/- THE SECOND FORM. 'bulk': how many values and letters a reading holds, each counted each time it is reached (what is shared counts as often as it is met; a slice's spare places count too). A statement '..UptoSaid' is the law's where the arguments, and the package variables that the reading takes, are together of bulk at most 1048576: NARROWER than '..Said'. Prove '..Said' where nothing that the law and all that it calls make is longer than what came in: it says more and counts as full. Else prove '..UptoSaid'. A law counts once. -/
mutual
def uptoBulk {H : Type} : DataW H → Nat
  | .lit (.string bytes) => bytes.length + 1
  | .lit _ => 1
  | .nil => 1
  | .ptr d => uptoBulk d + 1
  | .slice elems spare => uptoBulkAll elems + uptoBulkAll spare + 1
  | .agg parts => uptoBulkAll parts + 1
  | .iface _ d => uptoBulk d + 1
  | .map entries => uptoBulkEntries entries + 1
  | .held _ => 1
def uptoBulkAll {H : Type} : List (DataW H) → Nat
  | [] => 0
  | d :: r => uptoBulk d + uptoBulkAll r
def uptoBulkEntries {H : Type} : List (Lit × DataW H) → Nat
  | [] => 0
  | x :: r => uptoBulkEntry x + uptoBulkEntries r
def uptoBulkEntry {H : Type} : Lit × DataW H → Nat
  | (.string bytes, d) => bytes.length + uptoBulk d + 1
  | (_, d) => uptoBulk d + 1
 end
def uptoSmall : (H : Type) → List (DataW H) → Bool := fun _ ds => decide (uptoBulkAll ds ≤ 1048576)
def OpenSpec.upto (s : _root_.Go.ChangeSpec) : _root_.Go.OpenSpec := { _root_.Go.OpenSpec.ofChange s with cond := some uptoSmall }

/-- 'bosunlaw05.GradeLevels', WHERE WHAT IT READS IS OF BULK AT MOST 1048576: true; the input reads as it did. -/
def gradeLevelsUptoRow : OpenClaim := { program := "ytjfgjblpaojjkaa", sum := "150c31c9c4bc2c2220a337b8375980e802ed2cb8e134b0739495c3a37fb39d32", func := "bosun/bosunlaw05.GradeLevels", spec := "gradeLevels", apart := false, narrowed := true }
def GradeLevelsUptoSaid : Prop := gradeLevelsUptoRow.holds Try.pinned (OpenSpec.upto gradeLevelsSpec)

/-- 'bosunlaw05.GradeBest', WHERE WHAT IT READS IS OF BULK AT MOST 1048576: true; the input reads as it did. -/
def gradeBestUptoRow : OpenClaim := { program := "ytjfgjblpaojjkaa", sum := "150c31c9c4bc2c2220a337b8375980e802ed2cb8e134b0739495c3a37fb39d32", func := "bosun/bosunlaw05.GradeBest", spec := "gradeBest", apart := false, narrowed := true }
def GradeBestUptoSaid : Prop := gradeBestUptoRow.holds Try.pinned (OpenSpec.upto gradeBestSpec)

/-- 'bosunlaw05.GradeRuns', WHERE WHAT IT READS IS OF BULK AT MOST 1048576: true; the input reads as it did. -/
def gradeRunsUptoRow : OpenClaim := { program := "ytjfgjblpaojjkaa", sum := "150c31c9c4bc2c2220a337b8375980e802ed2cb8e134b0739495c3a37fb39d32", func := "bosun/bosunlaw05.GradeRuns", spec := "gradeRuns", apart := false, narrowed := true }
def GradeRunsUptoSaid : Prop := gradeRunsUptoRow.holds Try.pinned (OpenSpec.upto gradeRunsSpec)

/-- 'bosunlaw05.GradeFalls', WHERE WHAT IT READS IS OF BULK AT MOST 1048576: true; the input reads as it did. -/
def gradeFallsUptoRow : OpenClaim := { program := "ytjfgjblpaojjkaa", sum := "150c31c9c4bc2c2220a337b8375980e802ed2cb8e134b0739495c3a37fb39d32", func := "bosun/bosunlaw05.GradeFalls", spec := "gradeFalls", apart := false, narrowed := true }
def GradeFallsUptoSaid : Prop := gradeFallsUptoRow.holds Try.pinned (OpenSpec.upto gradeFallsSpec)

end Rows
end Go.Proofs.Ytjfgjblpaojjkaa
