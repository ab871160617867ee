/- A slice of integers that came in, opened to a list. -/
import Derived.Test.YtjfgjblpaojjkaaE7
namespace Go.Proofs.Ytjfgjblpaojjkaa
open Go.ChangeShapes Go.WideShapes Go.RowKit Go.Deep

theorem open_intl {H : Type} {enc : TypeId × Value → H} {w : World} {base : Nat} {spare : Nat → Bool} {held : Bool} {fuel : Nat} {v : Value} {x : DataW H × List MemPlace}
    (h : DataW.trod enc Try.prog w base spare held fuel 28 [v] = some x) : ∃ ts : List Int, ts.length ≤ maxLen ∧ ReadsI w v ts := by
  obtain ⟨ts, _, hr⟩ := open_list (α := Int) (f := fun z => [.int .i64 z]) (good := fun _ => True) 1 Try.underlying28 (by kernel_rfl) (by decide)
    (fun n cs y hy => by obtain ⟨z, rfl, _⟩ := open_i64 Try.underlying3 hy; exact ⟨z, rfl, trivial⟩) (fun _ => rfl) h
  rw [flat_one (Value.int .i64)] at hr
  exact ⟨ts, hr.len, ReadsI.of_rv hr⟩
end Go.Proofs.Ytjfgjblpaojjkaa
