/- What came in, opened: calls, and bytes. -/
import Derived.Test.YtpkgbhoifmaagaaT11
import Derived.Test.YtpkgbhoifmaagaaT13
namespace Go.Proofs.Ytpkgbhoifmaagaa
open Go.ChangeShapes Go.WideShapes Go.RowKit Go.Deep

section
variable {H : Type} {enc : TypeId × Value → H} {w : World} {base : Nat} {spare : Nat → Bool} {held : Bool}
theorem open_bytes {v : Value} {fuel : Nat} {x : DataW H × List MemPlace} (h : DataW.trod enc Try.prog w base spare held fuel 50 [v] = some x) :
    ∃ l : List UInt8, RV w (fun k => k < w.heap.size) v l.length 1 (l.map fun c => Value.int .u8 (c.toNat : Int)) := by
  obtain ⟨l, _, hr⟩ := open_list (f := fun c : UInt8 => [Value.int .u8 (c.toNat : Int)]) (good := fun _ => True) 1 Try.underlying50 (by kernel_rfl) (by decide) (fun n cs y hy => open_u8 Try.underlying5 hy) (fun _ => rfl) h
  exact ⟨l, by rw [← flat_one]; exact hr⟩
theorem open_act {n : Nat} {cs : List Value} {y : DataW H × List MemPlace} (h : DataW.trod enc Try.prog w base spare held n 42 cs = some y) : ∃ t : ActT, cs = t.cells ∧ t.good := by
  obtain ⟨hl, hf⟩ := open_fields Try.underlying42 (by kernel_rfl) (by kernel_rfl) h
  match cs, hl with
  | [c0, c1, c2, c3], _ =>
    obtain ⟨_, _, h0⟩ := hf 0 _ rfl
    obtain ⟨_, _, h1⟩ := hf 1 _ rfl
    obtain ⟨_, _, h2⟩ := hf 2 _ rfl
    obtain ⟨_, _, h3⟩ := hf 3 _ rfl
    obtain ⟨k, hk, _⟩ := open_u8 Try.underlying5 h0
    obtain ⟨z, hz, _⟩ := open_i64 Try.underlying3 h1
    obtain ⟨x, hx, hx2⟩ := open_u64 Try.underlying22 h2
    obtain ⟨b, hb, _⟩ := DataW.trod_bool Try.underlying4 h3
    simp at hk hx hz hb
    subst hk hx hz hb
    exact ⟨⟨k.toNat, z, x, b⟩, rfl, k.toNat_lt, hx2⟩
theorem open_acts {v : Value} {fuel : Nat} {x : DataW H × List MemPlace} (h : DataW.trod enc Try.prog w base spare held fuel 33 [v] = some x) :
    ∃ ts : List ActT, (∀ t ∈ ts, t.good) ∧ RV w (fun k => k < w.heap.size) v ts.length 4 (ts.flatMap ActT.cells) :=
  open_list (f := ActT.cells) 4 Try.underlying33 (by kernel_rfl) (by decide) (fun n cs y hy => open_act hy) (fun _ => rfl) h
end
theorem plays_any (n0 : Nat) (v : Value) (ts : List ActT) (w : World) (h : (∀ t ∈ ts, t.good) ∧ RV w (fun k => k < w.heap.size) v ts.length 4 (ts.flatMap ActT.cells)) :
    Calls Try.prog 4 #[.int .u64 (n0 : Int), v] w fun e w' => e = .returned (.bool true) ∧ Below w.heap.size w w' := by
  obtain ⟨p, c, rfl, _⟩ := id h.2
  exact plays_walk n0 ts p _ c rfl h.1 w h.2
theorem once_any (n0 : Nat) (hn0 : n0 < 18446744073709551616) (v : Value) (l : List UInt8) (w : World) (h : RV w (fun k => k < w.heap.size) v l.length 1 (l.map fun c => Value.int .u8 (c.toNat : Int))) :
    Calls Try.prog 5 #[.int .u64 (n0 : Int), v] w fun e w' => e = .returned (.bool true) ∧ Below w.heap.size w w' := by
  obtain ⟨p, c, rfl, _⟩ := id h
  exact once_walk n0 hn0 l p _ c rfl w h
end Go.Proofs.Ytpkgbhoifmaagaa
