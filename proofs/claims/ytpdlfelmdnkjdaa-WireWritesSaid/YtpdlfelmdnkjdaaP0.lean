/- What came in, opened: bytes, and slices of things. -/
import Derived.Test.YtpdlfelmdnkjdaaB2
import Derived.Test.YtpdlfelmdnkjdaaL1
namespace Go.Proofs.Ytpdlfelmdnkjdaa
open Go.ChangeShapes Go.WideShapes Go.RowKit Go.Deep

section
variable {H : Type} {enc : TypeId × Value → H} {w : World} {base : Nat} {spare : Nat → Bool} {held : Bool}
/-- A struct of one-cell fields, field by field. -/
theorem open_fields {P : Program} {e : TypeId} {fs : Array Field} {n : Nat} {cs : List Value} {y : DataW H × List MemPlace} (he : P.underlying e = some (.struct fs)) (hone : oneCellFields P fs = true) (hC : P.cellsOf e = fs.size)
    (h : DataW.trod enc P w base spare held n e cs = some y) : cs.length = fs.size ∧ ∀ (j : Nat) (f : Field), fs[j]? = some f → ∃ m y', DataW.trod enc P w base spare held m f.type [cs.getD j undef] = some y' := by
  obtain ⟨xs, m, _, _, hl, hxl, hf⟩ := DataW.trod_struct he h
  refine ⟨hl.trans hC, fun j f hj => ?_⟩
  have hjl : j < fs.size := (Array.getElem?_eq_some_iff.1 hj).1
  obtain ⟨ho, hk⟩ := hone_of hone j f hj
  have h1 := hf j f hj
  rw [ho, hk, take1_drop cs j undef (by rw [hl, hC]; exact hjl), List.getElem?_eq_getElem (by omega)] at h1
  exact ⟨m, _, h1⟩

theorem open_bytes {v : Value} {fuel : Nat} {x : DataW H × List MemPlace} (h : DataW.trod enc Try.prog w base spare held fuel 25 [v] = some x) :
    ∃ l : List UInt8, RV w (fun k => k < w.heap.size) v l.length 1 (l.map bV) := by
  obtain ⟨l, _, hr⟩ := open_list (f := fun c => [bV c]) (good := fun _ => True) 1 Try.underlying25 (by kernel_rfl) (by decide) (fun n cs y hy => open_u8 Try.underlying5 hy) (fun _ => rfl) h
  exact ⟨l, by rw [← flat_one]; exact hr⟩

theorem open_thing {n : Nat} {cs : List Value} {y : DataW H × List MemPlace} (h : DataW.trod enc Try.prog w base spare held n 29 cs = some y) :
    ∃ t : Thg, cs = [.int .u8 (t.kind : Int), .int .u64 (t.x : Int), t.bv, .int .i64 t.most] ∧ (t.ok ∧ RV w (fun k => k < w.heap.size) t.bv t.bs.length 1 (t.bs.map bV)) := by
  obtain ⟨hl, hf⟩ := open_fields Try.underlying29 (by kernel_rfl) (by kernel_rfl) h
  match cs, hl with
  | [c0, c1, c2, c3], _ =>
    obtain ⟨_, _, h0⟩ := hf 0 _ rfl
    obtain ⟨_, _, h1⟩ := hf 1 _ rfl
    obtain ⟨_, _, h2⟩ := hf 2 _ rfl
    obtain ⟨_, _, h3⟩ := hf 3 _ rfl
    obtain ⟨k, hk, _⟩ := open_u8 Try.underlying5 h0
    obtain ⟨x, hx, hx2⟩ := open_u64 Try.underlying27 h1
    obtain ⟨l, hr⟩ := open_bytes h2
    obtain ⟨z, hz, hz2⟩ := open_i64 Try.underlying3 h3
    simp at hk hx hz
    subst hk hx hz
    exact ⟨⟨k.toNat, x, c2, l, z⟩, rfl, ⟨k.toNat_lt, hx2, hz2⟩, hr⟩

theorem open_things {v : Value} {fuel : Nat} {x : DataW H × List MemPlace} (h : DataW.trod enc Try.prog w base spare held fuel 22 [v] = some x) :
    ∃ ts : List Thg, ReadsT w w.heap.size v ts := by
  obtain ⟨ts, hg, hr⟩ := open_list (f := fun t : Thg => [.int .u8 (t.kind : Int), .int .u64 (t.x : Int), t.bv, .int .i64 t.most]) 4 Try.underlying22 (by kernel_rfl) (by decide) (fun n cs y hy => open_thing hy) (fun _ => rfl) h
  have hlen := hr.len
  obtain ⟨p, c, hv, h1, h2, h3, h4, h5⟩ := id hr
  refine ⟨ts, p, c, hv, hlen, hg, ?_⟩
  by_cases h0 : ts = []
  · exact .inl h0
  · right
    obtain ⟨b, off, hp, hb, hG, hc⟩ := h5.resolve_left (fun e => h0 (List.length_eq_zero_iff.1 e))
    refine ⟨b, off, hp, hb, hb, fun k t ht => ?_⟩
    have hcell := fun j u hu => hc (k * 4 + j) u (flat_at _ 4 (by decide) ts (fun _ _ => rfl) k t ht j u hu)
    exact ⟨by have := hcell 0 _ rfl; exact this, by have := hcell 1 _ rfl; rw [← Nat.add_assoc] at this; exact this, by have := hcell 2 _ rfl; rw [← Nat.add_assoc] at this; exact this, by have := hcell 3 _ rfl; rw [← Nat.add_assoc] at this; exact this⟩
end
end Go.Proofs.Ytpdlfelmdnkjdaa
