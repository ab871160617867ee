/- Arguments opened to lists, without a number of the program: slices of any elements, their cells laid end to end. -/
import Derived.Test.YtbjmdcjoaapmiaaDoorB1
import Derived.ChangeOld
import Derived.ChangeMaps5
import Derived.SevenTiedAt
import Derived.OpenShut
import Derived.Deep.Slices
import Derived.Deep.Fields
import Derived.ChangeSame
namespace Go.Proofs.YtbjmdcjoaapmiaaDoor
open Go.ChangeShapes Go.WideShapes Go.RowKit Go.Deep

theorem list_of {α : Type} {R : Nat → α → Prop} : ∀ n, (∀ i, i < n → ∃ t, R i t) → ∃ ts : List α, ts.length = n ∧ ∀ i t, ts[i]? = some t → R i t
  | 0, _ => ⟨[], rfl, fun i t h => by simp at h⟩
  | n + 1, h => by
    obtain ⟨ts, hl, ht⟩ := list_of n (fun i hi => h i (by omega))
    obtain ⟨t, hn⟩ := h n (by omega)
    refine ⟨ts ++ [t], by simp [hl], fun i u hu => ?_⟩
    by_cases hi : i < ts.length
    · rw [List.getElem?_append_left hi] at hu; exact ht i u hu
    · rw [List.getElem?_append_right (by omega)] at hu
      have hi0 : i - ts.length = 0 := by
        rcases Nat.eq_zero_or_pos (i - ts.length) with e | e
        · exact e
        · rw [List.getElem?_eq_none (by simp; omega)] at hu; cases hu
      rw [hi0] at hu
      simp at hu
      subst hu
      obtain rfl : i = n := by omega
      exact hn

theorem flat_len {α : Type} (f : α → List Value) (sz : Nat) : ∀ ts : List α, (∀ t ∈ ts, (f t).length = sz) → (ts.flatMap f).length = ts.length * sz
  | [], _ => by simp
  | t :: ts, h => by
    rw [List.flatMap_cons, List.length_append, h t (by simp), flat_len f sz ts (fun u hu => h u (by simp [hu])), List.length_cons, Nat.add_mul, Nat.one_mul, Nat.add_comm]
theorem flat_get {α : Type} (f : α → List Value) (sz : Nat) (hsz : 0 < sz) : ∀ (ts : List α), (∀ t ∈ ts, (f t).length = sz) → ∀ j, (ts.flatMap f)[j]? = (ts[j / sz]?).bind fun t => (f t)[j % sz]?
  | [], _, j => by simp
  | t :: ts, h, j => by
    have ht := h t (by simp)
    rw [List.flatMap_cons]
    by_cases hj : j < sz
    · rw [List.getElem?_append_left (by omega), Nat.div_eq_of_lt hj, Nat.mod_eq_of_lt hj]; simp
    · rw [List.getElem?_append_right (by omega), ht, flat_get f sz hsz ts (fun u hu => h u (by simp [hu]))]
      obtain ⟨i, rfl⟩ : ∃ i, j = i + sz := ⟨j - sz, by omega⟩
      rw [Nat.add_sub_cancel, Nat.add_div_right _ hsz, Nat.add_mod_right, List.getElem?_cons_succ]
theorem flat_at {α : Type} (f : α → List Value) (sz : Nat) (hsz : 0 < sz) (ts : List α) (h : ∀ t ∈ ts, (f t).length = sz) (k : Nat) (t : α) (ht : ts[k]? = some t) (j : Nat) (u : Value) (hu : (f t)[j]? = some u) : (ts.flatMap f)[k * sz + j]? = some u := by
  have hl := h t (List.mem_of_getElem? ht)
  have hj : j < sz := by
    have := (List.getElem?_eq_some_iff.1 hu).1
    omega
  rw [flat_get f sz hsz ts h, Nat.mul_comm k sz, Nat.mul_add_div hsz, Nat.div_eq_of_lt hj, Nat.add_zero, ht, Nat.mul_add_mod, Nat.mod_eq_of_lt hj]
  exact hu

section
variable {w : World} {G : Nat → Prop} {v : Value} {α : Type} {f : α → List Value} {sz : Nat} {ts : List α}
/-- The cells of element k. -/
theorem RV.elem (h : RV w G v ts.length sz (ts.flatMap f)) (hsz : 0 < sz) (hf : ∀ t ∈ ts, (f t).length = sz) (k : Nat) (t : α) (ht : ts[k]? = some t) :
    ∃ b off c, v = .slice (some ⟨b, off, none⟩) ts.length c ∧ b < w.heap.size ∧ G b ∧ ∀ j u, (f t)[j]? = some u → w.cell? ⟨b, off + k * sz + j, none⟩ = some u := by
  have hk := (List.getElem?_eq_some_iff.1 ht).1
  obtain ⟨p, c, rfl, _, _, _, _, hc⟩ := h
  obtain ⟨b, off, rfl, hb, hG, hc⟩ := hc.resolve_left (by omega)
  exact ⟨b, off, c, rfl, hb, hG, fun j u hu => by rw [Nat.add_assoc]; exact hc _ u (flat_at f sz hsz ts hf k t ht j u hu)⟩
end

section
variable {H : Type} {enc : TypeId × Value → H} {P : Program} {w : World} {base : Nat} {spare : Nat → Bool} {held : Bool}
/-- A slice that came in, whose elements can be opened, reads as a list. -/
theorem open_list {α : Type} {f : α → List Value} {good : α → Prop} {t e : TypeId} {fuel : Nat} {v : Value} {x : DataW H × List MemPlace} (sz : Nat) (ht : P.underlying t = some (.slice e)) (hC : P.cellsOf e = sz) (hsz : 0 < sz)
    (hopen : ∀ n cs y, DataW.trod enc P w base spare held n e cs = some y → ∃ u : α, cs = f u ∧ good u) (hlen : ∀ u, (f u).length = sz)
    (h : DataW.trod enc P w base spare held fuel t [v] = some x) :
    ∃ ts : List α, (∀ u ∈ ts, good u) ∧ RV w (fun k => k < w.heap.size) v ts.length sz (ts.flatMap f) := by
  rcases open_slice ht h with ⟨h0, _⟩ | ⟨a, len, cap, m, n, D, Pl, hcs, hb, hl, hm, hmm, hx, hi⟩
  · injection h0 with h0
    subst h0
    exact ⟨[], (fun u hu => by cases hu), by simpa using RV.nil w _ sz⟩
  · injection hcs with hv
    subst hv
    have hlm : len ≤ m := by rw [hmm]; split <;> omega
    have hel : ∀ i, i < len → ∃ u : α, good u ∧ w.cells? base (a.add (i * sz)) sz = some (f u) := by
      intro i hi'
      obtain ⟨cs', hc, ht'⟩ := hi i (by omega)
      obtain ⟨u, rfl, hg⟩ := hopen _ _ _ ht'
      exact ⟨u, hg, by rw [← hC]; exact hc⟩
    obtain ⟨ts, hts, hall⟩ := list_of (R := fun i u => good u ∧ w.cells? base (a.add (i * sz)) sz = some (f u)) len hel
    refine ⟨ts, fun u hu => ?_, some a, cap, by rw [hts], by omega, hm, (fun e => by cases e), flat_len f sz ts (fun u _ => hlen u), ?_⟩
    · obtain ⟨i, hi, rfl⟩ := List.mem_iff_getElem.1 hu
      exact (hall i _ (List.getElem?_eq_getElem hi)).1
    · by_cases h0 : len = 0
      · exact .inl (by omega)
      · right
        have hcell : ∀ j u, (ts.flatMap f)[j]? = some u → w.cell? (a.add j) = some u := by
          intro j u hu
          rw [flat_get f sz hsz ts (fun u _ => hlen u)] at hu
          obtain ⟨t, ht1, ht2⟩ := Option.bind_eq_some_iff.1 hu
          obtain ⟨_, hcs⟩ := hall _ t ht1
          obtain ⟨_, _, hat⟩ := World.cells?_some hcs
          have := hat (j % sz) (Nat.mod_lt _ hsz)
          rw [ht2, add_add, Nat.div_add_mod'] at this
          exact this
        have hne : 0 < (ts.flatMap f).length := by rw [flat_len f sz ts (fun u _ => hlen u), hts]; exact Nat.mul_pos (by omega) hsz
        have h00 := hcell 0 _ (List.getElem?_eq_getElem hne)
        obtain ⟨b, off, spot⟩ := a
        have hspot : spot = none := by simpa [Addr.add] using World.cell?_spot h00
        subst hspot
        refine ⟨b, off, rfl, World.block_lt_of_cell? w ⟨b, off, none⟩ (by simpa [Addr.add] using h00), World.block_lt_of_cell? w ⟨b, off, none⟩ (by simpa [Addr.add] using h00), fun j u hu => ?_⟩
        rw [← add_plain]
        exact hcell j u hu

/-- A struct of one-cell fields, field by field. -/
theorem open_fields {e : TypeId} {fs : Array Field} {n : Nat} {cs : List Value} {y : DataW H × List MemPlace} (he : P.underlying e = some (.struct fs)) (hone : oneCellFields P fs = true) (hC : P.cellsOf e = fs.size)
    (h : DataW.trod enc P w base spare held n e cs = some y) : cs.length = fs.size ∧ ∀ (j : Nat) (f : Field), fs[j]? = some f → ∃ m y', DataW.trod enc P w base spare held m f.type [cs.getD j undef] = some y' := by
  obtain ⟨xs, m, _, _, hl, hxl, hf⟩ := DataW.trod_struct he h
  refine ⟨hl.trans hC, fun j f hj => ?_⟩
  have hjl : j < fs.size := (Array.getElem?_eq_some_iff.1 hj).1
  obtain ⟨ho, hk⟩ := hone_of hone j f hj
  have h1 := hf j f hj
  rw [ho, hk, take1_drop cs j undef (by rw [hl, hC]; exact hjl), List.getElem?_eq_getElem (by omega)] at h1
  exact ⟨m, _, h1⟩

theorem open_u8 {t : TypeId} {n : Nat} {cs : List Value} {y : DataW H × List MemPlace} (ht : P.underlying t = some (.int .u8)) (h : DataW.trod enc P w base spare held n t cs = some y) : ∃ c : UInt8, cs = [.int .u8 (c.toNat : Int)] ∧ True := by
  obtain ⟨z, rfl, _, hw⟩ := DataW.trod_int ht h
  have hb := bounds_u8 hw
  refine ⟨UInt8.ofNat z.toNat, ?_, trivial⟩
  have : ((UInt8.ofNat z.toNat).toNat : Int) = z := by
    rw [UInt8.toNat_ofNat_of_lt' (by show z.toNat < 256; omega)]; omega
  rw [this]
theorem open_u64 {t : TypeId} {n : Nat} {cs : List Value} {y : DataW H × List MemPlace} (ht : P.underlying t = some (.int .u64)) (h : DataW.trod enc P w base spare held n t cs = some y) : ∃ c : Nat, cs = [.int .u64 (c : Int)] ∧ c < 18446744073709551616 := by
  obtain ⟨z, rfl, _, hw⟩ := DataW.trod_int ht h
  have hb := bounds_u64 hw
  refine ⟨z.toNat, ?_, by omega⟩
  rw [show ((z.toNat : Nat) : Int) = z by omega]
theorem open_i64 {t : TypeId} {n : Nat} {cs : List Value} {y : DataW H × List MemPlace} (ht : P.underlying t = some (.int .i64)) (h : DataW.trod enc P w base spare held n t cs = some y) : ∃ z : Int, cs = [.int .i64 z] ∧ -9223372036854775808 ≤ z ∧ z ≤ 9223372036854775807 := by
  obtain ⟨z, rfl, _, hw⟩ := DataW.trod_int ht h
  exact ⟨z, rfl, bounds_i64 hw⟩
theorem flat_one {α : Type} (g : α → Value) : ∀ l : List α, l.flatMap (fun c => [g c]) = l.map g
  | [] => rfl
  | c :: l => by rw [List.flatMap_cons, flat_one g l]; rfl
end
end Go.Proofs.YtbjmdcjoaapmiaaDoor
