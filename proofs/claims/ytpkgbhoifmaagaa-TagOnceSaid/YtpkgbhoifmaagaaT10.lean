/- What TagPlays holds from round to round: the book, the reference's book, the words that were given out. -/
import Derived.Test.YtpkgbhoifmaagaaT9
import Derived.Test.YtpkgbhoifmaagaaB2
namespace Go.Proofs.Ytpkgbhoifmaagaa
open Go.RowKit

theorem infoU : (Try.prog.info? 22).map (fun i => (i.zero, i.size, i.bytes)) = some (some (.int .u64 0), 1, 8) := by kernel_rfl
theorem info_parts {P : Program} {e : TypeId} {z : Value} {s b : Nat} (h : (P.info? e).map (fun i => (i.zero, i.size, i.bytes)) = some (some z, s, b)) : ∃ i, P.info? e = some i ∧ i.zero = some z ∧ i.size = s ∧ i.bytes = b := by
  cases hq : P.info? e with
  | none => simp [hq] at h
  | some i =>
    simp [hq] at h
    exact ⟨i, rfl, h.1, h.2.1, h.2.2⟩
def uV (x : Nat) : Value := .int .u64 (x : Int)
theorem cell_one_new (w : World) (u : Value) (t : TypeId) : ∀ j v, [u][j]? = some v → (w.alloc (.cells #[u] t)).cell? ((⟨w.heap.size, 0, none⟩ : Addr).add j) = some v := by
  intro j v h
  match j, h with
  | 0, h =>
    simp at h
    subst h
    exact cell_of_row _ _ 0 _ _ _ (heap_alloc_new w _)
theorem cell_setRow (w : World) (r c i : Nat) (cs : Array Value) (h : c ≠ r) : (w.setRow r cs).cell? ⟨c, i, none⟩ = w.cell? ⟨c, i, none⟩ := World.cell?_of_block (a := ⟨c, i, none⟩) (setRow_other w r c cs h)

/-- The book at b stands at n, st; the reference's book at r at n', st'; gv holds the words gl. -/
structure St (w0 w : World) (b r n : Nat) (st : Nat → Nat) (n' : Nat) (st' : Nat → Nat) (gv : Value) (gl : List Nat) : Prop where
  book : BookAt w b n st
  ref : Blk w r 38 (bookArr n' st')
  own : w.ownsRow w0.heap.size 22 1 gv gl.length (gl.map uV)
  bel : Below w0.heap.size w0 w
  hb : w0.heap.size ≤ b
  hr : w0.heap.size ≤ r
  small : ∀ x ∈ gl, x < 18446744073709551616

section
variable {w0 w w' : World} {b r n n' : Nat} {st st' : Nat → Nat} {gv : Value} {gl : List Nat}
theorem St.br (h : St w0 w b r n st n' st' gv gl) : r ≠ b := Blk.ne h.ref h.book.1 (by decide)
theorem St.below (h : St w0 w b r n st n' st' gv gl) (k : Below w.heap.size w w') : St w0 w' b r n st n' st' gv gl :=
  ⟨h.book.below k h.book.1.lt, h.ref.below k h.ref.lt, (Foot.of_below (fun _ => False) k).own h.own (fun _ _ => id), h.bel.trans (k.mono h.bel.size), h.hb, h.hr, h.small⟩
theorem St.setBook {m : Nat} {s : Nat → Nat} (h : St w0 w b r n st n' st' gv gl) (hat : BookAt w' b m s) (hf : Foot (fun k => k = b) w w') : St w0 w' b r m s n' st' gv gl :=
  ⟨hat, h.ref.foot hf h.br, hf.own h.own (fun k hk e => own_ne_blk h.own h.book.1 (by decide) (by rw [hk, e])), h.bel.trans (hf.below h.bel.size (fun k hk => by rw [hk]; exact h.hb)), h.hb, h.hr, h.small⟩
theorem St.setRef {m : Nat} {s : Nat → Nat} (h : St w0 w b r n st n' st' gv gl) (hat : Blk w' r 38 (bookArr m s)) (hf : Foot (fun k => k = r) w w') : St w0 w' b r n st m s gv gl :=
  ⟨⟨h.book.1.foot hf (fun e => h.br e.symm), h.book.2⟩, hat, hf.own h.own (fun k hk e => own_ne_blk h.own h.ref (by decide) (by rw [hk, e])), h.bel.trans (hf.below h.bel.size (fun k hk => by rw [hk]; exact h.hr)), h.hb, h.hr, h.small⟩
theorem foot_setRow (w : World) (r : Nat) (cs : Array Value) : Foot (fun k => k = r) w (w.setRow r cs) := ⟨rfl, rfl, rfl, by simp [World.setRow], fun k _ hn => setRow_other w r k cs hn⟩
theorem St.row (h : St w0 w b r n st n' st' gv gl) (m : Nat) (s : Nat → Nat) : St w0 (w.setRow r (bookArr m s)) b r n st m s gv gl := h.setRef (setRow_heap w r _ _ _ (0, 0) h.ref) (foot_setRow w r _)
theorem St.put (h : St w0 w b r n st n' st' gv gl) (m s : Nat) : St w0 (w.setCell ⟨r, 1 + m, none⟩ (.int .u64 (s : Int))) b r n st n' (putF st' m s) gv gl := by
  refine h.setRef ?_ ((Foot.refl (fun k => k = r) w).setCell (p := ⟨r, 1 + m, none⟩) (.inl rfl) _)
  have := h.ref.set (1 + m) (.int .u64 (s : Int))
  rwa [Nat.add_comm 1 m, bookArr_set, Nat.add_comm m 1] at this
theorem St.app {v' : Value} {x : Nat} (h : St w0 w b r n st n' st' gv gl) (hx : x < 18446744073709551616) (ho : w'.ownsRow w0.heap.size 22 1 v' (gl.length + 1) (gl.map uV ++ [.int .u64 (x : Int)])) (hg : w.grownBy w' gv.ownBlock) : St w0 w' b r n st n' st' v' (gl ++ [x]) := by
  have hf := Foot.of_grown hg
  refine ⟨⟨h.book.1.foot hf (own_ne_blk h.own h.book.1 (by decide)), h.book.2⟩, h.ref.foot hf (own_ne_blk h.own h.ref (by decide)), ?_, ?_, h.hb, h.hr, ?_⟩
  · rw [List.length_append, List.map_append]; exact ho
  · refine h.bel.trans (hf.below h.bel.size fun k hk => ?_)
    rcases h.own.2 with ⟨e, _⟩ | ⟨g, cap, cur, e, hb, _⟩
    · rw [e] at hk; cases hk
    · rw [e] at hk
      have : g = k := by simpa [Value.ownBlock] using hk
      omega
  · intro y hy
    rcases List.mem_append.1 hy with hy | hy
    · exact h.small y hy
    · simp at hy; omega
/-- The word at place k. -/
theorem St.word (h : St w0 w b r n st n' st' gv gl) (k : Nat) (hk : k < gl.length) : ∃ bl off c, gv = .slice (some ⟨bl, off, none⟩) gl.length c ∧ w.cell? ⟨bl, off + k, none⟩ = some (.int .u64 ((gl.getD k 0 : Nat) : Int)) ∧ gl.getD k 0 < 18446744073709551616 := by
  obtain ⟨p, c, hv, _, _, _, _, hc⟩ := RV.of_own h.own
  obtain ⟨bl, off, hp, _, _, hc⟩ := hc.resolve_left (by omega)
  refine ⟨bl, off, c, by rw [hv, hp], hc k _ (getD_map uV gl 0 k hk), h.small _ ?_⟩
  rw [List.getD_eq_getElem?_getD, List.getElem?_eq_getElem hk]
  exact List.getElem_mem hk
end

/-- A call. -/
structure ActT where
  kind : Nat
  slot : Int
  word : Nat
  old : Bool
def ActT.cells (t : ActT) : List Value := [.int .u8 (t.kind : Int), .int .i64 t.slot, .int .u64 (t.word : Int), .bool t.old]
def ActT.good (t : ActT) : Prop := t.kind < 256 ∧ t.word < 18446744073709551616

theorem nextN_facts (n : Nat) (st : Nat → Nat) (i : Int) (hn : n ≤ lastN) : (nextN n st i).2.2 < 18446744073709551616 ∧ decide ((((nextN n st i).2.2 : Nat) : Int) > 0) = mayN n i := by
  unfold nextN
  cases hm : mayN n i with
  | true =>
    unfold mayN at hm
    simp only [Bool.and_eq_true, decide_eq_true_eq] at hm
    obtain ⟨m, rfl, hm6⟩ := inB_of i hm.1
    have h1 := wd_lt (n + 1) m hm.2 hm6
    have h2 := wd_pos (n + 1) m (by omega)
    simp
    exact ⟨h1, by omega⟩
  | false => simp
end Go.Proofs.Ytpkgbhoifmaagaa
