/- Words for memory, without a number of the program: what may have been written, slices that read as lists, blocks that are known whole, appends of slices that read. -/
import Derived.WalkKit
import Derived.Below
import Derived.Lib.Hide
import Derived.Laws.OwnMore
import Derived.Laws.Rows
import Derived.Maps.AppendAt
import Derived.OwnWalk
import Derived.Deep.Draws
namespace Go.Proofs.YtbjmdcjoaapmiaaDoor
open Go.RowKit

/-- From w to w' there are new blocks, and of the old ones those of S alone may have turned. -/
structure Foot (S : Nat → Prop) (w w' : World) : Prop where
  os : w'.os = w.os
  tape : w'.tape = w.tape
  output : w'.output = w.output
  size : w.heap.size ≤ w'.heap.size
  block : ∀ k, k < w.heap.size → ¬ S k → w'.heap[k]? = w.heap[k]?

section
variable {S T : Nat → Prop} {a b c w w' : World}
theorem Foot.refl (S : Nat → Prop) (w : World) : Foot S w w := ⟨rfl, rfl, rfl, Nat.le_refl _, fun _ _ _ => rfl⟩
/-- Behind h comes k, which writes what h may write, or what is newer than its beginning. -/
theorem Foot.then_ (h : Foot S a b) (k : Foot T b c) (ht : ∀ x, T x → S x ∨ a.heap.size ≤ x) : Foot S a c :=
  ⟨k.os.trans h.os, k.tape.trans h.tape, k.output.trans h.output, Nat.le_trans h.size k.size, fun x hx hn =>
    (k.block x (Nat.lt_of_lt_of_le hx h.size) (fun t => (ht x t).elim hn (fun e => by omega))).trans (h.block x hx hn)⟩
theorem Foot.trans (h : Foot S a b) (k : Foot S b c) : Foot S a c := h.then_ k fun _ => .inl
theorem Foot.mono (h : Foot S w w') (hs : ∀ k, k < w.heap.size → S k → T k) : Foot T w w' := ⟨h.os, h.tape, h.output, h.size, fun k hk hn => h.block k hk fun s => hn (hs k hk s)⟩
theorem Foot.of_below (S : Nat → Prop) (h : Below w.heap.size w w') : Foot S w w' := ⟨h.os, h.tape, h.output, h.size, fun k hk _ => h.block k hk⟩
theorem Foot.below {B : Nat} (h : Foot S w w') (hB : B ≤ w.heap.size) (hs : ∀ k, S k → B ≤ k) : Below B w w' :=
  ⟨h.os, h.tape, h.output, h.size, fun k hk => h.block k (Nat.lt_of_lt_of_le hk hB) fun s => by have := hs k s; omega⟩
theorem Foot.of_grown {row : Option Nat} (h : w.grownBy w' row) : Foot (fun k => row = some k) w w' :=
  ⟨h.os, h.tape, h.output, h.size, fun k hk hn => h.block k hk fun e => hn e.symm⟩
theorem Foot.alloc (h : Foot S a w) (o : Obj) : Foot S a (w.alloc o) :=
  ⟨h.os, h.tape, h.output, by simp; exact Nat.le_succ_of_le h.size, fun k hk hn => (Below.heap_alloc w o k (Nat.lt_of_lt_of_le hk h.size)).trans (h.block k hk hn)⟩
theorem Foot.drew (h : Foot S a w) : Foot S a w.drew := ⟨h.os, h.tape, h.output, h.size, h.block⟩
theorem Foot.drewN (h : Foot S a w) (n : Nat) : Foot S a (w.drewN n) := ⟨h.os, h.tape, h.output, h.size, h.block⟩
theorem Foot.setCell (h : Foot S a w) {p : Addr} (hp : S p.block ∨ a.heap.size ≤ p.block) (u : Value) : Foot S a (w.setCell p u) :=
  ⟨h.os, h.tape, h.output, by simp; exact h.size, fun k hk hn => (Below.heap_setCell w p u k (fun e => by subst e; exact hp.elim hn (fun h => by omega))).trans (h.block k hk hn)⟩
theorem Foot.cell (h : Foot S w w') {p : Addr} (hp : p.block < w.heap.size) (hn : ¬ S p.block) : w'.cell? p = w.cell? p := World.cell?_of_block (h.block p.block hp hn)
theorem Foot.own {base : Nat} {e : TypeId} {sz n : Nat} {v : Value} {xs : List Value} (h : Foot S w w') (ho : w.ownsRow base e sz v n xs) (hd : ∀ k, v.ownBlock = some k → ¬ S k) : w'.ownsRow base e sz v n xs :=
  ⟨ho.1, ho.2.imp id fun ⟨g, cap, cur, hv, hb, hg, r⟩ => ⟨g, cap, cur, hv, hb, by
    rw [h.block g (Array.getElem?_eq_some_iff.1 hg).1 (hd g (by rw [hv]; rfl))]; exact hg, r⟩⟩
end

theorem own_mono {w : World} {base base' : Nat} {e : TypeId} {sz n : Nat} {v : Value} {xs : List Value} (h : w.ownsRow base e sz v n xs) (hb : base' ≤ base) : w.ownsRow base' e sz v n xs :=
  ⟨h.1, h.2.imp id fun ⟨g, cap, cur, hv, hbb, r⟩ => ⟨g, cap, cur, hv, Nat.le_trans hb hbb, r⟩⟩

/-- v is a slice of n elements of sz cells each that reads as the cells xs; where it has any, they lie in a block of G. -/
def RV (w : World) (G : Nat → Prop) (v : Value) (n sz : Nat) (xs : List Value) : Prop :=
  ∃ p c, v = .slice p n c ∧ n ≤ c ∧ c ≤ maxLen ∧ (p = none → c = 0) ∧ xs.length = n * sz ∧
    (n = 0 ∨ ∃ b off, p = some ⟨b, off, none⟩ ∧ b < w.heap.size ∧ G b ∧ ∀ j u, xs[j]? = some u → w.cell? ⟨b, off + j, none⟩ = some u)

section
variable {w w' : World} {G G' : Nat → Prop} {v : Value} {n sz : Nat} {xs : List Value}
theorem RV.nil (w : World) (G : Nat → Prop) (sz : Nat) : RV w G (.slice none 0 0) 0 sz [] := ⟨none, 0, rfl, Nat.le_refl _, by decide, fun _ => rfl, by simp, .inl rfl⟩
theorem RV.mono (h : RV w G v n sz xs) (hg : ∀ k, k < w.heap.size → G k → G' k) : RV w G' v n sz xs := by
  obtain ⟨p, c, hv, h1, h2, h3, h4, h5⟩ := h
  exact ⟨p, c, hv, h1, h2, h3, h4, h5.imp id fun ⟨b, off, hp, hb, hG, hc⟩ => ⟨b, off, hp, hb, hg b hb hG, hc⟩⟩
theorem RV.keep (h : RV w G v n sz xs) (hs : w.heap.size ≤ w'.heap.size) (hk : ∀ k, k < w.heap.size → G k → w'.heap[k]? = w.heap[k]?) : RV w' G v n sz xs := by
  obtain ⟨p, c, hv, h1, h2, h3, h4, h5⟩ := h
  refine ⟨p, c, hv, h1, h2, h3, h4, h5.imp id fun ⟨b, off, hp, hb, hG, hc⟩ => ⟨b, off, hp, Nat.lt_of_lt_of_le hb hs, hG, fun j u hu => ?_⟩⟩
  rw [World.cell?_of_block (a := ⟨b, off + j, none⟩) (hk b hb hG)]
  exact hc j u hu
theorem RV.foot {S : Nat → Prop} (h : RV w G v n sz xs) (hf : Foot S w w') (hd : ∀ k, G k → ¬ S k) : RV w' G v n sz xs := h.keep hf.size fun k hk hG => hf.block k hk (hd k hG)
theorem RV.below {B : Nat} (h : RV w G v n sz xs) (hf : Below B w w') (hd : ∀ k, k < w.heap.size → G k → k < B) : RV w' G v n sz xs := h.keep hf.size fun k hk hG => hf.block k (hd k hk hG)
theorem RV.back {B : Nat} (h : RV w' G v n sz xs) (hb : Below B w w') (hB : B ≤ w.heap.size) (hG : ∀ k, G k → k < B) : RV w G v n sz xs := by
  obtain ⟨p, c, hv, h1, h2, h3, h4, h5⟩ := h
  refine ⟨p, c, hv, h1, h2, h3, h4, h5.imp id fun ⟨b, off, hp, _, hg, hc⟩ => ⟨b, off, hp, Nat.lt_of_lt_of_le (hG b hg) hB, hg, fun j u hu => ?_⟩⟩
  rw [← World.cell?_of_block (a := ⟨b, off + j, none⟩) (hb.block b (hG b hg))]
  exact hc j u hu
theorem RV.of_own {base : Nat} {e : TypeId} (h : w.ownsRow base e sz v n xs) : RV w (fun b => v.ownBlock = some b) v n sz xs := by
  obtain ⟨hl, ⟨rfl, rfl⟩ | ⟨g, cap, cur, rfl, hb, hg, hn, hm, hs, ht⟩⟩ := h
  · exact ⟨none, 0, rfl, Nat.le_refl _, by decide, fun _ => rfl, hl, .inl rfl⟩
  · refine ⟨_, cap, rfl, hn, hm, (fun e => by cases e), hl, .inr ⟨g, 0, rfl, (Array.getElem?_eq_some_iff.1 hg).1, rfl, fun j u hu => ?_⟩⟩
    rw [Nat.zero_add, cell_of_row w g j cur e (0, 0) hg]
    rw [← ht, List.getElem?_take] at hu
    split at hu
    · simpa using hu
    · cases hu
theorem RV.drew (h : RV w G v n sz xs) : RV w.drew G v n sz xs := h
theorem RV.drewN (h : RV w G v n sz xs) (k : Nat) : RV (w.drewN k) G v n sz xs := h
theorem RV.len (h : RV w G v n sz xs) : n ≤ maxLen := by obtain ⟨p, c, _, h1, h2, _⟩ := h; omega
/-- The first k elements. -/
theorem RV.first (h : RV w G v n sz xs) (k : Nat) (hk : k ≤ n) : ∃ p c, v = .slice p n c ∧ n ≤ c ∧ c ≤ maxLen ∧ RV w G (.slice p k c) k sz (xs.take (k * sz)) := by
  obtain ⟨p, c, hv, h1, h2, h3, h4, h5⟩ := h
  have hkn : k * sz ≤ n * sz := Nat.mul_le_mul_right _ hk
  refine ⟨p, c, hv, h1, h2, p, c, rfl, by omega, h2, h3, by rw [List.length_take, h4]; omega, ?_⟩
  by_cases hk0 : k = 0
  · exact .inl hk0
  · obtain ⟨b, off, hp, hb, hG, hc⟩ := h5.resolve_left (by omega)
    refine .inr ⟨b, off, hp, hb, hG, fun j u hu => hc j u ?_⟩
    rw [List.getElem?_take] at hu
    split at hu
    · exact hu
    · cases hu
end

/-- Block g holds just the cells cs of type t, none frozen. -/
def Blk (w : World) (g : Nat) (t : TypeId) (cs : Array Value) : Prop := w.heap[g]? = some (.cells cs t (0, 0))

section
variable {w w' : World} {g : Nat} {t : TypeId} {cs : Array Value}
theorem Blk.lt (h : Blk w g t cs) : g < w.heap.size := (Array.getElem?_eq_some_iff.1 h).1
theorem Blk.cell (h : Blk w g t cs) (i : Nat) : w.cell? ⟨g, i, none⟩ = cs[i]? := cell_of_row w g i cs t (0, 0) h
theorem Blk.frozen (h : Blk w g t cs) (i : Nat) : w.frozen? ⟨g, i, none⟩ = false := frozen_of_row w g i cs t h
theorem Blk.new (w : World) (t : TypeId) (cs : Array Value) : Blk (w.alloc (.cells cs t)) w.heap.size t cs := heap_alloc_new w _
theorem Blk.set (h : Blk w g t cs) (i : Nat) (u : Value) : Blk (w.setCell ⟨g, i, none⟩ u) g t (cs.setIfInBounds i u) := heap_setCell_same w g i cs t u h
theorem Blk.alloc (h : Blk w g t cs) (o : Obj) : Blk (w.alloc o) g t cs := (Below.heap_alloc w o g h.lt).trans h
theorem Blk.far (h : Blk w g t cs) {p : Addr} (hp : g ≠ p.block) (u : Value) : Blk (w.setCell p u) g t cs := (Below.heap_setCell w p u g hp).trans h
theorem Blk.below {B : Nat} (h : Blk w g t cs) (hb : Below B w w') (hg : g < B) : Blk w' g t cs := (hb.block g hg).trans h
theorem Blk.foot {S : Nat → Prop} (h : Blk w g t cs) (hf : Foot S w w') (hn : ¬ S g) : Blk w' g t cs := (hf.block g h.lt hn).trans h
theorem Blk.ne {g' : Nat} {t' : TypeId} {cs' : Array Value} (h : Blk w g t cs) (h' : Blk w g' t' cs') (hne : t ≠ t') : g ≠ g' := by
  rintro rfl
  unfold Blk at h h'
  rw [h] at h'
  injection h' with h'
  injection h' with _ ht
  exact hne ht
theorem own_ne_blk {base : Nat} {e : TypeId} {sz n : Nat} {v : Value} {xs : List Value} (h : w.ownsRow base e sz v n xs) (hg : Blk w g t cs) (hne : e ≠ t) : v.ownBlock ≠ some g := by
  rcases h.2 with ⟨rfl, _⟩ | ⟨g', cap, cur, rfl, _, hh, _⟩
  · intro e; cases e
  · intro he
    have e : g' = g := by simpa [Value.ownBlock] using he
    exact Blk.ne (t := _) hh hg hne e
end

section
variable {P : Program} (w : World)
/-- append onto a row of one's own, of a slice that reads. -/
theorem run_append_rv (base : Nat) (t ty e : TypeId) (i : TypeInfo) (z : Value) (sz bytes : Nat) (ht : P.underlying t = some (.slice e)) (hi : P.info? e = some i) (hz : i.zero = some z)
    (hsize : i.size = sz) (hby : i.bytes = bytes) (hzs : z.cells.size = sz) (hsz : 0 < sz)
    (v : Value) (n : Nat) (xs : List Value) (hown : w.ownsRow base e sz v n xs) (G : Nat → Prop) (sv : Value) (m : Nat) (news : List Value) (hr : RV w G sv m sz news)
    (h1 : ∀ u ∈ news, u.oneCell' = true) (h63 : n + m ≤ maxLen) (hbytes : (n + m) * bytes ≤ 140737488355328) (hbase : base ≤ w.heap.size) :
    ∃ v' w', (Builtin.append_ #[t, t] ty #[v, sv]).run P w = .ok v' w' ∧ w'.ownsRow base e sz v' (n + m) (xs ++ news) ∧ w.grownBy w' v.ownBlock ∧ (v'.ownBlock = v.ownBlock ∨ v'.ownBlock = some w.heap.size) := by
  obtain ⟨p, c, rfl, hmc, hcm, hp, hl, hc⟩ := hr
  have nonew : m = 0 → news = [] := fun h => List.eq_nil_of_length_eq_zero (by rw [hl, h, Nat.zero_mul])
  cases p with
  | none =>
    obtain rfl := hp rfl
    obtain rfl : m = 0 := by omega
    obtain rfl := nonew rfl
    exact ⟨v, w, run_append_owned_none w base t ty e i sz ht hi v n xs hown, by simpa using hown, World.grownBy.refl w _, .inl rfl⟩
  | some ad =>
    have hcells : ∀ j u, news[j]? = some u → w.cell? (ad.add j) = some u := by
      intro j u hu
      rcases hc with h0 | ⟨b, off, hb, _, _, hc⟩
      · obtain rfl := nonew h0
        simp at hu
      · cases hb
        have hadd : (⟨b, off, none⟩ : Addr).add j = ⟨b, off + j, none⟩ := by unfold Addr.add; split <;> simp_all
        rw [hadd]; exact hc j u hu
    obtain ⟨v', w', hrun, h2, h3, _, h5⟩ := run_append_own_at (P := P) w base t ty e i z sz bytes ht hi hz hsize hby hzs hsz v n xs hown ad m c news hl hcells h1 h63 hbytes hbase
    exact ⟨v', w', hrun, h2, h3, h5⟩

theorem wpList_append_rv {ops : Array Oper} {rest : List Oper} {o : Oper} {a : Act} {Q : Exit → Act → World → Prop} (hgd : o.guard = none) (s x : Operand) (t : TypeId)
    (ho : o.op = .call { callee := .builtin .append, args := #[s, x], argTypes := #[t, t] })
    (base : Nat) (e : TypeId) (i : TypeInfo) (z : Value) (sz bytes : Nat) (ht : P.underlying t = some (.slice e)) (hi : P.info? e = some i) (hz : i.zero = some z)
    (hsize : i.size = sz) (hby : i.bytes = bytes) (hzs : z.cells.size = sz) (hsz : 0 < sz)
    (v : Value) (n : Nat) (xs : List Value) (hs : a.eval s = v) (hown : w.ownsRow base e sz v n xs) (G : Nat → Prop) (sv : Value) (m : Nat) (news : List Value) (hx : a.eval x = sv) (hr : RV w G sv m sz news)
    (h1 : ∀ u ∈ news, u.oneCell' = true) (h63 : n + m ≤ maxLen) (hbytes : (n + m) * bytes ≤ 140737488355328) (hbase : base ≤ w.heap.size)
    (h : ∀ v' w', w'.ownsRow base e sz v' (n + m) (xs ++ news) → w.grownBy w' v.ownBlock → (v'.ownBlock = v.ownBlock ∨ v'.ownBlock = some w.heap.size) → wpList P ops Q rest (a.put o.dst v') w') :
    wpList P ops Q (o :: rest) a w := by
  refine wpList_plain hgd fun K hK => ?_
  obtain ⟨v', w', hr, h2, h3, h4⟩ := run_append_rv (P := P) w base t o.type e i z sz bytes ht hi hz hsize hby hzs hsz v n xs hown G sv m news hr h1 h63 hbytes hbase
  unfold Oper.wp execOp
  simp only [ho, resolve, invoke, builtin, Sem.run_bind, Sem.run_pure, Result.andThen_ok, List.map_toArray, List.map_cons, List.map_nil, hs, hx, hr]
  exact hK _ _ (h v' w' h2 h3 h4)
end

theorem all_one {α : Type} (f : α → Value) (hf : ∀ x, (f x).oneCell' = true) (l : List α) : ∀ u ∈ l.map f, u.oneCell' = true := by
  intro u hu
  obtain ⟨x, _, rfl⟩ := List.mem_map.1 hu
  exact hf x
theorem getD_map {α : Type} (f : α → Value) (l : List α) (d : α) (k : Nat) (h : k < l.length) : (l.map f)[k]? = some (f (l.getD k d)) := by
  rw [List.getElem?_map, List.getD_eq_getElem?_getD, List.getElem?_eq_getElem h]; rfl
theorem take_snoc_ {α : Type} (xs : List α) (d : α) (k : Nat) (h : k < xs.length) : xs.take (k + 1) = xs.take k ++ [xs.getD k d] := by
  rw [List.take_succ_eq_append_getElem h, List.getD_eq_getElem?_getD, List.getElem?_eq_getElem h]; rfl
end Go.Proofs.YtbjmdcjoaapmiaaDoor
