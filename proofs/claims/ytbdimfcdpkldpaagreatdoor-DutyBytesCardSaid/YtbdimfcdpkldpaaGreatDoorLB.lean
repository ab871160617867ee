/- Words for memory, without a number of the program: what may have been written, slices that read as lists, blocks that are known whole, appends of slices that read. Arguments opened to lists, without a number of the program: slices of any elements, their cells laid end to end. Words for memory, without a number of the program: structs and arrays of many cells made, read and stored whole (also guarded, also in a region that draws its order), what stands behind a call that only makes memory. Words for memory, without a number of the program: appends of written-out elements onto a row of one's own, what stays behind them. -/
import Derived.WalkKit
import Derived.Below
import Derived.Lib.Hide
import Derived.Laws.OwnMore
import Derived.Laws.Rows
import Derived.Maps.AppendAt
import Derived.OwnWalk
import Derived.Deep.Draws
import Derived.ChangeOld
import Derived.ChangeMaps5
import Derived.SevenTiedAt
import Derived.OpenShut
import Derived.Deep.Slices
import Derived.Deep.Fields
import Derived.ChangeSame
import Derived.Laws.Tables
import Derived.Laws.CopyOwn
import Derived.Laws.ResultCell
import Derived.Deep.WholeRow
import Derived.Deep.RegionWith
import Derived.Deep.RegionHeld
namespace Go.Proofs.YtbdimfcdpkldpaaGreatDoor
open Go.RowKit

/-- From w to w' there are new blocks, and of the old ones those of S alone may have turned. -/
structure Foot (S : Nat → Prop) (w w' : World) : Prop where
  os : w'.os = w.os
  tape : w'.tape = w.tape
  output : w'.output = w.output
  size : w.heap.size ≤ w'.heap.size
  block : ∀ k, k < w.heap.size → ¬ S k → w'.heap[k]? = w.heap[k]?

section
variable {S T : Nat → Prop} {a b c w w' : World}
theorem Foot.refl (S : Nat → Prop) (w : World) : Foot S w w := ⟨rfl, rfl, rfl, Nat.le_refl _, fun _ _ _ => rfl⟩
/-- Behind h comes k, which writes what h may write, or what is newer than its beginning. -/
theorem Foot.then_ (h : Foot S a b) (k : Foot T b c) (ht : ∀ x, T x → S x ∨ a.heap.size ≤ x) : Foot S a c :=
  ⟨k.os.trans h.os, k.tape.trans h.tape, k.output.trans h.output, Nat.le_trans h.size k.size, fun x hx hn =>
    (k.block x (Nat.lt_of_lt_of_le hx h.size) (fun t => (ht x t).elim hn (fun e => by omega))).trans (h.block x hx hn)⟩
theorem Foot.trans (h : Foot S a b) (k : Foot S b c) : Foot S a c := h.then_ k fun _ => .inl
theorem Foot.mono (h : Foot S w w') (hs : ∀ k, k < w.heap.size → S k → T k) : Foot T w w' := ⟨h.os, h.tape, h.output, h.size, fun k hk hn => h.block k hk fun s => hn (hs k hk s)⟩
theorem Foot.of_below (S : Nat → Prop) (h : Below w.heap.size w w') : Foot S w w' := ⟨h.os, h.tape, h.output, h.size, fun k hk _ => h.block k hk⟩
theorem Foot.below {B : Nat} (h : Foot S w w') (hB : B ≤ w.heap.size) (hs : ∀ k, S k → B ≤ k) : Below B w w' :=
  ⟨h.os, h.tape, h.output, h.size, fun k hk => h.block k (Nat.lt_of_lt_of_le hk hB) fun s => by have := hs k s; omega⟩
theorem Foot.of_grown {row : Option Nat} (h : w.grownBy w' row) : Foot (fun k => row = some k) w w' :=
  ⟨h.os, h.tape, h.output, h.size, fun k hk hn => h.block k hk fun e => hn e.symm⟩
theorem Foot.alloc (h : Foot S a w) (o : Obj) : Foot S a (w.alloc o) :=
  ⟨h.os, h.tape, h.output, by simp; exact Nat.le_succ_of_le h.size, fun k hk hn => (Below.heap_alloc w o k (Nat.lt_of_lt_of_le hk h.size)).trans (h.block k hk hn)⟩
theorem Foot.drew (h : Foot S a w) : Foot S a w.drew := ⟨h.os, h.tape, h.output, h.size, h.block⟩
theorem Foot.drewN (h : Foot S a w) (n : Nat) : Foot S a (w.drewN n) := ⟨h.os, h.tape, h.output, h.size, h.block⟩
theorem Foot.setCell (h : Foot S a w) {p : Addr} (hp : S p.block ∨ a.heap.size ≤ p.block) (u : Value) : Foot S a (w.setCell p u) :=
  ⟨h.os, h.tape, h.output, by simp; exact h.size, fun k hk hn => (Below.heap_setCell w p u k (fun e => by subst e; exact hp.elim hn (fun h => by omega))).trans (h.block k hk hn)⟩
theorem Foot.cell (h : Foot S w w') {p : Addr} (hp : p.block < w.heap.size) (hn : ¬ S p.block) : w'.cell? p = w.cell? p := World.cell?_of_block (h.block p.block hp hn)
theorem Foot.own {base : Nat} {e : TypeId} {sz n : Nat} {v : Value} {xs : List Value} (h : Foot S w w') (ho : w.ownsRow base e sz v n xs) (hd : ∀ k, v.ownBlock = some k → ¬ S k) : w'.ownsRow base e sz v n xs :=
  ⟨ho.1, ho.2.imp id fun ⟨g, cap, cur, hv, hb, hg, r⟩ => ⟨g, cap, cur, hv, hb, by
    rw [h.block g (Array.getElem?_eq_some_iff.1 hg).1 (hd g (by rw [hv]; rfl))]; exact hg, r⟩⟩
end

theorem own_mono {w : World} {base base' : Nat} {e : TypeId} {sz n : Nat} {v : Value} {xs : List Value} (h : w.ownsRow base e sz v n xs) (hb : base' ≤ base) : w.ownsRow base' e sz v n xs :=
  ⟨h.1, h.2.imp id fun ⟨g, cap, cur, hv, hbb, r⟩ => ⟨g, cap, cur, hv, Nat.le_trans hb hbb, r⟩⟩

/-- v is a slice of n elements of sz cells each that reads as the cells xs; where it has any, they lie in a block of G. -/
def RV (w : World) (G : Nat → Prop) (v : Value) (n sz : Nat) (xs : List Value) : Prop :=
  ∃ p c, v = .slice p n c ∧ n ≤ c ∧ c ≤ maxLen ∧ (p = none → c = 0) ∧ xs.length = n * sz ∧
    (n = 0 ∨ ∃ b off, p = some ⟨b, off, none⟩ ∧ b < w.heap.size ∧ G b ∧ ∀ j u, xs[j]? = some u → w.cell? ⟨b, off + j, none⟩ = some u)

section
variable {w w' : World} {G G' : Nat → Prop} {v : Value} {n sz : Nat} {xs : List Value}
theorem RV.nil (w : World) (G : Nat → Prop) (sz : Nat) : RV w G (.slice none 0 0) 0 sz [] := ⟨none, 0, rfl, Nat.le_refl _, by decide, fun _ => rfl, by simp, .inl rfl⟩
theorem RV.mono (h : RV w G v n sz xs) (hg : ∀ k, k < w.heap.size → G k → G' k) : RV w G' v n sz xs := by
  obtain ⟨p, c, hv, h1, h2, h3, h4, h5⟩ := h
  exact ⟨p, c, hv, h1, h2, h3, h4, h5.imp id fun ⟨b, off, hp, hb, hG, hc⟩ => ⟨b, off, hp, hb, hg b hb hG, hc⟩⟩
theorem RV.keep (h : RV w G v n sz xs) (hs : w.heap.size ≤ w'.heap.size) (hk : ∀ k, k < w.heap.size → G k → w'.heap[k]? = w.heap[k]?) : RV w' G v n sz xs := by
  obtain ⟨p, c, hv, h1, h2, h3, h4, h5⟩ := h
  refine ⟨p, c, hv, h1, h2, h3, h4, h5.imp id fun ⟨b, off, hp, hb, hG, hc⟩ => ⟨b, off, hp, Nat.lt_of_lt_of_le hb hs, hG, fun j u hu => ?_⟩⟩
  rw [World.cell?_of_block (a := ⟨b, off + j, none⟩) (hk b hb hG)]
  exact hc j u hu
theorem RV.foot {S : Nat → Prop} (h : RV w G v n sz xs) (hf : Foot S w w') (hd : ∀ k, G k → ¬ S k) : RV w' G v n sz xs := h.keep hf.size fun k hk hG => hf.block k hk (hd k hG)
theorem RV.below {B : Nat} (h : RV w G v n sz xs) (hf : Below B w w') (hd : ∀ k, k < w.heap.size → G k → k < B) : RV w' G v n sz xs := h.keep hf.size fun k hk hG => hf.block k (hd k hk hG)
theorem RV.back {B : Nat} (h : RV w' G v n sz xs) (hb : Below B w w') (hB : B ≤ w.heap.size) (hG : ∀ k, G k → k < B) : RV w G v n sz xs := by
  obtain ⟨p, c, hv, h1, h2, h3, h4, h5⟩ := h
  refine ⟨p, c, hv, h1, h2, h3, h4, h5.imp id fun ⟨b, off, hp, _, hg, hc⟩ => ⟨b, off, hp, Nat.lt_of_lt_of_le (hG b hg) hB, hg, fun j u hu => ?_⟩⟩
  rw [← World.cell?_of_block (a := ⟨b, off + j, none⟩) (hb.block b (hG b hg))]
  exact hc j u hu
theorem RV.of_own {base : Nat} {e : TypeId} (h : w.ownsRow base e sz v n xs) : RV w (fun b => v.ownBlock = some b) v n sz xs := by
  obtain ⟨hl, ⟨rfl, rfl⟩ | ⟨g, cap, cur, rfl, hb, hg, hn, hm, hs, ht⟩⟩ := h
  · exact ⟨none, 0, rfl, Nat.le_refl _, by decide, fun _ => rfl, hl, .inl rfl⟩
  · refine ⟨_, cap, rfl, hn, hm, (fun e => by cases e), hl, .inr ⟨g, 0, rfl, (Array.getElem?_eq_some_iff.1 hg).1, rfl, fun j u hu => ?_⟩⟩
    rw [Nat.zero_add, cell_of_row w g j cur e (0, 0) hg]
    rw [← ht, List.getElem?_take] at hu
    split at hu
    · simpa using hu
    · cases hu
theorem RV.drew (h : RV w G v n sz xs) : RV w.drew G v n sz xs := h
theorem RV.drewN (h : RV w G v n sz xs) (k : Nat) : RV (w.drewN k) G v n sz xs := h
theorem RV.len (h : RV w G v n sz xs) : n ≤ maxLen := by obtain ⟨p, c, _, h1, h2, _⟩ := h; omega
/-- The first k elements. -/
theorem RV.first (h : RV w G v n sz xs) (k : Nat) (hk : k ≤ n) : ∃ p c, v = .slice p n c ∧ n ≤ c ∧ c ≤ maxLen ∧ RV w G (.slice p k c) k sz (xs.take (k * sz)) := by
  obtain ⟨p, c, hv, h1, h2, h3, h4, h5⟩ := h
  have hkn : k * sz ≤ n * sz := Nat.mul_le_mul_right _ hk
  refine ⟨p, c, hv, h1, h2, p, c, rfl, by omega, h2, h3, by rw [List.length_take, h4]; omega, ?_⟩
  by_cases hk0 : k = 0
  · exact .inl hk0
  · obtain ⟨b, off, hp, hb, hG, hc⟩ := h5.resolve_left (by omega)
    refine .inr ⟨b, off, hp, hb, hG, fun j u hu => hc j u ?_⟩
    rw [List.getElem?_take] at hu
    split at hu
    · exact hu
    · cases hu
end

/-- Block g holds just the cells cs of type t, none frozen. -/
def Blk (w : World) (g : Nat) (t : TypeId) (cs : Array Value) : Prop := w.heap[g]? = some (.cells cs t (0, 0))

section
variable {w w' : World} {g : Nat} {t : TypeId} {cs : Array Value}
theorem Blk.lt (h : Blk w g t cs) : g < w.heap.size := (Array.getElem?_eq_some_iff.1 h).1
theorem Blk.cell (h : Blk w g t cs) (i : Nat) : w.cell? ⟨g, i, none⟩ = cs[i]? := cell_of_row w g i cs t (0, 0) h
theorem Blk.frozen (h : Blk w g t cs) (i : Nat) : w.frozen? ⟨g, i, none⟩ = false := frozen_of_row w g i cs t h
theorem Blk.new (w : World) (t : TypeId) (cs : Array Value) : Blk (w.alloc (.cells cs t)) w.heap.size t cs := heap_alloc_new w _
theorem Blk.set (h : Blk w g t cs) (i : Nat) (u : Value) : Blk (w.setCell ⟨g, i, none⟩ u) g t (cs.setIfInBounds i u) := heap_setCell_same w g i cs t u h
theorem Blk.alloc (h : Blk w g t cs) (o : Obj) : Blk (w.alloc o) g t cs := (Below.heap_alloc w o g h.lt).trans h
theorem Blk.far (h : Blk w g t cs) {p : Addr} (hp : g ≠ p.block) (u : Value) : Blk (w.setCell p u) g t cs := (Below.heap_setCell w p u g hp).trans h
theorem Blk.below {B : Nat} (h : Blk w g t cs) (hb : Below B w w') (hg : g < B) : Blk w' g t cs := (hb.block g hg).trans h
theorem Blk.foot {S : Nat → Prop} (h : Blk w g t cs) (hf : Foot S w w') (hn : ¬ S g) : Blk w' g t cs := (hf.block g h.lt hn).trans h
theorem Blk.ne {g' : Nat} {t' : TypeId} {cs' : Array Value} (h : Blk w g t cs) (h' : Blk w g' t' cs') (hne : t ≠ t') : g ≠ g' := by
  rintro rfl
  unfold Blk at h h'
  rw [h] at h'
  injection h' with h'
  injection h' with _ ht
  exact hne ht
theorem own_ne_blk {base : Nat} {e : TypeId} {sz n : Nat} {v : Value} {xs : List Value} (h : w.ownsRow base e sz v n xs) (hg : Blk w g t cs) (hne : e ≠ t) : v.ownBlock ≠ some g := by
  rcases h.2 with ⟨rfl, _⟩ | ⟨g', cap, cur, rfl, _, hh, _⟩
  · intro e; cases e
  · intro he
    have e : g' = g := by simpa [Value.ownBlock] using he
    exact Blk.ne (t := _) hh hg hne e
end

section
variable {P : Program} (w : World)
/-- append onto a row of one's own, of a slice that reads. -/
theorem run_append_rv (base : Nat) (t ty e : TypeId) (i : TypeInfo) (z : Value) (sz bytes : Nat) (ht : P.underlying t = some (.slice e)) (hi : P.info? e = some i) (hz : i.zero = some z)
    (hsize : i.size = sz) (hby : i.bytes = bytes) (hzs : z.cells.size = sz) (hsz : 0 < sz)
    (v : Value) (n : Nat) (xs : List Value) (hown : w.ownsRow base e sz v n xs) (G : Nat → Prop) (sv : Value) (m : Nat) (news : List Value) (hr : RV w G sv m sz news)
    (h1 : ∀ u ∈ news, u.oneCell' = true) (h63 : n + m ≤ maxLen) (hbytes : (n + m) * bytes ≤ 140737488355328) (hbase : base ≤ w.heap.size) :
    ∃ v' w', (Builtin.append_ #[t, t] ty #[v, sv]).run P w = .ok v' w' ∧ w'.ownsRow base e sz v' (n + m) (xs ++ news) ∧ w.grownBy w' v.ownBlock ∧ (v'.ownBlock = v.ownBlock ∨ v'.ownBlock = some w.heap.size) := by
  obtain ⟨p, c, rfl, hmc, hcm, hp, hl, hc⟩ := hr
  have nonew : m = 0 → news = [] := fun h => List.eq_nil_of_length_eq_zero (by rw [hl, h, Nat.zero_mul])
  cases p with
  | none =>
    obtain rfl := hp rfl
    obtain rfl : m = 0 := by omega
    obtain rfl := nonew rfl
    exact ⟨v, w, run_append_owned_none w base t ty e i sz ht hi v n xs hown, by simpa using hown, World.grownBy.refl w _, .inl rfl⟩
  | some ad =>
    have hcells : ∀ j u, news[j]? = some u → w.cell? (ad.add j) = some u := by
      intro j u hu
      rcases hc with h0 | ⟨b, off, hb, _, _, hc⟩
      · obtain rfl := nonew h0
        simp at hu
      · cases hb
        have hadd : (⟨b, off, none⟩ : Addr).add j = ⟨b, off + j, none⟩ := by unfold Addr.add; split <;> simp_all
        rw [hadd]; exact hc j u hu
    obtain ⟨v', w', hrun, h2, h3, _, h5⟩ := run_append_own_at (P := P) w base t ty e i z sz bytes ht hi hz hsize hby hzs hsz v n xs hown ad m c news hl hcells h1 h63 hbytes hbase
    exact ⟨v', w', hrun, h2, h3, h5⟩

theorem wpList_append_rv {ops : Array Oper} {rest : List Oper} {o : Oper} {a : Act} {Q : Exit → Act → World → Prop} (hgd : o.guard = none) (s x : Operand) (t : TypeId)
    (ho : o.op = .call { callee := .builtin .append, args := #[s, x], argTypes := #[t, t] })
    (base : Nat) (e : TypeId) (i : TypeInfo) (z : Value) (sz bytes : Nat) (ht : P.underlying t = some (.slice e)) (hi : P.info? e = some i) (hz : i.zero = some z)
    (hsize : i.size = sz) (hby : i.bytes = bytes) (hzs : z.cells.size = sz) (hsz : 0 < sz)
    (v : Value) (n : Nat) (xs : List Value) (hs : a.eval s = v) (hown : w.ownsRow base e sz v n xs) (G : Nat → Prop) (sv : Value) (m : Nat) (news : List Value) (hx : a.eval x = sv) (hr : RV w G sv m sz news)
    (h1 : ∀ u ∈ news, u.oneCell' = true) (h63 : n + m ≤ maxLen) (hbytes : (n + m) * bytes ≤ 140737488355328) (hbase : base ≤ w.heap.size)
    (h : ∀ v' w', w'.ownsRow base e sz v' (n + m) (xs ++ news) → w.grownBy w' v.ownBlock → (v'.ownBlock = v.ownBlock ∨ v'.ownBlock = some w.heap.size) → wpList P ops Q rest (a.put o.dst v') w') :
    wpList P ops Q (o :: rest) a w := by
  refine wpList_plain hgd fun K hK => ?_
  obtain ⟨v', w', hr, h2, h3, h4⟩ := run_append_rv (P := P) w base t o.type e i z sz bytes ht hi hz hsize hby hzs hsz v n xs hown G sv m news hr h1 h63 hbytes hbase
  unfold Oper.wp execOp
  simp only [ho, resolve, invoke, builtin, Sem.run_bind, Sem.run_pure, Result.andThen_ok, List.map_toArray, List.map_cons, List.map_nil, hs, hx, hr]
  exact hK _ _ (h v' w' h2 h3 h4)
end

theorem all_one {α : Type} (f : α → Value) (hf : ∀ x, (f x).oneCell' = true) (l : List α) : ∀ u ∈ l.map f, u.oneCell' = true := by
  intro u hu
  obtain ⟨x, _, rfl⟩ := List.mem_map.1 hu
  exact hf x
theorem getD_map {α : Type} (f : α → Value) (l : List α) (d : α) (k : Nat) (h : k < l.length) : (l.map f)[k]? = some (f (l.getD k d)) := by
  rw [List.getElem?_map, List.getD_eq_getElem?_getD, List.getElem?_eq_getElem h]; rfl
theorem take_snoc_ {α : Type} (xs : List α) (d : α) (k : Nat) (h : k < xs.length) : xs.take (k + 1) = xs.take k ++ [xs.getD k d] := by
  rw [List.take_succ_eq_append_getElem h, List.getD_eq_getElem?_getD, List.getElem?_eq_getElem h]; rfl
end Go.Proofs.YtbdimfcdpkldpaaGreatDoor

namespace Go.Proofs.YtbdimfcdpkldpaaGreatDoor
open Go.ChangeShapes Go.WideShapes Go.RowKit Go.Deep

theorem list_of {α : Type} {R : Nat → α → Prop} : ∀ n, (∀ i, i < n → ∃ t, R i t) → ∃ ts : List α, ts.length = n ∧ ∀ i t, ts[i]? = some t → R i t
  | 0, _ => ⟨[], rfl, fun i t h => by simp at h⟩
  | n + 1, h => by
    obtain ⟨ts, hl, ht⟩ := list_of n (fun i hi => h i (by omega))
    obtain ⟨t, hn⟩ := h n (by omega)
    refine ⟨ts ++ [t], by simp [hl], fun i u hu => ?_⟩
    by_cases hi : i < ts.length
    · rw [List.getElem?_append_left hi] at hu; exact ht i u hu
    · rw [List.getElem?_append_right (by omega)] at hu
      have hi0 : i - ts.length = 0 := by
        rcases Nat.eq_zero_or_pos (i - ts.length) with e | e
        · exact e
        · rw [List.getElem?_eq_none (by simp; omega)] at hu; cases hu
      rw [hi0] at hu
      simp at hu
      subst hu
      obtain rfl : i = n := by omega
      exact hn

theorem flat_len {α : Type} (f : α → List Value) (sz : Nat) : ∀ ts : List α, (∀ t ∈ ts, (f t).length = sz) → (ts.flatMap f).length = ts.length * sz
  | [], _ => by simp
  | t :: ts, h => by
    rw [List.flatMap_cons, List.length_append, h t (by simp), flat_len f sz ts (fun u hu => h u (by simp [hu])), List.length_cons, Nat.add_mul, Nat.one_mul, Nat.add_comm]
theorem flat_get {α : Type} (f : α → List Value) (sz : Nat) (hsz : 0 < sz) : ∀ (ts : List α), (∀ t ∈ ts, (f t).length = sz) → ∀ j, (ts.flatMap f)[j]? = (ts[j / sz]?).bind fun t => (f t)[j % sz]?
  | [], _, j => by simp
  | t :: ts, h, j => by
    have ht := h t (by simp)
    rw [List.flatMap_cons]
    by_cases hj : j < sz
    · rw [List.getElem?_append_left (by omega), Nat.div_eq_of_lt hj, Nat.mod_eq_of_lt hj]; simp
    · rw [List.getElem?_append_right (by omega), ht, flat_get f sz hsz ts (fun u hu => h u (by simp [hu]))]
      obtain ⟨i, rfl⟩ : ∃ i, j = i + sz := ⟨j - sz, by omega⟩
      rw [Nat.add_sub_cancel, Nat.add_div_right _ hsz, Nat.add_mod_right, List.getElem?_cons_succ]
theorem flat_at {α : Type} (f : α → List Value) (sz : Nat) (hsz : 0 < sz) (ts : List α) (h : ∀ t ∈ ts, (f t).length = sz) (k : Nat) (t : α) (ht : ts[k]? = some t) (j : Nat) (u : Value) (hu : (f t)[j]? = some u) : (ts.flatMap f)[k * sz + j]? = some u := by
  have hl := h t (List.mem_of_getElem? ht)
  have hj : j < sz := by
    have := (List.getElem?_eq_some_iff.1 hu).1
    omega
  rw [flat_get f sz hsz ts h, Nat.mul_comm k sz, Nat.mul_add_div hsz, Nat.div_eq_of_lt hj, Nat.add_zero, ht, Nat.mul_add_mod, Nat.mod_eq_of_lt hj]
  exact hu

section
variable {w : World} {G : Nat → Prop} {v : Value} {α : Type} {f : α → List Value} {sz : Nat} {ts : List α}
/-- The cells of element k. -/
theorem RV.elem (h : RV w G v ts.length sz (ts.flatMap f)) (hsz : 0 < sz) (hf : ∀ t ∈ ts, (f t).length = sz) (k : Nat) (t : α) (ht : ts[k]? = some t) :
    ∃ b off c, v = .slice (some ⟨b, off, none⟩) ts.length c ∧ b < w.heap.size ∧ G b ∧ ∀ j u, (f t)[j]? = some u → w.cell? ⟨b, off + k * sz + j, none⟩ = some u := by
  have hk := (List.getElem?_eq_some_iff.1 ht).1
  obtain ⟨p, c, rfl, _, _, _, _, hc⟩ := h
  obtain ⟨b, off, rfl, hb, hG, hc⟩ := hc.resolve_left (by omega)
  exact ⟨b, off, c, rfl, hb, hG, fun j u hu => by rw [Nat.add_assoc]; exact hc _ u (flat_at f sz hsz ts hf k t ht j u hu)⟩
end

section
variable {H : Type} {enc : TypeId × Value → H} {P : Program} {w : World} {base : Nat} {spare : Nat → Bool} {held : Bool}
/-- A slice that came in, whose elements can be opened, reads as a list. -/
theorem open_list {α : Type} {f : α → List Value} {good : α → Prop} {t e : TypeId} {fuel : Nat} {v : Value} {x : DataW H × List MemPlace} (sz : Nat) (ht : P.underlying t = some (.slice e)) (hC : P.cellsOf e = sz) (hsz : 0 < sz)
    (hopen : ∀ n cs y, DataW.trod enc P w base spare held n e cs = some y → ∃ u : α, cs = f u ∧ good u) (hlen : ∀ u, (f u).length = sz)
    (h : DataW.trod enc P w base spare held fuel t [v] = some x) :
    ∃ ts : List α, (∀ u ∈ ts, good u) ∧ RV w (fun k => k < w.heap.size) v ts.length sz (ts.flatMap f) := by
  rcases open_slice ht h with ⟨h0, _⟩ | ⟨a, len, cap, m, n, D, Pl, hcs, hb, hl, hm, hmm, hx, hi⟩
  · injection h0 with h0
    subst h0
    exact ⟨[], (fun u hu => by cases hu), by simpa using RV.nil w _ sz⟩
  · injection hcs with hv
    subst hv
    have hlm : len ≤ m := by rw [hmm]; split <;> omega
    have hel : ∀ i, i < len → ∃ u : α, good u ∧ w.cells? base (a.add (i * sz)) sz = some (f u) := by
      intro i hi'
      obtain ⟨cs', hc, ht'⟩ := hi i (by omega)
      obtain ⟨u, rfl, hg⟩ := hopen _ _ _ ht'
      exact ⟨u, hg, by rw [← hC]; exact hc⟩
    obtain ⟨ts, hts, hall⟩ := list_of (R := fun i u => good u ∧ w.cells? base (a.add (i * sz)) sz = some (f u)) len hel
    refine ⟨ts, fun u hu => ?_, some a, cap, by rw [hts], by omega, hm, (fun e => by cases e), flat_len f sz ts (fun u _ => hlen u), ?_⟩
    · obtain ⟨i, hi, rfl⟩ := List.mem_iff_getElem.1 hu
      exact (hall i _ (List.getElem?_eq_getElem hi)).1
    · by_cases h0 : len = 0
      · exact .inl (by omega)
      · right
        have hcell : ∀ j u, (ts.flatMap f)[j]? = some u → w.cell? (a.add j) = some u := by
          intro j u hu
          rw [flat_get f sz hsz ts (fun u _ => hlen u)] at hu
          obtain ⟨t, ht1, ht2⟩ := Option.bind_eq_some_iff.1 hu
          obtain ⟨_, hcs⟩ := hall _ t ht1
          obtain ⟨_, _, hat⟩ := World.cells?_some hcs
          have := hat (j % sz) (Nat.mod_lt _ hsz)
          rw [ht2, add_add, Nat.div_add_mod'] at this
          exact this
        have hne : 0 < (ts.flatMap f).length := by rw [flat_len f sz ts (fun u _ => hlen u), hts]; exact Nat.mul_pos (by omega) hsz
        have h00 := hcell 0 _ (List.getElem?_eq_getElem hne)
        obtain ⟨b, off, spot⟩ := a
        have hspot : spot = none := by simpa [Addr.add] using World.cell?_spot h00
        subst hspot
        refine ⟨b, off, rfl, World.block_lt_of_cell? w ⟨b, off, none⟩ (by simpa [Addr.add] using h00), World.block_lt_of_cell? w ⟨b, off, none⟩ (by simpa [Addr.add] using h00), fun j u hu => ?_⟩
        rw [← add_plain]
        exact hcell j u hu

/-- A struct of one-cell fields, field by field. -/
theorem open_fields {e : TypeId} {fs : Array Field} {n : Nat} {cs : List Value} {y : DataW H × List MemPlace} (he : P.underlying e = some (.struct fs)) (hone : oneCellFields P fs = true) (hC : P.cellsOf e = fs.size)
    (h : DataW.trod enc P w base spare held n e cs = some y) : cs.length = fs.size ∧ ∀ (j : Nat) (f : Field), fs[j]? = some f → ∃ m y', DataW.trod enc P w base spare held m f.type [cs.getD j undef] = some y' := by
  obtain ⟨xs, m, _, _, hl, hxl, hf⟩ := DataW.trod_struct he h
  refine ⟨hl.trans hC, fun j f hj => ?_⟩
  have hjl : j < fs.size := (Array.getElem?_eq_some_iff.1 hj).1
  obtain ⟨ho, hk⟩ := hone_of hone j f hj
  have h1 := hf j f hj
  rw [ho, hk, take1_drop cs j undef (by rw [hl, hC]; exact hjl), List.getElem?_eq_getElem (by omega)] at h1
  exact ⟨m, _, h1⟩

theorem open_u8 {t : TypeId} {n : Nat} {cs : List Value} {y : DataW H × List MemPlace} (ht : P.underlying t = some (.int .u8)) (h : DataW.trod enc P w base spare held n t cs = some y) : ∃ c : UInt8, cs = [.int .u8 (c.toNat : Int)] ∧ True := by
  obtain ⟨z, rfl, _, hw⟩ := DataW.trod_int ht h
  have hb := bounds_u8 hw
  refine ⟨UInt8.ofNat z.toNat, ?_, trivial⟩
  have : ((UInt8.ofNat z.toNat).toNat : Int) = z := by
    rw [UInt8.toNat_ofNat_of_lt' (by show z.toNat < 256; omega)]; omega
  rw [this]
theorem open_u64 {t : TypeId} {n : Nat} {cs : List Value} {y : DataW H × List MemPlace} (ht : P.underlying t = some (.int .u64)) (h : DataW.trod enc P w base spare held n t cs = some y) : ∃ c : Nat, cs = [.int .u64 (c : Int)] ∧ c < 18446744073709551616 := by
  obtain ⟨z, rfl, _, hw⟩ := DataW.trod_int ht h
  have hb := bounds_u64 hw
  refine ⟨z.toNat, ?_, by omega⟩
  rw [show ((z.toNat : Nat) : Int) = z by omega]
theorem open_i64 {t : TypeId} {n : Nat} {cs : List Value} {y : DataW H × List MemPlace} (ht : P.underlying t = some (.int .i64)) (h : DataW.trod enc P w base spare held n t cs = some y) : ∃ z : Int, cs = [.int .i64 z] ∧ -9223372036854775808 ≤ z ∧ z ≤ 9223372036854775807 := by
  obtain ⟨z, rfl, _, hw⟩ := DataW.trod_int ht h
  exact ⟨z, rfl, bounds_i64 hw⟩
theorem flat_one {α : Type} (g : α → Value) : ∀ l : List α, l.flatMap (fun c => [g c]) = l.map g
  | [] => rfl
  | c :: l => by rw [List.flatMap_cons, flat_one g l]; rfl
end
end Go.Proofs.YtbdimfcdpkldpaaGreatDoor

namespace Go.Proofs.YtbdimfcdpkldpaaGreatDoor
open Go.RowKit

theorem below_alloc1 (w : World) (a : Obj) : Below w.heap.size w (w.alloc a) := (Below.refl _ _).alloc (Nat.le_refl _) a
theorem below_alloc2 (w : World) (a b : Obj) : Below w.heap.size w ((w.alloc a).alloc b) := (below_alloc1 w a).alloc (by simp) b
theorem below_pre {w w1 w2 : World} (h : Below w.heap.size w w1) (k : Below w1.heap.size w1 w2) : Below w.heap.size w w2 := h.trans (k.mono h.size)
theorem Below.drewN' {B : Nat} {w w' : World} (h : Below B w w') (n : Nat) : Below B w (w'.drewN n) := ⟨h.os, h.tape, h.output, h.size, h.block⟩
/-- Behind a call that makes memory alone, what was there reads as it did. -/
theorem old_cells {W w1 : World} (hb : Below W.heap.size W w1) : (∀ b o, b < W.heap.size → w1.cell? ⟨b, o, none⟩ = W.cell? ⟨b, o, none⟩) ∧ (∀ b o, b < W.heap.size → w1.frozen? ⟨b, o, none⟩ = W.frozen? ⟨b, o, none⟩) :=
  ⟨fun b o h => hb.cell (p := ⟨b, o, none⟩) h, fun b o h => hb.frozen (p := ⟨b, o, none⟩) h⟩
theorem info_parts {P : Program} {e : TypeId} {z : Value} {s b : Nat} (h : (P.info? e).map (fun i => (i.zero, i.size, i.bytes)) = some (some z, s, b)) : ∃ i, P.info? e = some i ∧ i.zero = some z ∧ i.size = s ∧ i.bytes = b := by
  cases hq : P.info? e with
  | none => simp [hq] at h
  | some i =>
    simp [hq] at h
    exact ⟨i, rfl, h.1, h.2.1, h.2.2⟩
theorem cell_one_new (w : World) (u : Value) (t : TypeId) : ∀ j v, [u][j]? = some v → (w.alloc (.cells #[u] t)).cell? ((⟨w.heap.size, 0, none⟩ : Addr).add j) = some v := by
  intro j v h
  match j, h with
  | 0, h =>
    simp at h
    subst h
    exact cell_of_row _ _ 0 _ _ _ (heap_alloc_new w _)
theorem cell_setRow (w : World) (r c i : Nat) (cs : Array Value) (h : c ≠ r) : (w.setRow r cs).cell? ⟨c, i, none⟩ = w.cell? ⟨c, i, none⟩ := World.cell?_of_block (a := ⟨c, i, none⟩) (setRow_other w r c cs h)
theorem foot_setRow (w : World) (r : Nat) (cs : Array Value) : Foot (fun k => k = r) w (w.setRow r cs) := ⟨rfl, rfl, rfl, by simp [World.setRow], fun k _ hn => setRow_other w r k cs hn⟩
theorem two_new (w : World) (o : Obj) (t : TypeId) (cs : Array Value) : Blk ((w.alloc o).alloc (.cells cs t)) (w.heap.size + 1) t cs := by
  have := Blk.new (w.alloc o) t cs
  rwa [show (w.alloc o).heap.size = w.heap.size + 1 by simp] at this
theorem Blk.row {w : World} {g : Nat} {t : TypeId} {cs : Array Value} (h : Blk w g t cs) (c' : Array Value) : Blk (w.setRow g c') g t c' := setRow_heap w g _ _ _ (0, 0) h

section
variable {P : Program}
/-- A new variable of a type of many cells. -/
theorem wpList_alloc_agg {ops : Array Oper} {rest : List Oper} {o : Oper} {a : Act} {w : World} {Q : Exit → Act → World → Prop} (hg : o.guard = none) (t : TypeId) (ho : o.op = .alloc t)
    (cells : Array Value) (hz : ∀ w, (zeroValue t).run P w = .ok (.agg cells) w)
    (h : wpList P ops Q rest (a.put o.dst (.pointer (some ⟨w.heap.size, 0, none⟩))) (w.alloc (.cells cells t))) : wpList P ops Q (o :: rest) a w := by
  refine wpList_plain hg fun K hK => ?_
  unfold Oper.wp execOp
  simp only [ho, Sem.run_bind, Instr.alloc, hz, newVar, newRow, run_newObj_alloc, Sem.run_pure, Result.andThen_ok, Value.cells]
  exact hK _ _ h
/-- A whole struct or array out of a block, by an operation that is guarded and wanted. -/
theorem wpList_load_row_g {ops : Array Oper} {rest : List Oper} {o : Oper} {a : Act} {w : World} {Q : Exit → Act → World → Prop} (hgd : Region.wanted o (yielded ops a.tmps) = true) (ty : TypeId) (x : Operand) (ho : o.op = .load ty x)
    (g : Nat) (hx : a.eval x = .pointer (some ⟨g, 0, none⟩)) (t : TypeId) (cs : Array Value) (fr : Nat × Nat) (d : TypeDesc) (hg : w.heap[g]? = some (.cells cs t fr))
    (hu : P.underlying ty = some d) (hd : (match d with | .struct _ | .array _ _ => true | _ => false) = true) (hi : (P.info? ty).map (·.size) = some cs.size)
    (h : wpList P ops Q rest (a.put o.dst (.agg cs)) w) : wpList P ops Q (o :: rest) a w :=
  wpList_step fun _ hK => by rw [if_pos hgd]; exact wp_load_row ty x ho g hx t cs fr d hg hu hd hi (hK _ _ h)
/-- Two results, the first a struct in a cell of its own. -/
theorem results_row_tmp {fn : Func} {p u : Tmp} {ty : TypeId} (h : fn.results = #[.cell p ty, .tmp u]) (tmps : Array Value) (w : World) (g : Nat) (t : TypeId) (cs : Array Value) (fr : Nat × Nat) (d : TypeDesc)
    (hp : tmps.getD p undef = .pointer (some ⟨g, 0, none⟩)) (hg : w.heap[g]? = some (.cells cs t fr))
    (hu : P.underlying ty = some d) (hd : (match d with | .struct _ | .array _ _ => true | _ => false) = true) (hi : (P.info? ty).map (·.size) = some cs.size) :
    (results fn tmps).run P w = .ok (.tuple #[.agg cs, tmps.getD u undef]) w := by
  rw [results_cell_tmp h]
  simp only [hp, asAddr, Sem.run_pure, Result.andThen_ok, run_loadVar_row w g t ty cs fr d hg hu hd hi]
/-- The load and the store of a whole row as a step of a region that draws its order (wip/tools/orders.py writes such a walk). -/
theorem step_load_row {ops : Array Oper} {o : Oper} {a : Act} {w : World} {K : Act → World → Prop} {Q : Exit → Act → World → Prop} {E : Prop} (hgd : o.guard = none) (ty : TypeId) (x : Operand) (ho : o.op = .load ty x)
    (g : Nat) (hx : a.eval x = .pointer (some ⟨g, 0, none⟩)) (t : TypeId) (cs : Array Value) (fr : Nat × Nat) (d : TypeDesc) (hg : w.heap[g]? = some (.cells cs t fr))
    (hu : P.underlying ty = some d) (hd : (match d with | .struct _ | .array _ _ => true | _ => false) = true) (hi : (P.info? ty).map (·.size) = some cs.size)
    (h : K (a.put o.dst (.agg cs)) w) : if Region.wanted o (yielded ops a.tmps) = true then Oper.wp P o a w K Q else E := by
  rw [if_pos (by simp [Region.wanted, hgd])]
  exact wp_load_row ty x ho g hx t cs fr d hg hu hd hi h
theorem step_store_row {ops : Array Oper} {o : Oper} {a : Act} {w : World} {K : Act → World → Prop} {Q : Exit → Act → World → Prop} {E : Prop} (hgd : o.guard = none) (ty : TypeId) (x y : Operand) (ho : o.op = .store ty x y)
    (g : Nat) (cells : Array Value) (hx : a.eval x = .pointer (some ⟨g, 0, none⟩)) (hy : a.eval y = .agg cells)
    (t : TypeId) (old : Array Value) (hg : w.heap[g]? = some (.cells old t (0, 0))) (hi : (P.info? ty).map (·.size) = some cells.size)
    (hold : old.size = cells.size) (h1 : cells.all (·.oneCell') = true)
    (h : K (a.put o.dst undef) (w.setRow g cells)) : if Region.wanted o (yielded ops a.tmps) = true then Oper.wp P o a w K Q else E := by
  rw [if_pos (by simp [Region.wanted, hgd])]
  exact wp_store_row ty x y ho g cells hx hy t old hg hi hold h1 h
end
end Go.Proofs.YtbdimfcdpkldpaaGreatDoor

namespace Go.Proofs.YtbdimfcdpkldpaaGreatDoor
open Go.RowKit

theorem lits_cells (W : World) (us : Array Value) (t : TypeId) : ∀ j v, us.toList[j]? = some v → (W.alloc (.cells us t)).cell? ((⟨W.heap.size, 0, none⟩ : Addr).add j) = some v := by
  intro j v h
  have e : (⟨W.heap.size, 0, none⟩ : Addr).add j = ⟨W.heap.size, j, none⟩ := by unfold Addr.add; split <;> simp_all
  rw [e, cell_of_row _ _ j _ _ _ (heap_alloc_new W _)]
  simpa using h

/-- A store of a whole struct into the second of two variables that were just made. -/
theorem setRow_two (w : World) (o : Obj) (old cs : Array Value) (t : TypeId) : ((w.alloc o).alloc (.cells old t)).setRow (w.heap.size + 1) cs = (w.alloc o).alloc (.cells cs t) := by
  rw [show w.heap.size + 1 = (w.alloc o).heap.size by simp, World.setRow_alloc_new]

section
variable {P : Program}
/-- append(l, u, ..): elements of one cell that stand in the text, onto a row of one's own. -/
theorem wpList_append_lits {ops : Array Oper} {rest : List Oper} {o : Oper} {a : Act} {W : World} {Q : Exit → Act → World → Prop} {us : Array Value} {t' : TypeId} (hgd : o.guard = none) (s x : Operand) (t : TypeId)
    (ho : o.op = .call { callee := .builtin .append, args := #[s, x], argTypes := #[t, t] })
    (B : Nat) (e : TypeId) (i : TypeInfo) (z : Value) (bytes : Nat) (ht : P.underlying t = some (.slice e)) (hi : P.info? e = some i) (hz : i.zero = some z)
    (hsize : i.size = 1) (hby : i.bytes = bytes) (hzs : z.cells.size = 1) (hbb : bytes ≤ 1000) {v : Value} {n : Nat} {xs : List Value} (hown : W.ownsRow B e 1 v n xs) (hs : a.eval s = v)
    (m : Nat) (hx : a.eval x = .slice (some ⟨W.heap.size, 0, none⟩) m m) (hm : us.size = m) (h1 : us.toList.all (fun u => u.oneCell') = true) (hn : n + m ≤ 2000000) (hB : B ≤ W.heap.size)
    (h : ∀ v' w', w'.ownsRow B e 1 v' (n + m) (xs ++ us.toList) → Below B W w' → (v'.ownBlock = v.ownBlock ∨ ∀ k, v'.ownBlock = some k → W.heap.size ≤ k) → Foot (fun k => v.ownBlock = some k) W w' → wpList P ops Q rest (a.put o.dst v') w') :
    wpList P ops Q (o :: rest) a (W.alloc (.cells us t')) := by
  have hbytes : (n + m) * bytes ≤ 140737488355328 := by
    have h1 := Nat.mul_le_mul hn hbb
    omega
  have hown1 := hown.alloc (.cells us t')
  have hr : RV (W.alloc (.cells us t')) (fun k => k = W.heap.size) (.slice (some ⟨W.heap.size, 0, none⟩) m m) m 1 us.toList := by
    refine ⟨_, _, rfl, Nat.le_refl _, by unfold maxLen; omega, (fun e => by cases e), by simp [hm], .inr ⟨_, 0, rfl, by simp, rfl, fun j u hu => ?_⟩⟩
    rw [Nat.zero_add]
    rw [cell_of_row _ _ j _ _ _ (heap_alloc_new W _)]
    simpa using hu
  refine wpList_append_rv _ hgd s x t ho B e i z 1 bytes ht hi hz hsize hby hzs (by decide) v n xs hs hown1 _ _ m us.toList hx hr (fun u hu => by simpa using List.all_eq_true.1 h1 u hu) (by unfold maxLen; omega) hbytes (by simp; omega) fun v' w' h2 h3 h4 => ?_
  refine h v' w' h2 ?_ ?_ ?_
  · exact ((Below.refl B W).alloc hB _).grown h3 (by simp; omega) (fun j hj => (hown1.lt j hj).1)
  · rcases h4 with h4 | h4
    · exact .inl h4
    · refine .inr fun k hk => ?_
      rw [h4] at hk
      simp at hk
      omega
  · exact ((Foot.refl _ W).alloc _).then_ (Foot.of_grown h3) (fun k hk => .inl hk)
/-- A new variable that holds a struct or an array whose cells are known as a whole. -/
theorem wpList_box_agg {ops : Array Oper} {rest : List Oper} {o : Oper} {a : Act} {w : World} {Q : Exit → Act → World → Prop} (hg : o.guard = none) (t : TypeId) (x : Operand) (ho : o.op = .box t x)
    (cells : Array Value) (hx : a.eval x = .agg cells)
    (h : wpList P ops Q rest (a.put o.dst (.pointer (some ⟨w.heap.size, 0, none⟩))) (w.alloc (.cells cells t))) : wpList P ops Q (o :: rest) a w := by
  refine wpList_plain hg fun K hK => ?_
  unfold Oper.wp execOp
  simp only [ho, hx, Value.cells, Sem.run_bind, Instr.box, newVar, newRow, run_newObj_alloc, Sem.run_pure, Result.andThen_ok]
  exact hK _ _ h
/-- An alloc of a type of many cells as a step of a region that draws its order. -/
theorem step_alloc_agg {ops : Array Oper} {o : Oper} {a : Act} {w : World} {K : Act → World → Prop} {Q : Exit → Act → World → Prop} {E : Prop} (hgd : o.guard = none) (t : TypeId) (ho : o.op = .alloc t)
    (cells : Array Value) (hz : ∀ w, (zeroValue t).run P w = .ok (.agg cells) w)
    (h : K (a.put o.dst (.pointer (some ⟨w.heap.size, 0, none⟩))) (w.alloc (.cells cells t))) : if Region.wanted o (yielded ops a.tmps) = true then Oper.wp P o a w K Q else E := by
  rw [if_pos (by simp [Region.wanted, hgd])]
  unfold Oper.wp execOp
  simp only [ho, Sem.run_bind, Instr.alloc, hz, newVar, newRow, run_newObj_alloc, Sem.run_pure, Result.andThen_ok, Value.cells]
  exact h
/-- A whole struct read in every world that meets S. -/
theorem yields_row {ops : Array Oper} {S : World → Prop} {o : Oper} {a : Act} (hgd : Region.wanted o (yielded ops a.tmps) = true) (ty : TypeId) (x : Operand) (ho : o.op = .load ty x)
    (g : Nat) (hx : a.eval x = .pointer (some ⟨g, 0, none⟩)) (t : TypeId) (cs : Array Value) (fr : Nat × Nat) (d : TypeDesc) (hg : ∀ w, S w → w.heap[g]? = some (.cells cs t fr))
    (hu : P.underlying ty = some d) (hd : (match d with | .struct _ | .array _ _ => true | _ => false) = true) (hi : (P.info? ty).map (·.size) = some cs.size) : YieldsIf P ops S o (.agg cs) a := by
  refine .inl ⟨hgd, fun w hS => ?_⟩
  unfold execOp
  simp only [ho, hx, Instr.loadAt, Instr.sureAddr, Sem.run_bind, Sem.run_pure, Result.andThen_ok, run_loadVar_row w g t ty cs fr d (hg w hS) hu hd hi]
end
end Go.Proofs.YtbdimfcdpkldpaaGreatDoor
