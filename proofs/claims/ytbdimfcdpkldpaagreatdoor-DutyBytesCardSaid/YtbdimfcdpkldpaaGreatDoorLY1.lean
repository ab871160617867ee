/- Slices of starts and of programs that read, and a duty as a value; no number of a function of the program. A row of rows of one's own: a duty's programs while they are put together; without a number of a function of the program. An append of an instruction onto a program of one's own, and where it lies. -/
import Derived.Test.YtbdimfcdpkldpaaGreatDoorH0
import Derived.Test.YtbdimfcdpkldpaaGreatDoorLYM
import Derived.Lib.SmallJoins
namespace Go.Proofs.YtbdimfcdpkldpaaGreatDoor
open Go.RowKit

def stCells (s : St) : List Value := [.int .i64 s.prog, .int .i64 s.grade, .int .u64 (s.mask : Int)]
theorem stCells_len (s : St) : (stCells s).length = 3 := rfl
/-- v is a slice that reads as the starts ss. -/
def RSs (w : World) (G : Nat → Prop) (v : Value) (ss : List St) : Prop := RV w G v ss.length 3 (ss.flatMap stCells)
/-- v is a slice that reads as the programs pss. -/
def RPP (w : World) (G : Nat → Prop) (v : Value) (pss : List (List Deed)) : Prop :=
  ∃ vs : List Value, vs.length = pss.length ∧ RV w G v pss.length 1 vs ∧ ∀ (k : Nat) (u : Value) (ps : List Deed), vs[k]? = some u → pss[k]? = some ps → RP w G u ps
section
variable {w w' : World} {G S : Nat → Prop} {v : Value}
theorem RSs.later {ss : List St} (h : RSs w G v ss) (hb : Below w.heap.size w w') : RSs w' G v ss := RV.below h hb (fun _ hk _ => hk)
theorem RSs.foot {ss : List St} (h : RSs w G v ss) (hf : Foot S w w') (hd : ∀ k, G k → ¬ S k) : RSs w' G v ss := RV.foot h hf hd
theorem RSs.shape {ss : List St} (h : RSs w G v ss) : ∃ p c, v = .slice p ss.length c ∧ ss.length ≤ c ∧ c ≤ maxLen := by
  unfold RSs at h
  obtain ⟨p, c, hv, h1, h2, _⟩ := h
  exact ⟨p, c, hv, h1, h2⟩
theorem RSs.at {ss : List St} {p : Option Addr} {n c : Nat} (h : RSs w G (.slice p n c) ss) {k : Nat} {s : St} (hs : ss[k]? = some s) :
    ∃ b off, p = some ⟨b, off, none⟩ ∧ b < w.heap.size ∧ G b ∧ w.rangeAt b (off + k * 3) (stCells s) ∧ w.cell? ⟨b, off + k * 3, none⟩ = some (.int .i64 s.prog) ∧ w.cell? ⟨b, off + k * 3 + 1, none⟩ = some (.int .i64 s.grade) ∧ w.cell? ⟨b, off + k * 3 + 2, none⟩ = some (.int .u64 (s.mask : Int)) := by
  obtain ⟨b, off, c', hv, hb, hG, hc⟩ := RV.elem (f := stCells) h (by decide) (fun t _ => stCells_len t) k s hs
  cases hv
  exact ⟨b, off, rfl, hb, hG, hc, hc 0 _ rfl, hc 1 _ rfl, hc 2 _ rfl⟩
theorem RPP.later {pss : List (List Deed)} (h : RPP w G v pss) (hb : Below w.heap.size w w') : RPP w' G v pss := by
  obtain ⟨vs, hl, hr, he⟩ := h
  exact ⟨vs, hl, RV.below hr hb (fun _ hk _ => hk), fun k u ps hu hp => (he k u ps hu hp).later hb⟩
theorem RPP.foot {pss : List (List Deed)} (h : RPP w G v pss) (hf : Foot S w w') (hd : ∀ k, G k → ¬ S k) : RPP w' G v pss := by
  obtain ⟨vs, hl, hr, he⟩ := h
  exact ⟨vs, hl, RV.foot hr hf hd, fun k u ps hu hp => (he k u ps hu hp).foot hf hd⟩
theorem RPP.shape {pss : List (List Deed)} (h : RPP w G v pss) : ∃ p c, v = .slice p pss.length c ∧ pss.length ≤ c ∧ c ≤ maxLen := by
  obtain ⟨vs, hl, ⟨p, c, hv, h1, h2, _⟩, he⟩ := h
  exact ⟨p, c, hv, h1, h2⟩
theorem RPP.at {pss : List (List Deed)} {p : Option Addr} {n c : Nat} (h : RPP w G (.slice p n c) pss) {k : Nat} {ps : List Deed} (hp : pss[k]? = some ps) :
    ∃ b off q cq, p = some ⟨b, off, none⟩ ∧ b < w.heap.size ∧ G b ∧ w.cell? ⟨b, off + k, none⟩ = some (.slice q ps.length cq) ∧ RP w G (.slice q ps.length cq) ps := by
  obtain ⟨vs, hl, hr, he⟩ := h
  have hk : k < vs.length := by rw [hl]; exact (List.getElem?_eq_some_iff.1 hp).1
  obtain ⟨u, hu⟩ : ∃ u, vs[k]? = some u := ⟨_, List.getElem?_eq_getElem hk⟩
  have hrp := he k u ps hu hp
  have hr2 : RV w G (.slice p n c) vs.length 1 (vs.flatMap fun x => [x]) := by
    rw [flat_one (fun x => x), List.map_id', hl]
    exact hr
  obtain ⟨b, off, c', hv, hb, hG, hc⟩ := RV.elem (f := fun x => [x]) hr2 (by decide) (fun t _ => rfl) k u hu
  cases hv
  obtain ⟨q, cq, rfl, _, _⟩ := hrp.shape
  have := hc 0 _ rfl
  rw [Nat.mul_one, Nat.add_zero] at this
  exact ⟨b, off, q, cq, rfl, hb, hG, this, hrp⟩
theorem RPP.grow {G' : Nat → Prop} {pss : List (List Deed)} (h : RPP w G v pss) (hg : ∀ k, G k → G' k) : RPP w G' v pss := by
  obtain ⟨vs, hl, hr, he⟩ := h
  refine ⟨vs, hl, ?_, fun k u ps hu hp => ?_⟩
  · obtain ⟨p, c, hv, h1, h2, h3, h4, h5⟩ := hr
    exact ⟨p, c, hv, h1, h2, h3, h4, h5.imp id fun ⟨b, off, e1, e2, e3, e4⟩ => ⟨b, off, e1, e2, hg b e3, e4⟩⟩
  · obtain ⟨p, c, hv, h1, h2, h3, h4, h5⟩ := he k u ps hu hp
    exact ⟨p, c, hv, h1, h2, h3, h4, h5.imp id fun ⟨b, off, e1, e2, e3, e4⟩ => ⟨b, off, e1, e2, hg b e3, e4⟩⟩
theorem RSs.grow {G' : Nat → Prop} {ss : List St} (h : RSs w G v ss) (hg : ∀ k, G k → G' k) : RSs w G' v ss := by
  obtain ⟨p, c, hv, h1, h2, h3, h4, h5⟩ := h
  exact ⟨p, c, hv, h1, h2, h3, h4, h5.imp id fun ⟨b, off, e1, e2, e3, e4⟩ => ⟨b, off, e1, e2, hg b e3, e4⟩⟩
theorem RPP.nil (w : World) (G : Nat → Prop) : RPP w G (.slice none 0 0) [] := ⟨[], rfl, RV.nil w G 1, fun k u ps hu _ => by simp at hu⟩
theorem RSs.nil (w : World) (G : Nat → Prop) : RSs w G (.slice none 0 0) [] := RV.nil w G 3
end

/-- A duty's cells, its two slices left open. -/
def Dut.cells (d : Dut) (vp vs : Value) : Array Value := #[.int .i64 d.cpus, .int .i64 d.threads, .int .i64 d.locks, .int .i64 d.cap, .int .u64 (d.boost : Int), .float .f64 d.keep, .float .f64 d.ratio, vp, vs]
/-- Its two slices read as its programs and its starts. -/
structure DV (w : World) (G : Nat → Prop) (vp vs : Value) (d : Dut) : Prop where
  progs : RPP w G vp d.progs
  starts : RSs w G vs d.starts
theorem DV.later {w w' : World} {G : Nat → Prop} {vp vs : Value} {d : Dut} (h : DV w G vp vs d) (hb : Below w.heap.size w w') : DV w' G vp vs d := ⟨h.progs.later hb, h.starts.later hb⟩
theorem DV.foot {w w' : World} {G S : Nat → Prop} {vp vs : Value} {d : Dut} (h : DV w G vp vs d) (hf : Foot S w w') (hd : ∀ k, G k → ¬ S k) : DV w' G vp vs d := ⟨h.progs.foot hf hd, h.starts.foot hf hd⟩
theorem DV.grow {w : World} {G G' : Nat → Prop} {vp vs : Value} {d : Dut} (h : DV w G vp vs d) (hg : ∀ k, G k → G' k) : DV w G' vp vs d := ⟨h.progs.grow hg, h.starts.grow hg⟩
end Go.Proofs.YtbdimfcdpkldpaaGreatDoor

namespace Go.Proofs.YtbdimfcdpkldpaaGreatDoor
open Go.RowKit

/-- No two of the values lie in one block. -/
def ApartV (us : List Value) : Prop := ∀ (i j : Nat) (u u' : Value), i ≠ j → us[i]? = some u → us[j]? = some u' → ∀ k, u.ownBlock = some k → ¬ u'.ownBlock = some k
/-- v is a row of one's own of rows of one's own that read as the programs pss; tS, tD: the types of a program and of an instruction. -/
def OPP (tS tD : TypeId) (w : World) (B : Nat) (v : Value) (pss : List (List Deed)) : Prop :=
  ∃ us : List Value, us.length = pss.length ∧ w.ownsRow B tS 1 v pss.length us ∧ (∀ (k : Nat) (u : Value) (ps : List Deed), us[k]? = some u → pss[k]? = some ps → w.ownsRow B tD 7 u ps.length (ps.flatMap dCells)) ∧ ApartV us
section
variable {tS tD : TypeId} {w w' : World} {B : Nat} {v : Value} {pss : List (List Deed)}
theorem OPP.nil (w : World) (B : Nat) : OPP tS tD w B (.slice none 0 0) [] := ⟨[], rfl, World.ownsRow_nil w B tS 1, fun k u ps h _ => by simp at h, fun i j u u' _ h => by simp at h⟩
theorem OPP.foot {S : Nat → Prop} (h : OPP tS tD w B v pss) (hf : Foot S w w') (hd : ∀ k, B ≤ k → k < w.heap.size → ¬ S k) : OPP tS tD w' B v pss := by
  obtain ⟨us, hl, ho, he, ha⟩ := h
  exact ⟨us, hl, hf.own ho (fun k hk => hd k (ho.lt k hk).1 (ho.lt k hk).2), fun k u ps hu hp => hf.own (he k u ps hu hp) (fun j hj => hd j ((he k u ps hu hp).lt j hj).1 ((he k u ps hu hp).lt j hj).2), ha⟩
theorem OPP.below (h : OPP tS tD w B v pss) (hb : Below w.heap.size w w') : OPP tS tD w' B v pss :=
  h.foot (Foot.of_below (fun _ => False) hb) fun _ _ _ hk => hk
theorem OPP.reads (h : OPP tS tD w B v pss) : RPP w (fun k => B ≤ k) v pss := by
  obtain ⟨us, hl, ho, he, _⟩ := h
  refine ⟨us, hl, (RV.of_own ho).mono fun k _ hk => (ho.lt k hk).1, fun k u ps hu hp => ?_⟩
  exact (RV.of_own (he k u ps hu hp)).mono fun j _ hj => ((he k u ps hu hp).lt j hj).1
theorem OPP.mono {B' : Nat} (h : OPP tS tD w B v pss) (hB : B' ≤ B) : OPP tS tD w B' v pss := by
  obtain ⟨us, hl, ho, he, ha⟩ := h
  exact ⟨us, hl, own_mono ho hB, fun k u ps hu hp => own_mono (he k u ps hu hp) hB, ha⟩
/-- The outer row, for an append. -/
theorem OPP.outer (h : OPP tS tD w B v pss) (hne : tS ≠ tD) : ∃ us : List Value, us.length = pss.length ∧ w.ownsRow B tS 1 v pss.length us ∧
    ∀ (v' u' : Value) (ps : List Deed) (w1 : World), w1.ownsRow B tS 1 v' (pss.length + 1) (us ++ [u']) → Foot (fun k => v.ownBlock = some k) w w1 → w1.ownsRow B tD 7 u' ps.length (ps.flatMap dCells) →
      (∀ k, u'.ownBlock = some k → w.heap.size ≤ k) → OPP tS tD w1 B v' (pss ++ [ps]) := by
  obtain ⟨us, hl, ho, he, ha⟩ := h
  refine ⟨us, hl, ho, fun v' u' ps w1 ho1 hf hu1 hnew => ⟨us ++ [u'], by simp [hl], by simpa using ho1, fun k u p hu hp => ?_, fun i j a b hij hi hj k hk => ?_⟩⟩
  · by_cases hk : k < us.length
    · rw [List.getElem?_append_left hk] at hu
      rw [List.getElem?_append_left (by omega)] at hp
      have := he k u p hu hp
      exact hf.own this (own_apart this ho (fun e => hne e.symm))
    · rw [List.getElem?_append_right (by omega)] at hu
      rw [List.getElem?_append_right (by omega), ← hl] at hp
      have h0 : k - us.length = 0 := by
        have := (List.getElem?_eq_some_iff.1 hu).1
        simp at this
        omega
      rw [h0] at hu hp
      simp at hu hp
      subst hu hp
      exact hu1
  · have old : ∀ (i : Nat) (a : Value), us[i]? = some a → ∀ k, a.ownBlock = some k → k < w.heap.size := fun i a hi k hk => by
      obtain ⟨p, hp⟩ : ∃ p, pss[i]? = some p := ⟨_, List.getElem?_eq_getElem (by rw [← hl]; exact (List.getElem?_eq_some_iff.1 hi).1)⟩
      exact ((he i a p hi hp).lt k hk).2
    have last : ∀ (i : Nat) (a : Value), (us ++ [u'])[i]? = some a → (i < us.length ∧ us[i]? = some a) ∨ (i = us.length ∧ a = u') := fun i a hi => by
      by_cases hlt : i < us.length
      · rw [List.getElem?_append_left hlt] at hi
        exact .inl ⟨hlt, hi⟩
      · rw [List.getElem?_append_right (by omega)] at hi
        have h0 : i - us.length = 0 := by
          have := (List.getElem?_eq_some_iff.1 hi).1
          simp at this
          omega
        rw [h0] at hi
        simp at hi
        exact .inr ⟨by omega, hi.symm⟩
    intro hk'
    rcases last i a hi with ⟨_, hi2⟩ | ⟨hi2, ea⟩
    · rcases last j b hj with ⟨_, hj2⟩ | ⟨hj2, eb⟩
      · exact ha i j a b hij hi2 hj2 k hk hk'
      · rw [eb] at hk'
        have := hnew k hk'
        have := old i a hi2 k hk
        omega
    · rcases last j b hj with ⟨_, hj2⟩ | ⟨hj2, eb⟩
      · rw [ea] at hk
        have := hnew k hk
        have := old j b hj2 k hk'
        omega
      · omega
/-- The last program, for an append to it. -/
theorem OPP.last {qs : List (List Deed)} {p : List Deed} (h : OPP tS tD w B v (qs ++ [p])) (hne : tS ≠ tD) : ∃ (g cap : Nat) (u : Value), v = .slice (some ⟨g, 0, none⟩) (qs.length + 1) cap ∧ B ≤ g ∧ g < w.heap.size ∧ w.ownsRow B tD 7 u p.length (p.flatMap dCells) ∧ ¬ u.ownBlock = some g ∧
    (∀ w1, Foot (fun k => u.ownBlock = some k) w w1 → w1.cell? ⟨g, qs.length, none⟩ = some u ∧ w1.frozen? ⟨g, qs.length, none⟩ = false) ∧
    ∀ (u' : Value) (ps : List Deed) (w1 : World), w1.ownsRow B tD 7 u' ps.length (ps.flatMap dCells) → Foot (fun k => u.ownBlock = some k) w w1 → (u'.ownBlock = u.ownBlock ∨ ∀ k, u'.ownBlock = some k → w.heap.size ≤ k) →
      OPP tS tD (w1.setCell ⟨g, qs.length, none⟩ u') B v (qs ++ [ps]) := by
  obtain ⟨us, hl, ho, he, ha⟩ := h
  rw [List.length_append, List.length_singleton] at hl ho
  obtain ⟨us0, u, rfl⟩ : ∃ us0 u, us = us0 ++ [u] := ⟨us.dropLast, us.getLast (by intro e; subst e; simp at hl), (List.dropLast_concat_getLast _).symm⟩
  have hl0 : us0.length = qs.length := by simpa using hl
  obtain ⟨g, cap, rfl⟩ := Joins.ownsRow_form ho (by omega)
  have hu : w.ownsRow B tD 7 u p.length (p.flatMap dCells) := he us0.length u p (by simp) (by rw [hl0]; simp)
  have hgu : ¬ u.ownBlock = some g := fun e => own_apart hu ho (fun e => hne e.symm) g e rfl
  have hg := ho.lt g rfl
  have hout : ∀ w1, Foot (fun k => u.ownBlock = some k) w w1 → w1.ownsRow B tS 1 (.slice (some ⟨g, 0, none⟩) (qs.length + 1) cap) (qs.length + 1) (us0 ++ [u]) := fun w1 hf => hf.own ho (fun k hk e => by
    have : g = k := by simpa [Value.ownBlock] using hk
    subst this
    exact hgu e)
  refine ⟨g, cap, u, rfl, hg.1, hg.2, hu, hgu, fun w1 hf => ?_, fun u' ps w1 hu1 hf hnew => ?_⟩
  · have h1 := hout w1 hf
    refine ⟨?_, h1.frozenAt _⟩
    rw [h1.cellAt _ (by omega), ← hl0]
    simp
  · have h1 := hout w1 hf
    obtain ⟨h2, h3⟩ := h1.stored qs.length u'
    rw [show (us0 ++ [u]).set qs.length u' = us0 ++ [u'] by rw [← hl0]; simp] at h2
    have old : ∀ (i : Nat) (a : Value), us0[i]? = some a → ∃ q, qs[i]? = some q ∧ w.ownsRow B tD 7 a q.length (q.flatMap dCells) := fun i a hi => by
      have hlt := (List.getElem?_eq_some_iff.1 hi).1
      obtain ⟨q, hq⟩ : ∃ q, qs[i]? = some q := ⟨_, List.getElem?_eq_getElem (by omega)⟩
      exact ⟨q, hq, he i a q (by rw [List.getElem?_append_left hlt]; exact hi) (by rw [List.getElem?_append_left (by omega)]; exact hq)⟩
    have ha0 : ∀ (i : Nat) (a : Value), us0[i]? = some a → ∀ k, a.ownBlock = some k → ¬ u.ownBlock = some k := fun i a hi => by
      have hlt := (List.getElem?_eq_some_iff.1 hi).1
      exact ha i us0.length a u (by omega) (by rw [List.getElem?_append_left hlt]; exact hi) (by simp)
    have last : ∀ (i : Nat) (a : Value), (us0 ++ [u'])[i]? = some a → (i < us0.length ∧ us0[i]? = some a) ∨ (i = us0.length ∧ a = u') := fun i a hi => by
      by_cases hlt : i < us0.length
      · rw [List.getElem?_append_left hlt] at hi
        exact .inl ⟨hlt, hi⟩
      · rw [List.getElem?_append_right (by omega)] at hi
        have h0 : i - us0.length = 0 := by
          have := (List.getElem?_eq_some_iff.1 hi).1
          simp at this
          omega
        rw [h0] at hi
        simp at hi
        exact .inr ⟨by omega, hi.symm⟩
    have far : ∀ (i : Nat) (a : Value), us0[i]? = some a → ∀ k, a.ownBlock = some k → ¬ u'.ownBlock = some k := fun i a hi k hk hk' => by
      rcases hnew with e | hnew
      · rw [e] at hk'
        exact ha0 i a hi k hk hk'
      · obtain ⟨q, _, hq⟩ := old i a hi
        have := (hq.lt k hk).2
        have := hnew k hk'
        omega
    have inn : ∀ (a : Value) (q : List Deed), w1.ownsRow B tD 7 a q.length (q.flatMap dCells) → (w1.setCell ⟨g, qs.length, none⟩ u').ownsRow B tD 7 a q.length (q.flatMap dCells) := fun a q hq =>
      hq.kept h3 (.inr (fun e => own_apart hq h1 (fun e => hne e.symm) g e rfl))
    refine ⟨us0 ++ [u'], by simp [hl0], by rw [List.length_append, List.length_singleton]; exact h2, fun k x q hx hq => ?_, fun i j a b hij hi hj k hk hk' => ?_⟩
    · rcases last k x hx with ⟨hlt, hx⟩ | ⟨rfl, rfl⟩
      · obtain ⟨q', hq', hown⟩ := old k x hx
        rw [List.getElem?_append_left (by omega), hq'] at hq
        injection hq with hq
        subst hq
        exact inn x q' (hf.own hown (ha0 k x hx))
      · rw [hl0] at hq
        simp at hq
        subst hq
        exact inn x ps hu1
    · rcases last i a hi with ⟨hi1, hi2⟩ | ⟨hi2, ea⟩
      · rcases last j b hj with ⟨hj1, hj2⟩ | ⟨hj2, eb⟩
        · exact ha i j a b hij (by rw [List.getElem?_append_left hi1]; exact hi2) (by rw [List.getElem?_append_left hj1]; exact hj2) k hk hk'
        · rw [eb] at hk'
          exact far i a hi2 k hk hk'
      · rcases last j b hj with ⟨hj1, hj2⟩ | ⟨hj2, eb⟩
        · rw [ea] at hk
          exact far j b hj2 k hk' hk
        · omega
end
end Go.Proofs.YtbdimfcdpkldpaaGreatDoor

namespace Go.Proofs.YtbdimfcdpkldpaaGreatDoor
open Go.RowKit
section
variable {ops : Array Oper} {rest : List Oper} {o : Oper} {a : Act} {W : World} {Q : Exit → Act → World → Prop}
theorem wpList_append_deed_at (hgd : o.guard = none) (s x : Operand) (ho : o.op = .call { callee := .builtin .append, args := #[s, x], argTypes := #[45, 45] })
    (B : Nat) {v : Value} {n : Nat} {ps : List Deed} (hown : W.ownsRow B 109 7 v n (ps.flatMap dCells)) (hs : a.eval s = v) (hx : a.eval x = .slice (some ⟨W.heap.size, 0, none⟩) 1 1) (d : Deed) (t' : TypeId)
    (hn : n + 1 ≤ 100000) (hB : B ≤ W.heap.size)
    (h : ∀ v' w', w'.ownsRow B 109 7 v' (n + 1) ((ps ++ [d]).flatMap dCells) → Below B W w' → (v'.ownBlock = v.ownBlock ∨ ∀ k, v'.ownBlock = some k → W.heap.size ≤ k) → Foot (fun k => v.ownBlock = some k) W w' → wpList Tryz.prog ops Q rest (a.put o.dst v') w') :
    wpList Tryz.prog ops Q (o :: rest) a (W.alloc (.cells d.cells t')) := by
  obtain ⟨i0, hi, hz0, hz1, hz2⟩ := info_parts infoDD
  have hown1 := hown.alloc (.cells d.cells t')
  have hr : RV (W.alloc (.cells d.cells t')) (fun k => k = W.heap.size) (.slice (some ⟨W.heap.size, 0, none⟩) 1 1) 1 7 (dCells d) := by
    refine ⟨_, _, rfl, Nat.le_refl _, by unfold maxLen; omega, (fun e => by cases e), rfl, .inr ⟨_, 0, rfl, by simp, rfl, fun j u hu => ?_⟩⟩
    rw [Nat.zero_add, cell_of_row _ _ j _ _ _ (heap_alloc_new W _)]
    simpa [dCells] using hu
  refine wpList_append_rv _ hgd s x 45 ho B 109 i0 (.agg zeroD.cells) 7 56 Tryz.underlying45 hi hz0 hz1 hz2 rfl (by decide) v n (ps.flatMap dCells) hs hown1 _ _ 1 (dCells d) hx hr (fun u hu => ?_) (by unfold maxLen; omega) (by omega) (by simp; omega) fun v' w' h2 h3 h4 => ?_
  · simp [dCells, Deed.cells] at hu
    rcases hu with rfl | rfl | rfl | rfl | rfl | rfl | rfl <;> rfl
  · refine h v' w' (by rw [flat_snoc]; exact h2) ?_ ?_ ?_
    · exact ((Below.refl B W).alloc hB _).grown h3 (by simp; omega) (fun j hj => (hown1.lt j hj).1)
    · rcases h4 with h4 | h4
      · exact .inl h4
      · refine .inr fun k hk => ?_
        rw [h4] at hk
        simp at hk
        omega
    · exact ((Foot.refl _ W).alloc _).then_ (Foot.of_grown h3) (fun k hk => .inl hk)
end

/-! ### how much the statements look at -/
section
variable {w : World} {G : Nat → Prop} {v : Value}
theorem flat_take {α : Type} (f : α → List Value) (sz : Nat) (hf : ∀ x, (f x).length = sz) : ∀ (k : Nat) (l : List α), (l.flatMap f).take (k * sz) = (l.take k).flatMap f
  | 0, l => by simp
  | k + 1, [] => by simp
  | k + 1, x :: l => by
    rw [List.flatMap_cons, List.take_succ_cons, List.flatMap_cons, ← flat_take f sz hf k l, Nat.succ_mul, Nat.add_comm, ← hf x, List.take_length_add_append]
theorem RP.first {ps : List Deed} (h : RP w G v ps) (k : Nat) (hk : k ≤ ps.length) : ∃ p c, v = .slice p ps.length c ∧ ps.length ≤ c ∧ c ≤ maxLen ∧ RP w G (.slice p k c) (ps.take k) := by
  obtain ⟨p, c, hv, h1, h2, hr⟩ := RV.first h k hk
  rw [flat_take dCells 7 dCells_len] at hr
  refine ⟨p, c, hv, h1, h2, ?_⟩
  unfold RP
  rw [show (ps.take k).length = k by rw [List.length_take]; omega]
  exact hr
theorem RSs.first {ss : List St} (h : RSs w G v ss) (k : Nat) (hk : k ≤ ss.length) : ∃ p c, v = .slice p ss.length c ∧ ss.length ≤ c ∧ c ≤ maxLen ∧ RSs w G (.slice p k c) (ss.take k) := by
  obtain ⟨p, c, hv, h1, h2, hr⟩ := RV.first h k hk
  rw [flat_take stCells 3 stCells_len] at hr
  refine ⟨p, c, hv, h1, h2, ?_⟩
  unfold RSs
  rw [show (ss.take k).length = k by rw [List.length_take]; omega]
  exact hr
end
end Go.Proofs.YtbdimfcdpkldpaaGreatDoor
