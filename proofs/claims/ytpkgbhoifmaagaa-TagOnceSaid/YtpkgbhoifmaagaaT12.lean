/- What TagOnce holds from round to round. -/
import Derived.Test.YtpkgbhoifmaagaaT10
namespace Go.Proofs.Ytpkgbhoifmaagaa
open Go.RowKit

/-- The stamps behind i calls of Next, the k-th for slot s k, from the last stamp n0 on. -/
def stO (n0 : Nat) (s : Nat → Nat) : Nat → Nat → Nat
  | 0 => fun _ => 0
  | i + 1 => putF (stO n0 s i) (s i) (n0 + i + 1)
/-- The words that they gave out. -/
def glO (n0 : Nat) (s : Nat → Nat) (i : Nat) : List Nat := (List.range i).map fun k => wd (n0 + k + 1) (s k)
theorem glO_len (n0 : Nat) (s : Nat → Nat) (i : Nat) : (glO n0 s i).length = i := by simp [glO]
theorem glO_succ (n0 : Nat) (s : Nat → Nat) (i : Nat) : glO n0 s i ++ [wd (n0 + i + 1) (s i)] = glO n0 s (i + 1) := by simp [glO, List.range_succ]
theorem glO_get (n0 : Nat) (s : Nat → Nat) (i k : Nat) (h : k < i) : (glO n0 s i).getD k 0 = wd (n0 + k + 1) (s k) := by simp [glO, h]
/-- Was slot s k given a later word, among the d calls behind k? -/
def laterR (s : Nat → Nat) (k : Nat) : Nat → Bool
  | 0 => false
  | d + 1 => laterR s k d || (s (k + 1 + d) == s k)
theorem stO_succ (n0 : Nat) (s : Nat → Nat) (i j : Nat) : stO n0 s (i + 1) j = if j = s i then n0 + i + 1 else stO n0 s i j := rfl
theorem live_later (n0 : Nat) (s : Nat → Nat) (k d : Nat) : (stO n0 s (k + 1 + d) (s k) = n0 + k + 1) ↔ laterR s k d = false := by
  induction d with
  | zero => simp [stO, putF, laterR]
  | succ d ih =>
    have e : stO n0 s (k + 1 + (d + 1)) (s k) = if s k = s (k + 1 + d) then n0 + (k + 1 + d) + 1 else stO n0 s (k + 1 + d) (s k) := stO_succ n0 s (k + 1 + d) (s k)
    rw [e, laterR]
    by_cases h : s (k + 1 + d) = s k
    · rw [if_pos h.symm, h]; simp; omega
    · rw [if_neg (fun e => h e.symm), ih]
      have : (s (k + 1 + d) == s k) = false := by simpa using h
      rw [this, Bool.or_false]
theorem stO_le (n0 : Nat) (s : Nat → Nat) : ∀ i j, stO n0 s i j ≤ n0 + i
  | 0, j => by simp [stO]
  | i + 1, j => by
    have := stO_le n0 s i j
    simp only [stO, putF]
    split <;> omega
theorem live_word (n0 : Nat) (s : Nat → Nat) (k d : Nat) (hs : s k < 64) : liveN (stO n0 s (k + 1 + d)) (wd (n0 + k + 1) (s k)) = !laterR s k d ∧ (laterR s k d = false → liveK (stO n0 s (k + 1 + d)) (wd (n0 + k + 1) (s k)) = s k) := by
  have h1 : liveN (stO n0 s (k + 1 + d)) (wd (n0 + k + 1) (s k)) = !laterR s k d := by
    unfold liveN
    rw [wd_ok _ _ (by omega) hs, wd_mod _ _ (by omega) hs, Bool.true_and]
    have hl := live_later n0 s k d
    cases hr : laterR s k d with
    | false => rw [hl.2 hr]; simp
    | true =>
      have hne : stO n0 s (k + 1 + d) (s k) ≠ n0 + k + 1 := fun e => by rw [hl.1 e] at hr; cases hr
      refine decide_eq_false fun e => ?_
      by_cases h0 : stO n0 s (k + 1 + d) (s k) = 0
      · rw [h0] at e
        have h2 := wd_pos (n0 + k + 1) (s k) (by omega)
        rw [← e] at h2
        simp [wd] at h2
      · have e1 := congrArg (· / 256) e
        simp only [wd_div _ _ (Nat.pos_of_ne_zero h0) hs, wd_div (n0 + k + 1) _ (by omega) hs] at e1
        exact hne e1
  refine ⟨h1, fun hl => ?_⟩
  unfold liveK
  rw [h1, hl, Bool.not_false, if_pos (rfl : true = true), wd_mod _ _ (by omega) hs]

/-- The book at b stands at n, st; gv holds the words gl. -/
structure On (w0 w : World) (b n : Nat) (st : Nat → Nat) (gv : Value) (gl : List Nat) : Prop where
  book : BookAt w b n st
  own : w.ownsRow w0.heap.size 22 1 gv gl.length (gl.map uV)
  bel : Below w0.heap.size w0 w
  hb : w0.heap.size ≤ b
  small : ∀ x ∈ gl, x < 18446744073709551616
section
variable {w0 w w' : World} {b n : Nat} {st : Nat → Nat} {gv : Value} {gl : List Nat}
theorem On.below (h : On w0 w b n st gv gl) (k : Below w.heap.size w w') : On w0 w' b n st gv gl :=
  ⟨h.book.below k h.book.1.lt, (Foot.of_below (fun _ => False) k).own h.own (fun _ _ => id), h.bel.trans (k.mono h.bel.size), h.hb, h.small⟩
theorem On.drewN (h : On w0 w b n st gv gl) (k : Nat) : On w0 (w.drewN k) b n st gv gl := ⟨h.book, h.own, ⟨h.bel.os, h.bel.tape, h.bel.output, h.bel.size, h.bel.block⟩, h.hb, h.small⟩
theorem On.setBook {m : Nat} {s : Nat → Nat} (h : On w0 w b n st gv gl) (hat : BookAt w' b m s) (hf : Foot (fun k => k = b) w w') : On w0 w' b m s gv gl :=
  ⟨hat, hf.own h.own (fun k hk e => own_ne_blk h.own h.book.1 (by decide) (by rw [hk, e])), h.bel.trans (hf.below h.bel.size (fun k hk => by rw [hk]; exact h.hb)), h.hb, h.small⟩
theorem On.app {v' : Value} {x : Nat} (h : On w0 w b n st gv gl) (hx : x < 18446744073709551616) (ho : w'.ownsRow w0.heap.size 22 1 v' (gl.length + 1) (gl.map uV ++ [.int .u64 (x : Int)])) (hg : w.grownBy w' gv.ownBlock) : On w0 w' b n st v' (gl ++ [x]) := by
  have hf := Foot.of_grown hg
  refine ⟨⟨h.book.1.foot hf (own_ne_blk h.own h.book.1 (by decide)), h.book.2⟩, ?_, ?_, h.hb, ?_⟩
  · rw [List.length_append, List.map_append]; exact ho
  · refine h.bel.trans (hf.below h.bel.size fun k hk => ?_)
    rcases h.own.2 with ⟨e, _⟩ | ⟨g, cap, cur, e, hb, _⟩
    · rw [e] at hk; cases hk
    · rw [e] at hk
      have : g = k := by simpa [Value.ownBlock] using hk
      omega
  · intro y hy
    rcases List.mem_append.1 hy with hy | hy
    · exact h.small y hy
    · simp at hy; omega
theorem On.word {p : Option Addr} {m c : Nat} (h : On w0 w b n st (.slice p m c) gl) (k : Nat) (hk : k < gl.length) : ∃ bl off, p = some ⟨bl, off, none⟩ ∧ w.cell? ⟨bl, off + k, none⟩ = some (.int .u64 ((gl.getD k 0 : Nat) : Int)) ∧ gl.getD k 0 < 18446744073709551616 := by
  obtain ⟨p', c', hv, _, _, _, _, hc⟩ := RV.of_own h.own
  obtain ⟨bl, off, hp, _, _, hc⟩ := hc.resolve_left (by omega)
  injection hv with hv
  refine ⟨bl, off, by rw [hv, hp], hc k _ (getD_map uV gl 0 k hk), h.small _ ?_⟩
  rw [List.getD_eq_getElem?_getD, List.getElem?_eq_getElem hk]
  exact List.getElem_mem hk
end
theorem Hd_drewN (w : World) (n : Nat) : (w.drewN n).heap = w.heap := rfl
end Go.Proofs.Ytpkgbhoifmaagaa
