/- The contract of an operand's text; the frame of a builder's writes. -/
import Derived.Test.YtbjmdcjoaapmiaaDoorD12
import Derived.Test.YtbjmdcjoaapmiaaDoorShelf
namespace Go.Proofs.YtbjmdcjoaapmiaaDoor
open Go.RowKit

theorem dec_len : ∀ k u, u < 10 ^ (k + 1) → (Lib.decDigits u).length ≤ k + 1
  | k, u, h => by
    by_cases h1 : u < 10
    · rw [Lib.decDigits_one h1]; simp
    · cases k with
      | zero => omega
      | succ k =>
        rw [decDigits_big h1, List.length_append]
        have := dec_len k (u / 10) (by rw [Nat.pow_succ] at h; omega)
        simp; omega
/-- What an operand adds to a line. -/
def textN (o x : Nat) : List UInt8 := if o = 5 then 32 :: hexN 16 x else if o = 6 then (if x = 1 then 32 :: looseL else []) else 32 :: Lib.decDigits x
theorem textN_len (o x : Nat) (hx : x < 18446744073709551616) : (textN o x).length ≤ 21 := by
  have := dec_len 19 x (by omega)
  have h2 := hexN_len 16 x
  unfold textN looseL
  split
  · simp [h2]
  · split
    · split <;> simp
    · simp; omega

set_option maxHeartbeats 1000000 in
theorem text_any (o x : Nat) (ho : o < 7) (hx : x < 18446744073709551616) (w : World) (hT : Tabs w) :
    Calls Tryd.prog 34 #[.int .i64 o, .int .u64 x] w fun e w' => e = .returned (sV (textN o x)) ∧ Below w.heap.size w w' := by
  by_cases h5 : o = 5
  · subst h5
    have hh := Hex_any x hx w hT
    have ht : textN 5 x = 32 :: hexN 16 x := rfl
    rw [ht]
    obtain ⟨S, hS⟩ : ∃ S : ByteArray, S = ⟨(hexN 16 x).toArray⟩ := ⟨_, rfl⟩
    have hsz : S.size ≤ 100 := by rw [hS, size_mk, hexN_len]; decide
    rw [← hS] at hh
    have HS := Lib.hid hS
    clear hS hx hT ht
    go_enter Tryd.func34, Tryd.ntmps34
    go_wp2_with (go_at_call 63; with_reducible refine hh.mono ?_; clear hh; rintro e w' ⟨rfl, hb⟩)
    go_ret
    exact ⟨ret_str (by rw [HS.out]; exact cons_bytes _ _), hb⟩
  · by_cases h6 : o = 6
    · subst h6
      by_cases h1 : x = 1
      · subst h1
        go_enter Tryd.func34, Tryd.ntmps34
        go_wp2
        go_ret
        exact ⟨rfl, Below.refl _ _⟩
      · have ht : textN 6 x = [] := by unfold textN; simp [h1]
        have hne : ((x : Int) == 1) = false := by rw [beq_eq_false_iff_ne]; omega
        rw [ht]
        clear h1 ht hx hT
        go_enter Tryd.func34, Tryd.ntmps34
        go_wp2
        go_ret
        exact ⟨rfl, Below.refl _ _⟩
    · have hh := Print_any x hx w hT
      have ht : textN o x = 32 :: Lib.decDigits x := by unfold textN; rw [if_neg h5, if_neg h6]
      have hl := dec_len 19 x (by omega)
      rw [ht]
      obtain ⟨S, hS⟩ : ∃ S : ByteArray, S = ⟨(Lib.decDigits x).toArray⟩ := ⟨_, rfl⟩
      have hsz : S.size ≤ 100 := by rw [hS, size_mk]; omega
      rw [← hS] at hh
      have HS := Lib.hid hS
      have e5 : ((o : Int) == 5) = false := by rw [beq_eq_false_iff_ne]; omega
      have e6 : ((o : Int) != 6) = true := by simp; omega
      clear hS hx hT ht hl h5 h6 ho
      go_enter Tryd.func34, Tryd.ntmps34
      go_wp2_with (go_at_call 64; with_reducible refine hh.mono ?_; clear hh; rintro e w' ⟨rfl, hb⟩)
      go_ret
      exact ⟨ret_str (by rw [HS.out]; exact cons_bytes _ _), hb⟩

/-- A block of bytes. -/
def U8 (w : World) (k : Nat) : Prop := ∃ cs, w.heap[k]? = some (.cells cs 5 (0, 0))
/-- What the writes to a builder at block b may turn: itself, and rows of bytes from B on. -/
def SbF (B b : Nat) (w w' : World) : Prop := Foot (fun k => k = b ∨ (B ≤ k ∧ U8 w k)) w w'
theorem SbF.refl (B b : Nat) (w : World) : SbF B b w w := Foot.refl _ _
theorem SbF.trans {B b : Nat} {w w1 w2 : World} (h : SbF B b w w1) (k : SbF B b w1 w2) : SbF B b w w2 := by
  refine Foot.then_ h k fun x hx => ?_
  rcases Nat.lt_or_ge x w.heap.size with hlt | hge
  · left
    rcases hx with hx | ⟨hB, cs, hcs⟩
    · exact .inl hx
    · by_cases hxb : x = b
      · exact .inl hxb
      · by_cases hu : B ≤ x ∧ U8 w x
        · exact .inr hu
        · exact .inr ⟨hB, cs, by rw [← h.block x hlt (by rintro (e | e); exact hxb e; exact hu e)]; exact hcs⟩
  · exact .inr hge
theorem SbF.of_below {B b : Nat} {w w' : World} (h : Below w.heap.size w w') : SbF B b w w' := Foot.of_below _ h
theorem SbF.below {B b : Nat} {w w' : World} (h : SbF B b w w') (hB : B ≤ b) (hw : B ≤ w.heap.size) : Below B w w' := Foot.below h hw (fun k hk => by rcases hk with hk | hk <;> omega)
theorem SbF.blk {B b : Nat} {w w' : World} {g : Nat} {t : TypeId} {cs : Array Value} (h : SbF B b w w') (hg : Blk w g t cs) (hne : g ≠ b) (ht : t ≠ 5) : Blk w' g t cs := by
  refine hg.foot h ?_
  rintro (e | ⟨_, cs', e⟩)
  · exact hne e
  · unfold Blk at hg
    rw [hg] at e
    injection e with e
    injection e with _ e
    exact ht e
theorem SbF.own {B b base : Nat} {w w' : World} {e : TypeId} {sz n : Nat} {v : Value} {xs : List Value} (h : SbF B b w w') (ho : w.ownsRow base e sz v n xs) (he : e ≠ 5) (_hne : e ≠ 60) (hb : ∀ cs, w.heap[b]? ≠ some (.cells cs e (0, 0))) : w'.ownsRow base e sz v n xs :=
  own_keep ho (fun g cs hg => (SbF.blk h (show Blk w g e cs from hg) (fun e' => by subst e'; exact hb _ hg) he))
theorem SbAt.later {B b : Nat} {w w' : World} {l : List UInt8} (h : SbAt w B b l) (hb : Below w.heap.size w w') : SbAt w' B b l := by
  rcases h with ⟨hB, v, hbk, hown, hne⟩ | ⟨hB, v, hbk, hown, hne⟩
  · exact .inl ⟨hB, v, Blk.below hbk hb (Blk.lt hbk), ownsRow_below hown hb (Nat.le_refl _), hne⟩
  · exact .inr ⟨hB, v, Blk.below hbk hb (Blk.lt hbk), ownsRow_below hown hb (Nat.le_refl _), hne⟩
theorem SbAt.shape {B b : Nat} {w : World} {l : List UInt8} (h : SbAt w B b l) : B ≤ b ∧ ∃ cs, Blk w b 60 cs := by
  rcases h with ⟨hB, v, hbk, _⟩ | ⟨hB, v, hbk, _⟩
  · exact ⟨hB, _, hbk⟩
  · exact ⟨hB, _, hbk⟩
theorem SbAt.no {B b : Nat} {w : World} {l : List UInt8} (h : SbAt w B b l) {e : TypeId} (he : e ≠ 60) : ∀ cs, w.heap[b]? ≠ some (.cells cs e (0, 0)) := by
  obtain ⟨_, cs', hb⟩ := h.shape
  intro cs h'
  unfold Blk at hb
  rw [hb] at h'
  injection h' with h'
  injection h' with _ h'
  exact he h'.symm
theorem SbAt.new (w : World) : SbAt (w.alloc (.cells #[.pointer none, .slice none 0 0] 60)) w.heap.size w.heap.size [] := .inl ⟨Nat.le_refl _, .slice none 0 0, Blk.new w _ _, World.ownsRow_nil _ _ _ _, by simp [Value.ownBlock]⟩

set_option maxRecDepth 100000 in
set_option maxHeartbeats 2000000 in
theorem WriteS_any (B b : Nat) (l : List UInt8) (s : ByteArray) (w : World) (h : SbAt w B b l) (hlen : l.length + s.size ≤ 100000) (hBw : B ≤ w.heap.size) :
    Calls Tryd.prog 32 #[.pointer (some ⟨b, 0, none⟩), .string s] w fun e w' => e = .returned (.tuple #[.int .i64 s.size, .nilIface]) ∧ (SbAt w' B b (l ++ s.data.toList) ∧ SbF B b w w') := by
  obtain ⟨i0, hi, hz0, hz1, hz2⟩ := info_parts (show (Tryd.prog.info? 5).map (fun i => (i.zero, i.size, i.bytes)) = some (some (.int .u8 0), 1, 1) by kernel_rfl)
  have hcc := copyCheck_any B b (Lib.byteCells l) w h
  have hBb : B ≤ b := by rcases h with h | h <;> exact h.1
  have hbl : (Lib.byteCells l).length = l.length := Lib.byteCells_length l
  clear h
  go_enter Tryd.func32, Tryd.ntmps32
  go_wp2_with (first
    | (go_at_call 62; refine hcc.mono ?_; clear hcc; rintro e w1 ⟨rfl, h1, hf1⟩; obtain ⟨hB, v, hbk, hown, hne⟩ := h1; have hb1 : Below B w w1 := hf1.below hBw (fun k hk => by omega); have c0 : w1.cell? ⟨b, 0, none⟩ = some (.pointer (some ⟨b, 0, none⟩)) := Blk.cell hbk 0; have c1 : w1.cell? ⟨b, 1, none⟩ = some v := Blk.cell hbk 1)
    | (at_builtin; refine Lib.wpList_append_own_string _ rfl _ _ 38 9 rfl B 5 i0 Tryd.underlying38 Tryd.underlying9 hi hz0 hz1 hz2 _ _ _ rfl hown s rfl (by unfold maxLen; omega) (by omega) (by have := hb1.size; omega) ?_; intro v' w2 hown' hgrow0 _; have hgrow : World.grownBy w1 w2 v.ownBlock := hgrow0; clear hgrow0; have hb2 : Blk w2 b 60 #[.pointer (some ⟨b, 0, none⟩), v] := (hgrow.block b (Blk.lt hbk) (fun e => hne e.symm)).trans hbk; have d0 : w2.cell? ⟨b, 0, none⟩ = some (.pointer (some ⟨b, 0, none⟩)) := hb2.cell 0; have d1 : w2.cell? ⟨b, 1, none⟩ = some v := hb2.cell 1; have f1 : w2.frozen? ⟨b, 1, none⟩ = false := hb2.frozen 1; obtain ⟨ao, n', cap, rfl⟩ := own_shape hown'))
  go_ret2
  refine ⟨rfl, ?_, ?_⟩
  · unfold SbAt
    rw [Lib.byteCells_append]
    exact .inr (Lib.BuilderAt.put (T := 60) (e := 5) hB hb2 (bs' := Lib.byteCells l ++ Lib.strCells s) (by simpa [Lib.strCells_length] using hown') (by decide))
  · have s1 : SbF B b w w1 := hf1.mono (fun k _ hk => .inl hk)
    have s2 : SbF B b w1 w2 := (Foot.of_grown hgrow).mono (fun k _ hk => by
      have := (hown.lt k hk).1
      rcases hown.2 with ⟨rfl, _⟩ | ⟨g, cap, cur, rfl, _, hg, _⟩
      · cases hk
      · have e : g = k := by simpa [Value.ownBlock] using hk
        subst e
        exact .inr ⟨this, cur, hg⟩)
    have s3 : SbF B b w2 (w2.setCell ⟨b, 1, none⟩ (.slice ao n' cap)) := (Foot.refl _ w2).setCell (p := ⟨b, 1, none⟩) (.inl (.inl rfl)) _
    exact (s1.trans s2).trans s3
end Go.Proofs.YtbjmdcjoaapmiaaDoor
