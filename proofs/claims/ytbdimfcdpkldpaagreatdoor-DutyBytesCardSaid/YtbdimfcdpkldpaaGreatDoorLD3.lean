/- The contracts of strings.Builder's copyCheck and WriteString, walked at this dump, and of an operand's text. The contract of an operand's text; the frame of a builder's writes. The contract of deed's Line. -/
import Derived.Test.YtbdimfcdpkldpaaGreatDoorLD1
import Derived.Test.YtbdimfcdpkldpaaGreatDoorLB
import Derived.Lib.Builder
import Derived.Lib.AppendStr
import Derived.Lib.Strings
import Derived.Lib.Slices
import Derived.Lib.Walk
import Derived.Lib.UnsafeStr
import Derived.Laws.Externs
import Derived.Test.YtbdimfcdpkldpaaGreatDoorShelf
import Derived.Test.YtbdimfcdpkldpaaGreatDoorD7
namespace Go.Proofs.YtbdimfcdpkldpaaGreatDoor
open Go.RowKit

theorem sizeBld : (Tryz.prog.info? 48).map (·.size) = some 2 := by kernel_rfl
theorem liesBld : liesAt Tryz.prog Tryz.prog.depth 48 (2 / Tryz.prog.cellsOf 48) 0 48 1 = true := by kernel_rfl

set_option maxRecDepth 100000 in
set_option maxHeartbeats 1000000 in
theorem copyCheck_used (b : Nat) (w : World) (h0 : w.cell? ⟨b, 0, none⟩ = some (.pointer (some ⟨b, 0, none⟩))) :
    Calls Tryz.prog 61 #[.pointer (some ⟨b, 0, none⟩)] w fun e w' => e = .returned (.tuple #[]) ∧ w' = w := by
  obtain ⟨j, hj, _⟩ := Option.map_eq_some_iff.1 sizeBld
  go_enter Tryz.func61, Tryz.ntmps61
  go_wp2
  rw [Lib.run_neq_ptr_same w _ Tryz.underlying46 hj]
  go_wp2
  go_end0
  exact ⟨rfl, rfl⟩

set_option maxRecDepth 100000 in
set_option maxHeartbeats 1000000 in
theorem copyCheck_fresh (b : Nat) (w : World) (h0 : w.cell? ⟨b, 0, none⟩ = some (.pointer none)) (hsh : w.shape? b = some (48, 2)) (hfz : w.frozen? ⟨b, 0, none⟩ = false) :
    Calls Tryz.prog 61 #[.pointer (some ⟨b, 0, none⟩)] w fun e w' => e = .returned (.tuple #[]) ∧ w' = w.setCell ⟨b, 0, none⟩ (.pointer (some ⟨b, 0, none⟩)) := by
  obtain ⟨j, hj, hjs⟩ := Option.map_eq_some_iff.1 sizeBld
  go_enter Tryz.func61, Tryz.ntmps61
  go_wp2
  rw [Lib.run_to_unsafe w ⟨b, 0, none⟩ Tryz.underlying46 Tryz.underlying146 hj (by rw [hjs]; decide) hsh (Nat.zero_lt_succ 1)]
  simp only [Result.andThen]
  rw [Oper.upon_value]
  go_wp2
  rw [run_callFunc_extern Tryz.func105 (by kernel_rfl) (by kernel_rfl) (by kernel_rfl) (e := Extern.AbiNoEscape.same) (by kernel_rfl)]
  rw [Lib.run_noEscape]
  simp only [Result.andThen]
  rw [Oper.upon_value]
  go_wp2
  rw [Lib.run_from_unsafe w ⟨b, 0, none⟩ Tryz.underlying146 Tryz.underlying46 hj hsh liesBld]
  simp only [Result.andThen]
  rw [Oper.upon_value]
  go_wp2
  go_end0
  exact ⟨rfl, rfl⟩

theorem copyCheck_any (B b : Nat) (bs : List Value) (w : World) (h : Lib.IsBuilder 48 5 B b bs w) :
    Calls Tryz.prog 61 #[.pointer (some ⟨b, 0, none⟩)] w fun e w' => e = .returned (.tuple #[]) ∧ (Lib.BuilderAt 48 5 B b (.pointer (some ⟨b, 0, none⟩)) bs w' ∧ Foot (fun k => k = b) w w') := by
  rcases h with h | h
  · refine (copyCheck_fresh b w h.cell0 h.shape h.frozen0).mono ?_
    rintro e w' ⟨rfl, rfl⟩
    exact ⟨rfl, h.used _, (Foot.refl (fun k => k = b) w).setCell (p := ⟨b, 0, none⟩) (.inl rfl) _⟩
  · refine (copyCheck_used b w h.cell0).mono ?_
    rintro e w' ⟨rfl, rfl⟩
    exact ⟨rfl, h, Foot.refl _ _⟩

theorem own_shape {w : World} {B e sz n : Nat} {v : Value} {xs : List Value} (h : w.ownsRow B e sz v n xs) : ∃ ao n' cap, v = .slice ao n' cap := by
  rcases h.2 with ⟨hv, _⟩ | ⟨g, cap, cur, hv, _⟩
  · exact ⟨_, _, _, hv⟩
  · exact ⟨_, _, _, hv⟩
/-- A builder at block b, of a call's own, that holds the bytes l. -/
def SbAt (w : World) (B b : Nat) (l : List UInt8) : Prop := Lib.IsBuilder 48 5 B b (Lib.byteCells l) w

end Go.Proofs.YtbdimfcdpkldpaaGreatDoor

namespace Go.Proofs.YtbdimfcdpkldpaaGreatDoor
open Go.RowKit

theorem dec_len : ∀ k u, u < 10 ^ (k + 1) → (Lib.decDigits u).length ≤ k + 1
  | k, u, h => by
    by_cases h1 : u < 10
    · rw [Lib.decDigits_one h1]; simp
    · cases k with
      | zero => omega
      | succ k =>
        rw [decDigits_big h1, List.length_append]
        have := dec_len k (u / 10) (by rw [Nat.pow_succ] at h; omega)
        simp; omega
/-- What an operand adds to a line. -/
def textN (o x : Nat) : List UInt8 := if o = 5 then 32 :: hexN 16 x else if o = 6 then (if x = 1 then 32 :: looseL else []) else 32 :: Lib.decDigits x
theorem textN_len (o x : Nat) (hx : x < 18446744073709551616) : (textN o x).length ≤ 21 := by
  have := dec_len 19 x (by omega)
  have h2 := hexN_len 16 x
  unfold textN looseL
  split
  · simp [h2]
  · split
    · split <;> simp
    · simp; omega

set_option maxHeartbeats 1000000 in
theorem text_any (o x : Nat) (ho : o < 7) (hx : x < 18446744073709551616) (w : World) (hT : Tabs w) :
    Calls Tryz.prog 111 #[.int .i64 o, .int .u64 x] w fun e w' => e = .returned (sV (textN o x)) ∧ Below w.heap.size w w' := by
  by_cases h5 : o = 5
  · subst h5
    have hh := Hex_any x hx w hT
    have ht : textN 5 x = 32 :: hexN 16 x := rfl
    rw [ht]
    obtain ⟨S, hS⟩ : ∃ S : ByteArray, S = ⟨(hexN 16 x).toArray⟩ := ⟨_, rfl⟩
    have hsz : S.size ≤ 100 := by rw [hS, size_mk, hexN_len]; decide
    rw [← hS] at hh
    have HS := Lib.hid hS
    clear hS hx hT ht
    go_enter Tryz.func111, Tryz.ntmps111
    go_wp2_with (go_at_call 64; with_reducible refine hh.mono ?_; clear hh; rintro e w' ⟨rfl, hb⟩)
    go_ret
    exact ⟨ret_str (by rw [HS.out]; exact cons_bytes _ _), hb⟩
  · by_cases h6 : o = 6
    · subst h6
      by_cases h1 : x = 1
      · subst h1
        go_enter Tryz.func111, Tryz.ntmps111
        go_wp2
        go_ret
        exact ⟨rfl, Below.refl _ _⟩
      · have ht : textN 6 x = [] := by unfold textN; simp [h1]
        have hne : ((x : Int) == 1) = false := by rw [beq_eq_false_iff_ne]; omega
        rw [ht]
        clear h1 ht hx hT
        go_enter Tryz.func111, Tryz.ntmps111
        go_wp2
        go_ret
        exact ⟨rfl, Below.refl _ _⟩
    · have hh := Print_any x hx w hT
      have ht : textN o x = 32 :: Lib.decDigits x := by unfold textN; rw [if_neg h5, if_neg h6]
      have hl := dec_len 19 x (by omega)
      rw [ht]
      obtain ⟨S, hS⟩ : ∃ S : ByteArray, S = ⟨(Lib.decDigits x).toArray⟩ := ⟨_, rfl⟩
      have hsz : S.size ≤ 100 := by rw [hS, size_mk]; omega
      rw [← hS] at hh
      have HS := Lib.hid hS
      have e5 : ((o : Int) == 5) = false := by rw [beq_eq_false_iff_ne]; omega
      have e6 : ((o : Int) != 6) = true := by simp; omega
      clear hS hx hT ht hl h5 h6 ho
      go_enter Tryz.func111, Tryz.ntmps111
      go_wp2_with (go_at_call 63; with_reducible refine hh.mono ?_; clear hh; rintro e w' ⟨rfl, hb⟩)
      go_ret
      exact ⟨ret_str (by rw [HS.out]; exact cons_bytes _ _), hb⟩

/-- A block of bytes. -/
def U8 (w : World) (k : Nat) : Prop := ∃ cs, w.heap[k]? = some (.cells cs 5 (0, 0))
/-- What the writes to a builder at block b may turn: itself, and rows of bytes from B on. -/
def SbF (B b : Nat) (w w' : World) : Prop := Foot (fun k => k = b ∨ (B ≤ k ∧ U8 w k)) w w'
theorem SbF.refl (B b : Nat) (w : World) : SbF B b w w := Foot.refl _ _
theorem SbF.trans {B b : Nat} {w w1 w2 : World} (h : SbF B b w w1) (k : SbF B b w1 w2) : SbF B b w w2 := by
  refine Foot.then_ h k fun x hx => ?_
  rcases Nat.lt_or_ge x w.heap.size with hlt | hge
  · left
    rcases hx with hx | ⟨hB, cs, hcs⟩
    · exact .inl hx
    · by_cases hxb : x = b
      · exact .inl hxb
      · by_cases hu : B ≤ x ∧ U8 w x
        · exact .inr hu
        · exact .inr ⟨hB, cs, by rw [← h.block x hlt (by rintro (e | e); exact hxb e; exact hu e)]; exact hcs⟩
  · exact .inr hge
theorem SbF.of_below {B b : Nat} {w w' : World} (h : Below w.heap.size w w') : SbF B b w w' := Foot.of_below _ h
theorem SbF.below {B b : Nat} {w w' : World} (h : SbF B b w w') (hB : B ≤ b) (hw : B ≤ w.heap.size) : Below B w w' := Foot.below h hw (fun k hk => by rcases hk with hk | hk <;> omega)
theorem SbF.blk {B b : Nat} {w w' : World} {g : Nat} {t : TypeId} {cs : Array Value} (h : SbF B b w w') (hg : Blk w g t cs) (hne : g ≠ b) (ht : t ≠ 5) : Blk w' g t cs := by
  refine hg.foot h ?_
  rintro (e | ⟨_, cs', e⟩)
  · exact hne e
  · unfold Blk at hg
    rw [hg] at e
    injection e with e
    injection e with _ e
    exact ht e
theorem SbF.own {B b base : Nat} {w w' : World} {e : TypeId} {sz n : Nat} {v : Value} {xs : List Value} (h : SbF B b w w') (ho : w.ownsRow base e sz v n xs) (he : e ≠ 5) (_hne : e ≠ 48) (hb : ∀ cs, w.heap[b]? ≠ some (.cells cs e (0, 0))) : w'.ownsRow base e sz v n xs :=
  own_keep ho (fun g cs hg => (SbF.blk h (show Blk w g e cs from hg) (fun e' => by subst e'; exact hb _ hg) he))
theorem SbAt.later {B b : Nat} {w w' : World} {l : List UInt8} (h : SbAt w B b l) (hb : Below w.heap.size w w') : SbAt w' B b l := by
  rcases h with ⟨hB, v, hbk, hown, hne⟩ | ⟨hB, v, hbk, hown, hne⟩
  · exact .inl ⟨hB, v, Blk.below hbk hb (Blk.lt hbk), ownsRow_below hown hb (Nat.le_refl _), hne⟩
  · exact .inr ⟨hB, v, Blk.below hbk hb (Blk.lt hbk), ownsRow_below hown hb (Nat.le_refl _), hne⟩
theorem SbAt.shape {B b : Nat} {w : World} {l : List UInt8} (h : SbAt w B b l) : B ≤ b ∧ ∃ cs, Blk w b 48 cs := by
  rcases h with ⟨hB, v, hbk, _⟩ | ⟨hB, v, hbk, _⟩
  · exact ⟨hB, _, hbk⟩
  · exact ⟨hB, _, hbk⟩
theorem SbAt.no {B b : Nat} {w : World} {l : List UInt8} (h : SbAt w B b l) {e : TypeId} (he : e ≠ 48) : ∀ cs, w.heap[b]? ≠ some (.cells cs e (0, 0)) := by
  obtain ⟨_, cs', hb⟩ := h.shape
  intro cs h'
  unfold Blk at hb
  rw [hb] at h'
  injection h' with h'
  injection h' with _ h'
  exact he h'.symm
theorem SbAt.new (w : World) : SbAt (w.alloc (.cells #[.pointer none, .slice none 0 0] 48)) w.heap.size w.heap.size [] := .inl ⟨Nat.le_refl _, .slice none 0 0, Blk.new w _ _, World.ownsRow_nil _ _ _ _, by simp [Value.ownBlock]⟩

set_option maxRecDepth 100000 in
set_option maxHeartbeats 2000000 in
theorem WriteS_any (B b : Nat) (l : List UInt8) (s : ByteArray) (w : World) (h : SbAt w B b l) (hlen : l.length + s.size ≤ 2000000) (hBw : B ≤ w.heap.size) :
    Calls Tryz.prog 20 #[.pointer (some ⟨b, 0, none⟩), .string s] w fun e w' => e = .returned (.tuple #[.int .i64 s.size, .nilIface]) ∧ (SbAt w' B b (l ++ s.data.toList) ∧ SbF B b w w') := by
  obtain ⟨i0, hi, hz0, hz1, hz2⟩ := info_parts (show (Tryz.prog.info? 5).map (fun i => (i.zero, i.size, i.bytes)) = some (some (.int .u8 0), 1, 1) by kernel_rfl)
  have hcc := copyCheck_any B b (Lib.byteCells l) w h
  have hBb : B ≤ b := by rcases h with h | h <;> exact h.1
  have hbl : (Lib.byteCells l).length = l.length := Lib.byteCells_length l
  clear h
  go_enter Tryz.func20, Tryz.ntmps20
  go_wp2_with (first
    | (go_at_call 61; refine hcc.mono ?_; clear hcc; rintro e w1 ⟨rfl, h1, hf1⟩; obtain ⟨hB, v, hbk, hown, hne⟩ := h1; have hb1 : Below B w w1 := hf1.below hBw (fun k hk => by omega); have c0 : w1.cell? ⟨b, 0, none⟩ = some (.pointer (some ⟨b, 0, none⟩)) := Blk.cell hbk 0; have c1 : w1.cell? ⟨b, 1, none⟩ = some v := Blk.cell hbk 1)
    | (at_builtin; refine Lib.wpList_append_own_string _ rfl _ _ 38 9 rfl B 5 i0 Tryz.underlying38 Tryz.underlying9 hi hz0 hz1 hz2 _ _ _ rfl hown s rfl (by unfold maxLen; omega) (by omega) (by have := hb1.size; omega) ?_; intro v' w2 hown' hgrow0 _; have hgrow : World.grownBy w1 w2 v.ownBlock := hgrow0; clear hgrow0; have hb2 : Blk w2 b 48 #[.pointer (some ⟨b, 0, none⟩), v] := (hgrow.block b (Blk.lt hbk) (fun e => hne e.symm)).trans hbk; have d0 : w2.cell? ⟨b, 0, none⟩ = some (.pointer (some ⟨b, 0, none⟩)) := hb2.cell 0; have d1 : w2.cell? ⟨b, 1, none⟩ = some v := hb2.cell 1; have f1 : w2.frozen? ⟨b, 1, none⟩ = false := hb2.frozen 1; obtain ⟨ao, n', cap, rfl⟩ := own_shape hown'))
  go_ret2
  refine ⟨rfl, ?_, ?_⟩
  · unfold SbAt
    rw [Lib.byteCells_append]
    exact .inr (Lib.BuilderAt.put (T := 48) (e := 5) hB hb2 (bs' := Lib.byteCells l ++ Lib.strCells s) (by simpa [Lib.strCells_length] using hown') (by decide))
  · have s1 : SbF B b w w1 := hf1.mono (fun k _ hk => .inl hk)
    have s2 : SbF B b w1 w2 := (Foot.of_grown hgrow).mono (fun k _ hk => by
      have := (hown.lt k hk).1
      rcases hown.2 with ⟨rfl, _⟩ | ⟨g, cap, cur, rfl, _, hg, _⟩
      · cases hk
      · have e : g = k := by simpa [Value.ownBlock] using hk
        subst e
        exact .inr ⟨this, cur, hg⟩)
    have s3 : SbF B b w2 (w2.setCell ⟨b, 1, none⟩ (.slice ao n' cap)) := (Foot.refl _ w2).setCell (p := ⟨b, 1, none⟩) (.inl (.inl rfl)) _
    exact (s1.trans s2).trans s3
end Go.Proofs.YtbdimfcdpkldpaaGreatDoor

namespace Go.Proofs.YtbdimfcdpkldpaaGreatDoor
open Go.RowKit

/-- An instruction's line. -/
def lineD (d : Deed) : List UInt8 := if goodD d = true then nameD d.op ++ (opr d.op).flatMap (fun o => textN o (ofD o d)) else [63]
theorem good_op {d : Deed} (h : goodD d = true) : isOp d.op = true := by
  unfold goodD at h
  simp only [Bool.and_eq_true] at h
  exact h.1.1.1
theorem nameD_len (op : Int) : (nameD op).length ≤ 6 := by
  unfold nameD
  split
  · rename_i h
    rcases isOp_cases h with rfl | rfl | rfl | rfl | rfl | rfl | rfl | rfl | rfl | rfl | rfl <;> decide
  · decide
theorem zeroS : ∀ w, (zeroValue 48).run Tryz.prog w = .ok (.agg #[.pointer none, .slice none 0 0]) w := Tryz.zeroValue48

set_option maxHeartbeats 400000 in
theorem Line_bad (d : Deed) (hd : d.ok) (hg : ¬ goodD d = true) (w : World) :
    Calls Tryz.prog 66 #[d.val] w fun e w' => e = .returned (sV (lineD d)) ∧ Below w.heap.size w w' := by
  have hgood := Good_any d hd
  rw [show goodD d = false by simpa using hg] at hgood
  rw [show lineD d = [63] by unfold lineD; rw [if_neg hg]]
  have hblk0 := Blk.new w 109 d.cells
  have hb := below_alloc1 w (.cells d.cells 109)
  clear hg hd
  simp only [Deed.val] at hgood ⊢
  go_enter Tryz.func66, Tryz.ntmps66
  go_wp2_with (first
    | (refine wpList_box_agg rfl 109 _ rfl d.cells rfl ?_)
    | (refine wpList_load_row rfl 109 _ rfl w.heap.size rfl 109 _ (0, 0) _ hblk0 Tryz.underlying109 rfl (sizeD _) ?_)
    | (go_at_call 108; (with_reducible refine (hgood _).mono ?_); rintro e w' ⟨rfl, hb2⟩))
  go_ret
  exact ⟨rfl, below_pre hb hb2⟩

set_option maxHeartbeats 2000000 in
theorem Line_good (d : Deed) (hd : d.ok) (hg : goodD d = true) (w : World) (hT : Tabs w) :
    Calls Tryz.prog 66 #[d.val] w fun e w' => e = .returned (sV (lineD d)) ∧ Below w.heap.size w w' := by
  have hop := good_op hg
  have hgood := Good_any d hd
  rw [hg] at hgood
  have hname := Name_any d.op
  have hnl := nameD_len d.op
  have hops := operands_any d.op hop
  have h7 := Lib.hid (opr_lt d.op hop)
  have h5 := opr_len d.op hop
  have hof := fun o ho7 => of_any o ho7 d hd
  have hofl := Lib.hid (fun o => ofD_lt o d hd)
  have hL : Hid (nameD d.op ++ (opr d.op).flatMap (fun o => textN o (ofD o d)) = lineD d) := Lib.hid (by unfold lineD; rw [if_pos hg])
  generalize lineD d = L at *
  have hblk0 := Blk.new w 109 d.cells
  have hb0 := below_alloc1 w (.cells d.cells 109)
  clear hg hd hop
  simp only [Deed.val] at hgood hof ⊢
  unfold sV at hname
  obtain ⟨S, hS⟩ : ∃ S : ByteArray, S = ⟨(nameD d.op).toArray⟩ := ⟨_, rfl⟩
  have hSl : S.data.toList = nameD d.op := by rw [hS]
  have hSs : S.size ≤ 6 := by rw [hS, size_mk]; exact hnl
  rw [← hS] at hname
  rw [← hSl] at hL
  clear hS hSl hnl
  generalize opr d.op = os at *
  have hc0 : (w.alloc (.cells d.cells 109)).cell? ⟨w.heap.size, 0, none⟩ = some (.int .i64 d.op) := hblk0.cell 0
  go_enter Tryz.func66, Tryz.ntmps66
  go_wp2_with (first
    | (refine wpList_box_agg rfl 109 _ rfl d.cells rfl ?_)
    | (refine wpList_alloc_agg rfl 48 rfl _ zeroS ?_)
    | (refine wpList_load_row rfl 109 _ rfl w.heap.size rfl 109 _ (0, 0) _ hblk0 Tryz.underlying109 rfl (sizeD _) ?_)
    | (go_at_call 108; (with_reducible refine (hgood _).mono ?_); clear hgood; rintro e w1 ⟨rfl, hb1⟩; have hblk1 := (hblk0.below hb1 hblk0.lt).alloc (.cells #[.pointer none, .slice none 0 0] 48); have hc1 : (w1.alloc (.cells #[.pointer none, .slice none 0 0] 48)).cell? ⟨w.heap.size, 0, none⟩ = some (.int .i64 d.op) := hblk1.cell 0; have hsb1 := SbAt.new w1)
    | (go_at_call 109; (with_reducible refine (hname _).mono ?_); clear hname; rintro e w2 ⟨rfl, hb2⟩; have hsb2 := hsb1.later hb2; have hblk2 := hblk1.below hb2 hblk1.lt)
    | (go_at_call 20; refine (WriteS_any _ _ _ S _ hsb2 (by simp; omega) (by have := hb2.size; simp at this; omega)).mono ?_; rintro e w3 ⟨rfl, hsb3, hf3⟩; have hblk3 := hf3.blk hblk2 (by have := hblk0.lt; have := hb1.size; simp at *; omega) (by decide); have hc3 : w3.cell? ⟨w.heap.size, 0, none⟩ = some (.int .i64 d.op) := hblk3.cell 0)
    | (go_at_call 110; (with_reducible refine (hops _).mono ?_); clear hops; rintro e w4 ⟨lv, rfl, hown4, hb4⟩; obtain ⟨p, c, rfl, _⟩ := id (RV.of_own hown4)))
  have hgb : w.heap.size < w1.heap.size := by have := hblk0.lt; have := hb1.size; simp at *; omega
  have hs1 : w1.heap.size + 1 ≤ w2.heap.size := by have := hb2.size; simp at this; omega
  have hbw1 : Below w.heap.size w w1 := below_pre hb0 hb1
  have hbw2 : Below w.heap.size w w2 := hbw1.trans (((Below.refl _ w1).alloc (by omega) _).trans (hb2.mono (by simp; omega)))
  have hbw3 : Below w.heap.size w w3 := hbw2.trans ((hf3.below (Nat.le_refl _) (by omega)).mono (by omega))
  have hbw4 : Below w.heap.size w w4 := hbw3.trans (hb4.mono hbw3.size)
  have hsb4 := hsb3.later hb4
  have hblk4 := hblk3.below hb4 hblk3.lt
  have hown4 := own_mono hown4 (show w1.heap.size ≤ w3.heap.size by have := hf3.size; omega)
  generalize w1.heap.size = b at *
  clear hblk0 hblk1 hblk2 hblk3 hc0 hc1 hc3 hsb1 hsb2 hsb3 hf3 hb1 hb2 hb4 hb0 hs1 hbw1 hbw2 hbw3
  go_loopw [17] (fun t wr => ∃ (k : Nat) (l : List UInt8), k ≤ os.length ∧ t = .int .i64 k ∧ Hid (l ++ (os.drop k).flatMap (fun o => textN o (ofD o d)) = L) ∧ l.length ≤ 6 + 21 * k ∧ Hid (SbAt wr b b l) ∧ Blk wr w.heap.size 109 d.cells ∧ wr.ownsRow b 153 1 (.slice p os.length c) os.length (os.map oV) ∧ b ≤ wr.heap.size ∧ Below w.heap.size w wr) (fun t _ => os.length - (intOf t).toNat)
  case atStart => exact ⟨0, S.data.toList, by omega, rfl, hL, by have : S.data.toList.length = S.size := rfl; omega, Lib.hid hsb4, hblk4, hown4, by obtain ⟨_, _, h⟩ := hsb4.shape; have := h.lt; omega, hbw4⟩
  case round =>
    obtain ⟨k, l, hk, rfl, hl, hll, hsb, hblk, hown, hbs, hbw⟩ := hrel
    by_cases hlt : k < os.length
    · obtain ⟨o, ho1⟩ : ∃ o, os[k]? = some o := ⟨_, List.getElem?_eq_getElem hlt⟩
      have ho7 := h7.out o (List.mem_of_getElem? ho1)
      have hl2 := hl.out
      rw [drop_cons os k o ho1, List.flatMap_cons, ← List.append_assoc] at hl2
      obtain ⟨bl, off, rfl, _, _, hcell0⟩ := (RV.of_own hown).at1 k (oV o) (by rw [List.getElem?_map, ho1]; rfl)
      have hcell : wr.cell? ⟨bl, off + k, none⟩ = some (.int .i64 (o : Int)) := hcell0
      have hofk := hof o ho7 wr
      have hxl := hofl.out o
      generalize ofD o d = x at hofk hl2 hxl
      have htx := fun w' hb' => text_any o x ho7 hxl w' (hT.below (w' := w') hb' (Nat.le_refl _))
      have hxt := textN_len o x hxl
      unfold sV at htx
      obtain ⟨Z, hZ⟩ : ∃ Z : ByteArray, Z = ⟨(textN o x).toArray⟩ := ⟨_, rfl⟩
      have hZl : Z.data.toList = textN o x := by rw [hZ]
      have hZs : Z.size ≤ 21 := by rw [hZ, size_mk]; exact hxt
      rw [← hZ] at htx
      rw [← hZl] at hl2
      have HL2 := Lib.hid hl2
      clear hZ hZl hxt hl2 hl hcell0 ho1 hxl
      have HTX := Lib.hid htx
      clear htx
      go_wp2_with (first
        | (refine wpList_load_row rfl 109 _ rfl w.heap.size rfl 109 _ (0, 0) _ hblk Tryz.underlying109 rfl (sizeD _) ?_)
        | (go_at_call 112; (with_reducible refine hofk.mono ?_); clear hofk; rintro e w5 ⟨rfl, hb5⟩; have hbw5 := hbw.trans (hb5.mono hbw.size); have hsb5 := hsb.out.later hb5; have hblk5 := hblk.below hb5 hblk.lt; have hown5 := ownsRow_below hown hb5 (Nat.le_refl _))
        | (go_at_call 111; (with_reducible refine (HTX.out _ hbw5).mono ?_); rintro e w6 ⟨rfl, hb6⟩; have hbw6 := hbw5.trans (hb6.mono hbw5.size); have hsb6 := hsb5.later hb6; have hblk6 := hblk5.below hb6 hblk5.lt; have hown6 := ownsRow_below hown5 hb6 (Nat.le_refl _))
        | (go_at_call 20; refine (WriteS_any _ _ _ Z _ hsb6 (by omega) (by have := hb5.size; have := hb6.size; omega)).mono ?_; rintro e w7 ⟨rfl, hsb7, hf7⟩))
      have hs6 : b ≤ w6.heap.size := by have := hb5.size; have := hb6.size; omega
      go_roundw
      case rel => exact ⟨k + 1, _, by omega, by go_num, HL2, by rw [List.length_append]; have : Z.data.toList.length = Z.size := rfl; omega, Lib.hid hsb7, hf7.blk hblk6 (by omega) (by decide), hf7.own hown6 (by decide) (by decide) (hsb6.no (by decide)), Nat.le_trans hs6 hf7.size, hbw6.trans ((hf7.below (Nat.le_refl _) hs6).mono (by omega))⟩
      case measure => simp [intOf]; omega
    · obtain rfl : k = os.length := by omega
      have hl2 := hl.out
      rw [List.drop_length, List.flatMap_nil, List.append_nil] at hl2
      subst hl2
      have hst := Tryz.Builder_String_any b b l wr hsb.out hbs
      clear hl hsb
      go_wp2_with (go_at_call 25; (with_reducible refine hst.mono ?_); clear hst; rintro e w5 ⟨rfl, hb5⟩)
      go_ret
      exact ⟨rfl, hbw.trans (hb5.mono (by omega))⟩
theorem Line_any (d : Deed) (hd : d.ok) (w : World) (hT : Tabs w) :
    Calls Tryz.prog 66 #[d.val] w fun e w' => e = .returned (sV (lineD d)) ∧ Below w.heap.size w w' := by
  by_cases h : goodD d = true
  · exact Line_good d hd h w hT
  · exact Line_bad d hd h w
end Go.Proofs.YtbdimfcdpkldpaaGreatDoor
