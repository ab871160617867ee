/- The contracts of deed's small functions: isOp, Name, Waits, grade.Is, and of the reference's Name, Parts, small. The contracts of deed's operands: the operations' lists. The contracts of an operand's fits, of and set. The contracts of deed's values, and of structs compared. The contract of deed's build. Structs of instructions compared. The contracts of deed's named and of the reference's op: the operation of a name. -/
import Derived.Test.YtbdimfcdpkldpaaGreatDoorLN2
import Derived.Test.YtbdimfcdpkldpaaGreatDoorLB
import Derived.Test.YtbdimfcdpkldpaaGreatDoorLDM
import Derived.Laws.StructEq
namespace Go.Proofs.YtbdimfcdpkldpaaGreatDoor
open Go.RowKit

set_option maxHeartbeats 400000 in
theorem isOp_any (op : Int) (w : World) :
    Calls Tryz.prog 141 #[.int .i64 op] w fun e w' => e = .returned (.bool (isOp op)) ∧ w = w' := by
  by_cases h1 : 1 ≤ op
  · by_cases h2 : op ≤ 11
    · have e : isOp op = true := by simp [isOp, h1, h2]
      rw [e]; clear e
      go_enter Tryz.func141, Tryz.ntmps141
      go_wp2
      go_ret
      exact ⟨rfl, rfl⟩
    · have e : isOp op = false := by simp [isOp, h2]
      rw [e]; clear e
      go_enter Tryz.func141, Tryz.ntmps141
      go_wp2
      go_ret
      exact ⟨rfl, rfl⟩
  · have e : isOp op = false := by simp [isOp, h1]
    rw [e]; clear e
    go_enter Tryz.func141, Tryz.ntmps141
    go_wp2
    go_ret
    exact ⟨rfl, rfl⟩

def isLevel (l : Int) : Bool := decide (0 ≤ l) && decide (l ≤ 7)
set_option maxHeartbeats 400000 in
theorem Is_any (l : Int) (w : World) :
    Calls Tryz.prog 103 #[.int .i64 l] w fun e w' => e = .returned (.bool (isLevel l)) ∧ w = w' := by
  by_cases h1 : 0 ≤ l
  · have e : isLevel l = decide (l ≤ 7) := by simp [isLevel, h1]
    rw [e]; clear e
    go_enter Tryz.func103, Tryz.ntmps103
    go_wp2
    go_ret
    exact ⟨rfl, rfl⟩
  · have e : isLevel l = false := by simp [isLevel, h1]
    rw [e]; clear e
    go_enter Tryz.func103, Tryz.ntmps103
    go_wp2
    go_ret
    exact ⟨rfl, rfl⟩

set_option maxHeartbeats 4000000 in
theorem Name_any (op : Int) (w : World) :
    Calls Tryz.prog 109 #[.int .i64 op] w fun e w' => e = .returned (sV (nameD op)) ∧ Below w.heap.size w w' := by
  by_cases h : isOp op = true
  · rcases isOp_cases h with rfl | rfl | rfl | rfl | rfl | rfl | rfl | rfl | rfl | rfl | rfl
    all_goals
      go_enter Tryz.func109, Tryz.ntmps109
      go_wp2_with (go_at_call 141; refine (isOp_any _ _).mono ?_; rintro e w' ⟨rfl, rfl⟩)
      go_ret
      exact ⟨rfl, ((Below.refl _ w).alloc (Nat.le_refl _) _)⟩
  · have hn : nameD op = [63] := by unfold nameD; rw [if_neg h]
    have H := Lib.hid (show isOp op = false by simpa using h)
    rw [hn]
    clear h hn
    go_enter Tryz.func109, Tryz.ntmps109
    go_wp2_with (go_at_call 141; refine (isOp_any _ _).mono ?_; rintro e w' ⟨rfl, rfl⟩; rw [H.out])
    go_ret
    exact ⟨rfl, ((Below.refl _ w).alloc (Nat.le_refl _) _)⟩

set_option maxHeartbeats 4000000 in
theorem RName_any (op : Int) (w : World) :
    Calls Tryz.prog 113 #[.int .i64 op] w fun e w' => e = .returned (sV (nameD op)) ∧ Below w.heap.size w w' := by
  by_cases h : isOp op = true
  · rcases isOp_cases h with rfl | rfl | rfl | rfl | rfl | rfl | rfl | rfl | rfl | rfl | rfl
    all_goals
      go_enter Tryz.func113, Tryz.ntmps113
      go_wp2
      go_ret
      exact ⟨rfl, ((Below.refl _ w).alloc (Nat.le_refl _) _)⟩
  · have hn : nameD op = [63] := by unfold nameD; rw [if_neg h]
    rw [hn]
    rcases isOp_not h with h1 | h1
    · clear h hn
      go_enter Tryz.func113, Tryz.ntmps113
      go_wp2
      go_ret
      exact ⟨rfl, Below.refl _ _⟩
    · clear h hn
      have h2 : ¬ op < 1 := by omega
      go_enter Tryz.func113, Tryz.ntmps113
      go_wp2
      go_ret
      exact ⟨rfl, Below.refl _ _⟩

def partsL (op : Int) : List UInt8 := (opr op).map letterN
set_option maxHeartbeats 4000000 in
theorem Parts_any (op : Int) (h : isOp op = true) (w : World) :
    Calls Tryz.prog 114 #[.int .i64 op] w fun e w' => e = .returned (sV (partsL op)) ∧ Below w.heap.size w w' := by
  rcases isOp_cases h with rfl | rfl | rfl | rfl | rfl | rfl | rfl | rfl | rfl | rfl | rfl
  all_goals
    go_enter Tryz.func114, Tryz.ntmps114
    go_wp2
    go_ret
    exact ⟨rfl, ((Below.refl _ w).alloc (Nat.le_refl _) _)⟩

def smallN (x : Nat) : Nat := if 64 < x then 64 else x
set_option maxHeartbeats 400000 in
theorem small_any (x : Nat) (w : World) :
    Calls Tryz.prog 125 #[.int .u64 x] w fun e w' => e = .returned (.int .i64 (smallN x : Int)) ∧ w = w' := by
  by_cases h : 64 < x
  · have e : smallN x = 64 := by unfold smallN; rw [if_pos h]
    rw [e]; clear e
    go_enter Tryz.func125, Tryz.ntmps125
    go_wp2
    go_ret
    exact ⟨rfl, rfl⟩
  · have e : smallN x = x := by unfold smallN; rw [if_neg h]
    rw [e]; clear e
    go_enter Tryz.func125, Tryz.ntmps125
    go_wp2
    go_ret
    exact ⟨rfl, rfl⟩
end Go.Proofs.YtbdimfcdpkldpaaGreatDoor

namespace Go.Proofs.YtbdimfcdpkldpaaGreatDoor
open Go.RowKit

/-- An operand as a value. -/
def oV (o : Nat) : Value := .int .i64 (o : Int)
theorem oV_one (o : Nat) : (oV o).oneCell' = true := rfl
theorem infoO : (Tryz.prog.info? 153).map (fun i => (i.zero, i.size, i.bytes)) = some (some (.int .i64 0), 1, 8) := by kernel_rfl
set_option maxHeartbeats 8000000 in
theorem operands_any (op : Int) (h : isOp op = true) (w : World) :
    Calls Tryz.prog 110 #[.int .i64 op] w fun e w' => ∃ v, e = .returned v ∧ w'.ownsRow w.heap.size 153 1 v (opr op).length ((opr op).map oV) ∧ Below w.heap.size w w' := by
  obtain ⟨i0, hi, hz0, hz1, hz2⟩ := info_parts infoO
  rcases isOp_cases h with rfl | rfl | rfl | rfl | rfl | rfl | rfl | rfl | rfl | rfl | rfl
  all_goals
    clear h
    have hown : w.ownsRow w.heap.size 153 1 (.slice none 0 0) 0 [] := World.ownsRow_nil _ _ _ _
    have g : Hid (Below w.heap.size w w) := Lib.hid (Below.refl _ _)
    go_enter Tryz.func110, Tryz.ntmps110
    go_wp2_with (at_builtin; refine wpList_append_lits rfl _ _ 151 rfl w.heap.size 153 i0 (.int .i64 0) 8 Tryz.underlying151 hi hz0 hz1 hz2 rfl (by decide) hown rfl _ rfl rfl rfl (by omega) (by have := g.out.size; omega) ?_; clear hown; intro v' w1 hown hb1 _ _; replace g := Lib.hid (g.out.trans hb1); clear hb1)
    go_ret
    exact ⟨_, rfl, hown, g.out⟩
end Go.Proofs.YtbdimfcdpkldpaaGreatDoor

namespace Go.Proofs.YtbdimfcdpkldpaaGreatDoor
open Go.RowKit

theorem o_cases {o : Nat} (h : o < 7) : o = 0 ∨ o = 1 ∨ o = 2 ∨ o = 3 ∨ o = 4 ∨ o = 5 ∨ o = 6 := by omega

set_option maxHeartbeats 1000000 in
theorem fits_any (o x : Nat) (ho : o < 7) (w : World) :
    Calls Tryz.prog 167 #[.int .i64 o, .int .u64 x] w fun e w' => e = .returned (.bool (fitsN o x)) ∧ w = w' := by
  rcases o_cases ho with rfl | rfl | rfl | rfl | rfl | rfl | rfl
  · go_enter Tryz.func167, Tryz.ntmps167
    go_wp2
    go_ret
    exact ⟨ret_bool (by rw [Bool.eq_iff_iff]; simp [fitsN]; omega), rfl⟩
  · clear ho
    go_enter Tryz.func167, Tryz.ntmps167
    go_wp2_with (go_at_call 103; refine (Is_any _ _).mono ?_; rintro e w' ⟨rfl, rfl⟩)
    go_ret
    exact ⟨ret_bool (by rw [Bool.eq_iff_iff]; simp [fitsN, isLevel]; omega), rfl⟩
  · go_enter Tryz.func167, Tryz.ntmps167
    go_wp2
    go_ret
    exact ⟨ret_bool (by rw [Bool.eq_iff_iff]; simp [fitsN]; omega), rfl⟩
  · clear ho
    by_cases h : 1 ≤ x
    · have e : fitsN 3 x = decide (x ≤ 65536) := by simp [fitsN, h]
      rw [e]
      clear e
      go_enter Tryz.func167, Tryz.ntmps167
      go_wp2
      go_ret
      exact ⟨ret_bool (by rw [Bool.eq_iff_iff]; simp; omega), rfl⟩
    · have e : fitsN 3 x = false := by simp [fitsN, h]
      rw [e]
      clear e
      go_enter Tryz.func167, Tryz.ntmps167
      go_wp2
      go_ret
      exact ⟨rfl, rfl⟩
  all_goals
    go_enter Tryz.func167, Tryz.ntmps167
    go_wp2
    go_ret
    exact ⟨rfl, rfl⟩

set_option maxHeartbeats 1000000 in
theorem of_any (o : Nat) (ho : o < 7) (d : Deed) (hd : d.ok) (w : World) :
    Calls Tryz.prog 112 #[.int .i64 o, d.val] w fun e w' => e = .returned (.int .u64 (ofD o d : Nat)) ∧ Below w.heap.size w w' := by
  have ha := Lib.hid (wrapN_eq d.a hd.a)
  have hb := Lib.hid (wrapN_eq d.b hd.b)
  have hr := Lib.hid (wrapN_eq d.r hd.r)
  clear hd
  obtain ⟨op, a, b, r, n, mask, loose⟩ := d
  simp only [Deed.val, Deed.cells]
  rcases o_cases ho with rfl | rfl | rfl | rfl | rfl | rfl | rfl
  · go_enter Tryz.func112, Tryz.ntmps112
    go_wp2
    go_ret
    exact ⟨ret_int ha.out, below_alloc1 _ _⟩
  · go_enter Tryz.func112, Tryz.ntmps112
    go_wp2
    go_ret
    exact ⟨ret_int hb.out, below_alloc1 _ _⟩
  · go_enter Tryz.func112, Tryz.ntmps112
    go_wp2
    go_ret
    exact ⟨ret_int hr.out, below_alloc1 _ _⟩
  · go_enter Tryz.func112, Tryz.ntmps112
    go_wp2
    go_ret
    exact ⟨rfl, below_alloc1 _ _⟩
  · go_enter Tryz.func112, Tryz.ntmps112
    go_wp2
    go_ret
    exact ⟨rfl, below_alloc1 _ _⟩
  · go_enter Tryz.func112, Tryz.ntmps112
    go_wp2
    go_ret
    exact ⟨rfl, below_alloc1 _ _⟩
  · cases loose
    all_goals
      go_enter Tryz.func112, Tryz.ntmps112
      go_wp2
      go_ret
      exact ⟨rfl, below_alloc1 _ _⟩

/-- A store of one cell into a block that is known. -/
theorem blk_put {w : World} {g : Nat} {t : TypeId} {cs cs' : Array Value} (h : Blk w g t cs) (i : Nat) (u : Value) (e : cs.setIfInBounds i u = cs') : Blk (w.setCell ⟨g, i, none⟩ u) g t cs' ∧ Foot (fun k => k = g) w (w.setCell ⟨g, i, none⟩ u) :=
  ⟨by rw [← e]; exact h.set i u, (Foot.refl (fun k => k = g) w).setCell (p := ⟨g, i, none⟩) (.inl rfl) _⟩

set_option maxHeartbeats 1000000 in
theorem set_any (o x : Nat) (ho : o < 7) (hx : o ≤ 2 → x < 64) (d : Deed) (g : Nat) (w : World) (h : Blk w g 109 d.cells) :
    Calls Tryz.prog 168 #[.int .i64 o, .pointer (some ⟨g, 0, none⟩), .int .u64 x] w fun e w' => e = .returned (.tuple #[]) ∧ Blk w' g 109 (setD o x d).cells ∧ Foot (fun k => k = g) w w' := by
  have H := Lib.hid h
  have f1 := h.frozen 1
  have f2 := h.frozen 2
  have f3 := h.frozen 3
  have f4 := h.frozen 4
  have f5 := h.frozen 5
  have f6 := h.frozen 6
  have c1 := h.cell 1
  have c2 := h.cell 2
  have c3 := h.cell 3
  have c4 := h.cell 4
  have c5 := h.cell 5
  have c6 := h.cell 6
  clear h
  obtain ⟨op, a, b, r, n, mask, loose⟩ := d
  simp only [Deed.cells] at c1 c2 c3 c4 c5 c6
  replace c1 : w.cell? ⟨g, 1, none⟩ = some (.int .i64 a) := c1
  replace c2 : w.cell? ⟨g, 2, none⟩ = some (.int .i64 b) := c2
  replace c3 : w.cell? ⟨g, 3, none⟩ = some (.int .i64 r) := c3
  replace c4 : w.cell? ⟨g, 4, none⟩ = some (.int .u64 (n : Int)) := c4
  replace c5 : w.cell? ⟨g, 5, none⟩ = some (.int .u64 (mask : Int)) := c5
  replace c6 : w.cell? ⟨g, 6, none⟩ = some (.bool loose) := c6
  rcases o_cases ho with rfl | rfl | rfl | rfl | rfl | rfl | rfl
  · replace hx := hx (by omega)
    go_enter Tryz.func168, Tryz.ntmps168
    go_wp2
    go_end0
    exact ⟨rfl, blk_put H.out 1 _ rfl⟩
  · replace hx := hx (by omega)
    go_enter Tryz.func168, Tryz.ntmps168
    go_wp2
    go_end0
    exact ⟨rfl, blk_put H.out 2 _ rfl⟩
  · replace hx := hx (by omega)
    go_enter Tryz.func168, Tryz.ntmps168
    go_wp2
    go_end0
    exact ⟨rfl, blk_put H.out 3 _ rfl⟩
  · clear hx
    go_enter Tryz.func168, Tryz.ntmps168
    go_wp2
    go_end0
    exact ⟨rfl, blk_put H.out 4 _ rfl⟩
  · clear hx
    go_enter Tryz.func168, Tryz.ntmps168
    go_wp2
    go_end0
    exact ⟨rfl, blk_put H.out 4 _ rfl⟩
  · clear hx
    go_enter Tryz.func168, Tryz.ntmps168
    go_wp2
    go_end0
    exact ⟨rfl, blk_put H.out 5 _ rfl⟩
  · clear hx
    go_enter Tryz.func168, Tryz.ntmps168
    go_wp2
    go_end0
    refine ⟨rfl, blk_put H.out 6 _ ?_⟩
    simp [Deed.cells, setD, int_one]
end Go.Proofs.YtbdimfcdpkldpaaGreatDoor

namespace Go.Proofs.YtbdimfcdpkldpaaGreatDoor
open Go.RowKit

/-- A number as a value. -/
def uV (x : Nat) : Value := .int .u64 (x : Int)
theorem infoU : (Tryz.prog.info? 22).map (fun i => (i.zero, i.size, i.bytes)) = some (some (.int .u64 0), 1, 8) := by kernel_rfl
/-- Element k of a slice that reads. -/
theorem RV.at1 {w : World} {G : Nat → Prop} {p : Option Addr} {n c : Nat} {xs : List Value} (h : RV w G (.slice p n c) n 1 xs) (k : Nat) (u : Value) (hu : xs[k]? = some u) :
    ∃ b off, p = some ⟨b, off, none⟩ ∧ b < w.heap.size ∧ G b ∧ w.cell? ⟨b, off + k, none⟩ = some u := by
  obtain ⟨p', c', hv, h1, h2, h3, h4, h5⟩ := h
  cases hv
  have hk := (List.getElem?_eq_some_iff.1 hu).1
  obtain ⟨b, off, rfl, hb, hG, hc⟩ := h5.resolve_left (by omega)
  exact ⟨b, off, rfl, hb, hG, hc k u hu⟩
theorem opr_lt (op : Int) (h : isOp op = true) : ∀ o ∈ opr op, o < 7 := by
  refine opr_cases (fun l => ∀ o ∈ l, o < 7) op ?_ ?_ ?_ ?_ ?_ ?_ ?_ ?_ ?_ ?_ ?_ h <;> (intro _; decide)
theorem opr_len (op : Int) (h : isOp op = true) : (opr op).length ≤ 5 := by
  refine opr_cases (fun l => l.length ≤ 5) op ?_ ?_ ?_ ?_ ?_ ?_ ?_ ?_ ?_ ?_ ?_ h <;> (intro _; decide)
theorem take_map_snoc {α β : Type} (f : α → β) (l : List α) (k : Nat) (x : α) (h : l[k]? = some x) : (l.take k).map f ++ [f x] = (l.take (k + 1)).map f := by
  obtain ⟨hk, hx⟩ := List.getElem?_eq_some_iff.1 h
  rw [List.take_succ_eq_append_getElem hk, List.map_append, hx]
  rfl

set_option maxHeartbeats 1000000 in
theorem values_any (d : Deed) (hd : d.ok) (ho : isOp d.op = true) (w : World) :
    Calls Tryz.prog 143 #[d.val] w fun e w' => ∃ v, e = .returned v ∧ w'.ownsRow w.heap.size 22 1 v (valsD d).length ((valsD d).map uV) ∧ Below w.heap.size w w' := by
  obtain ⟨i0, hi, hz0, hz1, hz2⟩ := info_parts infoU
  have hops := operands_any d.op ho
  have h7 := Lib.hid (opr_lt d.op ho)
  have h5 := opr_len d.op ho
  have hof := fun o ho7 => of_any o ho7 d hd
  have hvl : (valsD d).length = (opr d.op).length := by unfold valsD; simp
  have hvm : Hid ((valsD d).map uV = (opr d.op).map (fun o => uV (ofD o d))) := Lib.hid (by unfold valsD; rw [List.map_map]; rfl)
  rw [hvm.out, hvl]
  clear hvl hvm ho hd
  have hblk0 := Blk.new w 109 d.cells
  generalize opr d.op = os at *
  unfold Deed.val at *
  go_enter Tryz.func143, Tryz.ntmps143
  have hc0 : (w.alloc (.cells d.cells 109)).cell? ⟨w.heap.size, 0, none⟩ = some (.int .i64 d.op) := hblk0.cell 0
  go_wp2_with (first | (refine wpList_box_agg rfl 109 _ rfl d.cells rfl ?_) | (go_at_call 110; refine (hops _).mono ?_; clear hops; rintro e w1 ⟨lv, rfl, hown1, hb1⟩; have hr := RV.of_own hown1; have hgb := hown1.lt; obtain ⟨p, c, rfl, _⟩ := id hr))
  have hblk1 := hblk0.below hb1 (by simp)
  have hb01 : Below w.heap.size w w1 := (below_alloc1 w _).trans (hb1.mono (by simp))
  clear hblk0 hb1
  go_loopw [3, 10] (fun v t wr => ∃ k : Nat, k ≤ os.length ∧ t = .int .i64 k ∧ wr.ownsRow w1.heap.size 22 1 v k ((os.take k).map fun o => uV (ofD o d)) ∧ Below w1.heap.size w1 wr) (fun _ t _ => os.length - (intOf t).toNat)
  case atStart => exact ⟨0, by omega, rfl, World.ownsRow_nil _ _ _ _, Below.refl _ _⟩
  case round =>
    obtain ⟨k, hk, rfl, hown, hb⟩ := hrel
    by_cases hlt : k < os.length
    · obtain ⟨o, ho1⟩ : ∃ o, os[k]? = some o := ⟨_, List.getElem?_eq_getElem hlt⟩
      have ho7 := h7.out o (List.mem_of_getElem? ho1)
      have hsn := Lib.hid (take_map_snoc (fun o => uV (ofD o d)) os k o ho1)
      obtain ⟨b, off, rfl, hbl, _, hcell0⟩ := hr.at1 k (oV o) (by rw [List.getElem?_map, ho1]; rfl)
      have hcell : wr.cell? ⟨b, off + k, none⟩ = some (.int .i64 (o : Int)) := (hb.cell hbl).trans hcell0
      have HB := Lib.hid (hblk1.below hb hblk1.lt)
      have hofk := hof o ho7 wr
      clear hcell0 ho1
      go_wp2_with (first
        | (refine wpList_load_row rfl 109 _ rfl w.heap.size rfl 109 _ (0, 0) _ HB.out Tryz.underlying109 rfl (by kernel_rfl) ?_)
        | (go_at_call 112; with_reducible refine hofk.mono ?_; clear hofk; rintro e w2 ⟨rfl, hb2⟩)
        | (at_builtin; refine wpList_append_lits rfl _ _ 54 rfl w1.heap.size 22 i0 (.int .u64 0) 8 Tryz.underlying54 hi hz0 hz1 hz2 rfl (by decide) (ownsRow_below hown hb2 (Nat.le_refl _)) rfl _ rfl rfl rfl (by omega) (by have := hb.size; have := hb2.size; omega) ?_; intro v' w3 hown' hb3 _ _))
      go_roundw
      case rel => exact ⟨k + 1, by omega, by go_num, by rw [← hsn.out]; exact hown', (hb.trans (hb2.mono hb.size)).trans hb3⟩
      case measure => simp [intOf]; omega
    · obtain rfl : k = os.length := by omega
      go_wp2
      go_ret
      rw [List.take_length] at hown
      exact ⟨_, rfl, own_mono hown hb01.size, hb01.trans (hb.mono hb01.size)⟩
end Go.Proofs.YtbdimfcdpkldpaaGreatDoor

namespace Go.Proofs.YtbdimfcdpkldpaaGreatDoor
open Go.RowKit

theorem zeroR : ∀ w, (zeroValue 109).run Tryz.prog w = .ok (.agg zeroD.cells) w := Tryz.zeroValue109
theorem sizeD (d : Deed) : (Tryz.prog.info? 109).map (·.size) = some d.cells.size := by kernel_rfl
theorem oneD (d : Deed) : d.cells.all (·.oneCell') = true := by simp [Deed.cells, Value.oneCell']
theorem drop_cons {α : Type} (l : List α) (k : Nat) (x : α) (h : l[k]? = some x) : l.drop k = x :: l.drop (k + 1) := by
  obtain ⟨hk, hx⟩ := List.getElem?_eq_some_iff.1 h
  rw [List.drop_eq_getElem_cons hk, hx]
theorem fit_small {o x : Nat} (h : fitsN o x = true) (ho : o ≤ 2) : x < 64 := by
  obtain rfl | rfl | rfl : o = 0 ∨ o = 1 ∨ o = 2 := by omega
  all_goals simp [fitsN] at h; omega
theorem foot_row {w : World} {r : Nat} (cs : Array Value) {B : Nat} (hr : B ≤ r) : Below B w (w.setRow r cs) := ⟨rfl, rfl, rfl, by simp [World.setRow], fun k hk => setRow_other w r k cs (by omega)⟩

set_option maxHeartbeats 2000000 in
theorem build_any (op : Int) (ho : isOp op = true) (xs : List Nat) (hx : (opr op).length ≤ xs.length) (v : Value) (G : Nat → Prop) (w : World) (hv : RV w G v xs.length 1 (xs.map uV)) :
    Calls Tryz.prog 142 #[.int .i64 op, v] w fun e w' => e = .returned (.tuple #[(bldD op xs).1.val, .int .i64 ((bldD op xs).2 : Int)]) ∧ Below w.heap.size w w' := by
  have hops := operands_any op ho
  have h7 := Lib.hid (opr_lt op ho)
  have h5 := opr_len op ho
  have hF : fitAll ((opr op).drop 0) (xs.drop 0) = fitAll (opr op) xs := by simp
  have hD : setAll ((opr op).drop 0) (xs.drop 0) (opD op) = setAll (opr op) xs (opD op) := by simp
  unfold bldD
  generalize opr op = os at *
  generalize fitAll os xs = F at *
  generalize setAll os xs (opD op) = D at *
  have hRt : F = true → (if F = true then (D, 0) else (zeroD, 5)) = (D, 0) := fun h => if_pos h
  have hRf : F = false → (if F = true then (D, 0) else (zeroD, 5)) = (zeroD, 5) := fun h => if_neg (by simp [h])
  generalize (if F = true then (D, 0) else (zeroD, 5)) = R at *
  have HRt := Lib.hid hRt
  have HRf := Lib.hid hRf
  clear hRt hRf
  clear ho
  have hxl := hv.len
  unfold maxLen at hxl
  obtain ⟨pv, cv, rfl, _⟩ := id hv
  have HF := Lib.hid hF
  have HD := Lib.hid hD
  clear hF hD
  have hbr0 : Blk ((w.alloc (.cells zeroD.cells 109)).alloc (.cells (opD op).cells 109)) w.heap.size 109 zeroD.cells := (Blk.new _ _ _).alloc _
  have hbg0 : Blk ((w.alloc (.cells zeroD.cells 109)).alloc (.cells (opD op).cells 109)) (w.heap.size + 1) 109 (opD op).cells := two_new w _ _ _
  have hb00 := below_alloc2 w (.cells zeroD.cells 109) (.cells (opD op).cells 109)
  go_enter Tryz.func142, Tryz.ntmps142
  go_wp2_with (first
    | (refine wpList_alloc_agg rfl 109 rfl zeroD.cells zeroR ?_)
    | (refine wpList_store_row rfl 109 _ _ rfl (w.alloc (.cells zeroD.cells 109)).heap.size (opD op).cells rfl rfl 109 _ (heap_alloc_new _ _) (sizeD _) rfl (oneD _) ?_; rw [World.setRow_alloc_new])
    | (go_at_call 110; refine (hops _).mono ?_; clear hops; rintro e w1 ⟨lv, rfl, hown1, hb1⟩; have hr : RV w1 (fun b => w.heap.size + 2 ≤ b) _ _ 1 _ := (RV.of_own hown1).mono (fun k _ hk => by have := (hown1.lt k hk).1; simp at this; omega); obtain ⟨p, c, rfl, _⟩ := id hr))
  have hbr := hbr0.below hb1 hbr0.lt
  have hbg := hbg0.below hb1 hbg0.lt
  have hb01 := below_pre hb00 hb1
  have hgs := hbg.lt
  clear hbr0 hbg0 hb1 hb00 hown1
  go_loopw [14] (fun t wr => ∃ (k : Nat) (dk : Deed), k ≤ os.length ∧ t = .int .i64 k ∧ Hid (fitAll (os.drop k) (xs.drop k) = F) ∧ Hid (setAll (os.drop k) (xs.drop k) dk = D) ∧ Blk wr (w.heap.size + 1) 109 dk.cells ∧ Foot (fun b => b = w.heap.size + 1) w1 wr) (fun t _ => os.length - (intOf t).toNat)
  case atStart => exact ⟨0, opD op, by omega, rfl, HF, HD, hbg, Foot.refl _ _⟩
  case round =>
    obtain ⟨k, dk, hk, rfl, hf, hd, hbk, hfoot⟩ := hrel
    have hbw : Below w.heap.size w wr := hb01.trans (hfoot.below (B := w.heap.size) (by omega) (fun b hb => by omega))
    by_cases hlt : k < os.length
    · obtain ⟨o, ho1⟩ : ∃ o, os[k]? = some o := ⟨_, List.getElem?_eq_getElem hlt⟩
      obtain ⟨x, hx1⟩ : ∃ x, xs[k]? = some x := ⟨_, List.getElem?_eq_getElem (by omega)⟩
      have ho7 := h7.out o (List.mem_of_getElem? ho1)
      have hf2 := hf.out
      have hd2 := hd.out
      rw [drop_cons os k o ho1, drop_cons xs k x hx1] at hf2 hd2
      rw [fitAll] at hf2
      rw [setAll] at hd2
      obtain ⟨b, off, rfl, _, _, hcell0⟩ := (hr.foot hfoot (fun b hb e => by omega)).at1 k (oV o) (by rw [List.getElem?_map, ho1]; rfl)
      have hcell : wr.cell? ⟨b, off + k, none⟩ = some (.int .i64 (o : Int)) := hcell0
      obtain ⟨b2, off2, rfl, _, _, hcell1⟩ := (hv.below hbw (fun k hk _ => hk)).at1 k (uV x) (by rw [List.getElem?_map, hx1]; rfl)
      have hcell2 : wr.cell? ⟨b2, off2 + k, none⟩ = some (.int .u64 (x : Int)) := hcell1
      have hkx : k < xs.length := by omega
      have hfit := fits_any o x ho7 wr
      have hbr2 := hbr.foot hfoot (by omega)
      clear hcell0 hcell1 ho1 hx1 hf hd
      by_cases hfx : fitsN o x = true
      · have hset := set_any o x ho7 (fit_small hfx) dk (w.heap.size + 1) wr hbk
        rw [hfx] at hfit hf2
        rw [Bool.true_and] at hf2
        have HF2 := Lib.hid hf2
        have HD2 := Lib.hid hd2
        clear hf2 hd2 hfx
        go_wp2_with (first
          | (go_at_call 167; with_reducible refine hfit.mono ?_; clear hfit; rintro e w' ⟨rfl, rfl⟩)
          | (go_at_call 168; with_reducible refine hset.mono ?_; clear hset; rintro e w2 ⟨rfl, hbk2, hfoot2⟩))
        go_roundw
        case rel => exact ⟨k + 1, _, by omega, by go_num, HF2, HD2, hbk2, hfoot.trans hfoot2⟩
        case measure => simp [intOf]; omega
      · have hfx' : fitsN o x = false := by simpa using hfx
        rw [hfx'] at hfit hf2
        rw [Bool.false_and] at hf2
        have hRR := Lib.hid (HRf.out hf2.symm)
        clear hf2 hd2 hfx hfx'
        go_wp2_with (first
          | (go_at_call 167; with_reducible refine hfit.mono ?_; clear hfit; rintro e w' ⟨rfl, rfl⟩)
          | (refine wpList_store_row rfl 109 _ _ rfl w.heap.size zeroD.cells rfl rfl 109 _ hbr2 (sizeD _) rfl (oneD _) ?_))
        refine bodyPost_ret (results_row_tmp rfl _ _ w.heap.size 109 zeroD.cells (0, 0) _ rfl (hbr2.row _) Tryz.underlying109 rfl (sizeD _)) rfl ?_
        exact ⟨by rw [hRR.out]; rfl, hbw.trans (foot_row _ (Nat.le_refl _))⟩
    · obtain rfl : k = os.length := by omega
      have hf2 := hf.out
      have hd2 := hd.out
      rw [List.drop_length] at hf2 hd2
      have hRR := Lib.hid (HRt.out (by rw [← hf2]; simp [fitAll]))
      have hdk : dk = D := by rw [← hd2]; simp [setAll]
      subst hdk
      have hbr2 := hbr.foot hfoot (by omega)
      clear hf hd hf2 hd2
      go_wp2_with (first
        | (refine wpList_load_row rfl 109 _ rfl (w.heap.size + 1) rfl 109 _ (0, 0) _ hbk Tryz.underlying109 rfl (sizeD _) ?_)
        | (refine wpList_store_row rfl 109 _ _ rfl w.heap.size dk.cells rfl rfl 109 _ hbr2 (sizeD _) rfl (oneD _) ?_))
      refine bodyPost_ret (results_row_tmp rfl _ _ w.heap.size 109 dk.cells (0, 0) _ rfl (hbr2.row _) Tryz.underlying109 rfl (sizeD _)) rfl ?_
      exact ⟨by rw [hRR.out]; rfl, hbw.trans (foot_row _ (Nat.le_refl _))⟩
end Go.Proofs.YtbdimfcdpkldpaaGreatDoor

namespace Go.Proofs.YtbdimfcdpkldpaaGreatDoor
open Go.RowKit

theorem eq_run (d e : Deed) (w : World) : (binOp .eql 109 (.agg d.cells) (.agg e.cells)).run Tryz.prog w = .ok (.bool (eqD d e)) w := by
  obtain ⟨o, a, b, r, n, m, l⟩ := d
  obtain ⟨o', a', b', r', n', m', l'⟩ := e
  simp only [Deed.cells, eqD]
  rw [show ((n : Nat) == n') = ((n : Int) == (n' : Int)) by rw [Bool.eq_iff_iff]; simp; omega, show ((m : Nat) == m') = ((m : Int) == (m' : Int)) by rw [Bool.eq_iff_iff]; simp; omega]
  go_simp
  (repeat' split) <;> simp_all
theorem neq_run (d e : Deed) (w : World) : (binOp .neq 109 (.agg d.cells) (.agg e.cells)).run Tryz.prog w = .ok (.bool (!eqD d e)) w := by
  have h := eq_run d e w
  rw [run_eql_struct] at h
  rw [run_neq_struct]
  generalize (Op.equalIn 10000 109 (.agg d.cells) (.agg e.cells)).run Tryz.prog w = r at h
  cases r with
  | ok b w1 =>
    simp only [Result.andThen_ok, Result.ok.injEq, Value.bool.injEq] at h ⊢
    exact ⟨by rw [h.1], h.2⟩
  | halt x w1 => simp [Result.andThen] at h
theorem exec_eq {o : Oper} {ρ : Operand → Value} (x y : Operand) (t' : TypeId) (ho : o.op = .binOp .eql 109 x y t') (d e : Deed) (hx : ρ x = .agg d.cells) (hy : ρ y = .agg e.cells) (w : World) :
    (execOp ρ o).run Tryz.prog w = .ok (.value (.bool (eqD d e))) w := by
  unfold execOp
  simp only [ho, hx, hy, Sem.run_bind, run_eqGuard_agg (P := Tryz.prog) w .eql 109 x y d.cells e.cells (by kernel_rfl), Result.andThen_ok, eq_run, Sem.run_pure]
theorem exec_neq {o : Oper} {ρ : Operand → Value} (x y : Operand) (t' : TypeId) (ho : o.op = .binOp .neq 109 x y t') (d e : Deed) (hx : ρ x = .agg d.cells) (hy : ρ y = .agg e.cells) (w : World) :
    (execOp ρ o).run Tryz.prog w = .ok (.value (.bool (!eqD d e))) w := by
  unfold execOp
  simp only [ho, hx, hy, Sem.run_bind, run_eqGuard_agg (P := Tryz.prog) w .neq 109 x y d.cells e.cells (by kernel_rfl), Result.andThen_ok, neq_run, Sem.run_pure]
end Go.Proofs.YtbdimfcdpkldpaaGreatDoor

namespace Go.Proofs.YtbdimfcdpkldpaaGreatDoor
open Go.RowKit

/-- The operation of a name from k on, or 0. -/
def opFrom (l : List UInt8) (k : Nat) : Nat → Nat
  | 0 => 0
  | f + 1 => if nameN k = l then k else opFrom l (k + 1) f
def opOf (l : List UInt8) : Nat := opFrom l 1 11
theorem nameD_nat (k : Nat) (h1 : 1 ≤ k) (h2 : k ≤ 11) : nameD (k : Int) = nameN k := by
  unfold nameD
  rw [if_pos (by simp [isOp]; omega), Int.toNat_natCast]
theorem mk_list0 (l : List UInt8) : (ByteArray.mk l.toArray).data.toList = l := rfl
theorem str_eq (l : List UInt8) (s : ByteArray) : ((ByteArray.mk l.toArray).toList == s.toList) = decide (l = s.data.toList) := by
  rw [Lib.toList_data, Lib.toList_data, mk_list0]
  by_cases h : l = s.data.toList <;> simp [h]

set_option maxHeartbeats 1000000 in
theorem named_any (s : ByteArray) (w : World) :
    Calls Tryz.prog 151 #[.string s] w fun e w' => e = .returned (.tuple #[.int .i64 (opOf s.data.toList : Nat), .bool (decide (opOf s.data.toList ≠ 0))]) ∧ Below w.heap.size w w' := by
  generalize hR : opOf s.data.toList = R
  have HR := Lib.hid hR
  clear hR
  go_enter Tryz.func151, Tryz.ntmps151
  go_wp2
  go_loopw [4] (fun t wr => ∃ k : Nat, 1 ≤ k ∧ k ≤ 12 ∧ t = .int .i64 k ∧ Hid (opFrom s.data.toList k (12 - k) = R) ∧ Below w.heap.size w wr) (fun t _ => 12 - (intOf t).toNat)
  case atStart => exact ⟨1, by omega, by omega, rfl, HR, Below.refl _ _⟩
  case round =>
    obtain ⟨k, hk1, hk2, rfl, hc, hb⟩ := hrel
    by_cases hlt : k ≤ 11
    · have hnm := Name_any (k : Int) wr
      rw [nameD_nat k hk1 hlt, sV] at hnm
      have hc2 := hc.out
      rw [show 12 - k = (11 - k) + 1 by omega, opFrom] at hc2
      by_cases he : nameN k = s.data.toList
      · rw [if_pos he] at hc2
        subst hc2
        have ht := str_eq (nameN k) s
        rw [decide_eq_true he] at ht
        generalize (ByteArray.mk (nameN k).toArray) = nm at hnm ht
        clear hc he
        have hk0 : decide (k ≠ 0) = true := by simp; omega
        have HK0 := Lib.hid hk0
        clear hk0
        go_wp2_with (go_at_call 109; with_reducible refine hnm.mono ?_; clear hnm; rintro e w2 ⟨rfl, hb2⟩)
        go_ret2
        rw [HK0.out]
        exact ⟨rfl, hb.trans (hb2.mono hb.size)⟩
      · rw [if_neg he] at hc2
        have ht := str_eq (nameN k) s
        rw [decide_eq_false he] at ht
        generalize (ByteArray.mk (nameN k).toArray) = nm at hnm ht
        rw [show 11 - k = 12 - (k + 1) by omega] at hc2
        have HC2 := Lib.hid hc2
        clear hc he hc2
        go_wp2_with (go_at_call 109; with_reducible refine hnm.mono ?_; clear hnm; rintro e w2 ⟨rfl, hb2⟩)
        go_roundw
        case rel => exact ⟨k + 1, by omega, by omega, by go_num, HC2, hb.trans (hb2.mono hb.size)⟩
        case measure => simp [intOf]; omega
    · obtain rfl : k = 12 := by omega
      have hR0 : Hid (R = 0) := Lib.hid hc.out.symm
      clear hc
      go_wp2
      go_ret2
      rw [hR0.out]
      exact ⟨rfl, hb⟩

set_option maxHeartbeats 1000000 in
theorem rop_any (s : ByteArray) (w : World) :
    Calls Tryz.prog 124 #[.string s] w fun e w' => e = .returned (.int .i64 (opOf s.data.toList : Nat)) ∧ Below w.heap.size w w' := by
  generalize hR : opOf s.data.toList = R
  have HR := Lib.hid hR
  clear hR
  go_enter Tryz.func124, Tryz.ntmps124
  go_wp2
  go_loopw [3] (fun t wr => ∃ k : Nat, 1 ≤ k ∧ k ≤ 12 ∧ t = .int .i64 k ∧ Hid (opFrom s.data.toList k (12 - k) = R) ∧ Below w.heap.size w wr) (fun t _ => 12 - (intOf t).toNat)
  case atStart => exact ⟨1, by omega, by omega, rfl, HR, Below.refl _ _⟩
  case round =>
    obtain ⟨k, hk1, hk2, rfl, hc, hb⟩ := hrel
    by_cases hlt : k ≤ 11
    · have hnm := RName_any (k : Int) wr
      rw [nameD_nat k hk1 hlt, sV] at hnm
      have hc2 := hc.out
      rw [show 12 - k = (11 - k) + 1 by omega, opFrom] at hc2
      by_cases he : nameN k = s.data.toList
      · rw [if_pos he] at hc2
        subst hc2
        have ht := str_eq (nameN k) s
        rw [decide_eq_true he] at ht
        generalize (ByteArray.mk (nameN k).toArray) = nm at hnm ht
        clear hc he
        go_wp2_with (go_at_call 113; with_reducible refine hnm.mono ?_; clear hnm; rintro e w2 ⟨rfl, hb2⟩)
        go_ret
        exact ⟨rfl, hb.trans (hb2.mono hb.size)⟩
      · rw [if_neg he] at hc2
        have ht := str_eq (nameN k) s
        rw [decide_eq_false he] at ht
        generalize (ByteArray.mk (nameN k).toArray) = nm at hnm ht
        rw [show 11 - k = 12 - (k + 1) by omega] at hc2
        have HC2 := Lib.hid hc2
        clear hc he hc2
        go_wp2_with (go_at_call 113; with_reducible refine hnm.mono ?_; clear hnm; rintro e w2 ⟨rfl, hb2⟩)
        go_roundw
        case rel => exact ⟨k + 1, by omega, by omega, by go_num, HC2, hb.trans (hb2.mono hb.size)⟩
        case measure => simp [intOf]; omega
    · obtain rfl : k = 12 := by omega
      have hR0 : Hid (R = 0) := Lib.hid hc.out.symm
      clear hc
      go_wp2
      go_ret
      rw [hR0.out]
      exact ⟨rfl, hb⟩
end Go.Proofs.YtbdimfcdpkldpaaGreatDoor
