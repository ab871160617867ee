/- The contracts of deed's values, and of structs compared. -/
import Derived.Test.YtbjmdcjoaapmiaaDoorD3
import Derived.Laws.StructEq
namespace Go.Proofs.YtbjmdcjoaapmiaaDoor
open Go.RowKit

/-- A number as a value. -/
def uV (x : Nat) : Value := .int .u64 (x : Int)
theorem infoU : (Tryd.prog.info? 22).map (fun i => (i.zero, i.size, i.bytes)) = some (some (.int .u64 0), 1, 8) := by kernel_rfl
/-- Element k of a slice that reads. -/
theorem RV.at1 {w : World} {G : Nat → Prop} {p : Option Addr} {n c : Nat} {xs : List Value} (h : RV w G (.slice p n c) n 1 xs) (k : Nat) (u : Value) (hu : xs[k]? = some u) :
    ∃ b off, p = some ⟨b, off, none⟩ ∧ b < w.heap.size ∧ G b ∧ w.cell? ⟨b, off + k, none⟩ = some u := by
  obtain ⟨p', c', hv, h1, h2, h3, h4, h5⟩ := h
  cases hv
  have hk := (List.getElem?_eq_some_iff.1 hu).1
  obtain ⟨b, off, rfl, hb, hG, hc⟩ := h5.resolve_left (by omega)
  exact ⟨b, off, rfl, hb, hG, hc k u hu⟩
theorem opr_lt (op : Int) (h : isOp op = true) : ∀ o ∈ opr op, o < 7 := by
  refine opr_cases (fun l => ∀ o ∈ l, o < 7) op ?_ ?_ ?_ ?_ ?_ ?_ ?_ ?_ ?_ ?_ ?_ h <;> (intro _; decide)
theorem opr_len (op : Int) (h : isOp op = true) : (opr op).length ≤ 5 := by
  refine opr_cases (fun l => l.length ≤ 5) op ?_ ?_ ?_ ?_ ?_ ?_ ?_ ?_ ?_ ?_ ?_ h <;> (intro _; decide)
theorem take_map_snoc {α β : Type} (f : α → β) (l : List α) (k : Nat) (x : α) (h : l[k]? = some x) : (l.take k).map f ++ [f x] = (l.take (k + 1)).map f := by
  obtain ⟨hk, hx⟩ := List.getElem?_eq_some_iff.1 h
  rw [List.take_succ_eq_append_getElem hk, List.map_append, hx]
  rfl

set_option maxHeartbeats 1000000 in
theorem values_any (d : Deed) (hd : d.ok) (ho : isOp d.op = true) (w : World) :
    Calls Tryd.prog 30 #[d.val] w fun e w' => ∃ v, e = .returned v ∧ w'.ownsRow w.heap.size 22 1 v (valsD d).length ((valsD d).map uV) ∧ Below w.heap.size w w' := by
  obtain ⟨i0, hi, hz0, hz1, hz2⟩ := info_parts infoU
  have hops := operands_any d.op ho
  have h7 := Lib.hid (opr_lt d.op ho)
  have h5 := opr_len d.op ho
  have hof := fun o ho7 => of_any o ho7 d hd
  have hvl : (valsD d).length = (opr d.op).length := by unfold valsD; simp
  have hvm : Hid ((valsD d).map uV = (opr d.op).map (fun o => uV (ofD o d))) := Lib.hid (by unfold valsD; rw [List.map_map]; rfl)
  rw [hvm.out, hvl]
  clear hvl hvm ho hd
  have hblk0 := Blk.new w 24 d.cells
  generalize opr d.op = os at *
  unfold Deed.val at *
  go_enter Tryd.func30, Tryd.ntmps30
  have hc0 : (w.alloc (.cells d.cells 24)).cell? ⟨w.heap.size, 0, none⟩ = some (.int .i64 d.op) := hblk0.cell 0
  go_wp2_with (first | (refine wpList_box_agg rfl 24 _ rfl d.cells rfl ?_) | (go_at_call 33; refine (hops _).mono ?_; clear hops; rintro e w1 ⟨lv, rfl, hown1, hb1⟩; have hr := RV.of_own hown1; have hgb := hown1.lt; obtain ⟨p, c, rfl, _⟩ := id hr))
  have hblk1 := hblk0.below hb1 (by simp)
  have hb01 : Below w.heap.size w w1 := (below_alloc1 w _).trans (hb1.mono (by simp))
  clear hblk0 hb1
  go_loopw [3, 10] (fun v t wr => ∃ k : Nat, k ≤ os.length ∧ t = .int .i64 k ∧ wr.ownsRow w1.heap.size 22 1 v k ((os.take k).map fun o => uV (ofD o d)) ∧ Below w1.heap.size w1 wr) (fun _ t _ => os.length - (intOf t).toNat)
  case atStart => exact ⟨0, by omega, rfl, World.ownsRow_nil _ _ _ _, Below.refl _ _⟩
  case round =>
    obtain ⟨k, hk, rfl, hown, hb⟩ := hrel
    by_cases hlt : k < os.length
    · obtain ⟨o, ho1⟩ : ∃ o, os[k]? = some o := ⟨_, List.getElem?_eq_getElem hlt⟩
      have ho7 := h7.out o (List.mem_of_getElem? ho1)
      have hsn := Lib.hid (take_map_snoc (fun o => uV (ofD o d)) os k o ho1)
      obtain ⟨b, off, rfl, hbl, _, hcell0⟩ := hr.at1 k (oV o) (by rw [List.getElem?_map, ho1]; rfl)
      have hcell : wr.cell? ⟨b, off + k, none⟩ = some (.int .i64 (o : Int)) := (hb.cell hbl).trans hcell0
      have HB := Lib.hid (hblk1.below hb hblk1.lt)
      have hofk := hof o ho7 wr
      clear hcell0 ho1
      go_wp2_with (first
        | (refine wpList_load_row rfl 24 _ rfl w.heap.size rfl 24 _ (0, 0) _ HB.out Tryd.underlying24 rfl (by kernel_rfl) ?_)
        | (go_at_call 35; with_reducible refine hofk.mono ?_; clear hofk; rintro e w2 ⟨rfl, hb2⟩)
        | (at_builtin; refine wpList_append_lits rfl _ _ 53 rfl w1.heap.size 22 i0 (.int .u64 0) 8 Tryd.underlying53 hi hz0 hz1 hz2 rfl (by decide) (ownsRow_below hown hb2 (Nat.le_refl _)) rfl _ rfl rfl rfl (by omega) (by have := hb.size; have := hb2.size; omega) ?_; intro v' w3 hown' hb3 _ _))
      go_roundw
      case rel => exact ⟨k + 1, by omega, by go_num, by rw [← hsn.out]; exact hown', (hb.trans (hb2.mono hb.size)).trans hb3⟩
      case measure => simp [intOf]; omega
    · obtain rfl : k = os.length := by omega
      go_wp2
      go_ret
      rw [List.take_length] at hown
      exact ⟨_, rfl, own_mono hown hb01.size, hb01.trans (hb.mono hb01.size)⟩
end Go.Proofs.YtbjmdcjoaapmiaaDoor
