/- The contracts of an operand's fits, of and set. -/
import Derived.Test.YtbjmdcjoaapmiaaDoorD2
namespace Go.Proofs.YtbjmdcjoaapmiaaDoor
open Go.RowKit

theorem o_cases {o : Nat} (h : o < 7) : o = 0 ∨ o = 1 ∨ o = 2 ∨ o = 3 ∨ o = 4 ∨ o = 5 ∨ o = 6 := by omega

set_option maxHeartbeats 1000000 in
theorem fits_any (o x : Nat) (ho : o < 7) (w : World) :
    Calls Tryd.prog 60 #[.int .i64 o, .int .u64 x] w fun e w' => e = .returned (.bool (fitsN o x)) ∧ w = w' := by
  rcases o_cases ho with rfl | rfl | rfl | rfl | rfl | rfl | rfl
  · go_enter Tryd.func60, Tryd.ntmps60
    go_wp2
    go_ret
    exact ⟨ret_bool (by rw [Bool.eq_iff_iff]; simp [fitsN]; omega), rfl⟩
  · clear ho
    go_enter Tryd.func60, Tryd.ntmps60
    go_wp2_with (go_at_call 77; refine (Is_any _ _).mono ?_; rintro e w' ⟨rfl, rfl⟩)
    go_ret
    exact ⟨ret_bool (by rw [Bool.eq_iff_iff]; simp [fitsN, isLevel]; omega), rfl⟩
  · go_enter Tryd.func60, Tryd.ntmps60
    go_wp2
    go_ret
    exact ⟨ret_bool (by rw [Bool.eq_iff_iff]; simp [fitsN]; omega), rfl⟩
  · clear ho
    by_cases h : 1 ≤ x
    · have e : fitsN 3 x = decide (x ≤ 65536) := by simp [fitsN, h]
      rw [e]
      clear e
      go_enter Tryd.func60, Tryd.ntmps60
      go_wp2
      go_ret
      exact ⟨ret_bool (by rw [Bool.eq_iff_iff]; simp; omega), rfl⟩
    · have e : fitsN 3 x = false := by simp [fitsN, h]
      rw [e]
      clear e
      go_enter Tryd.func60, Tryd.ntmps60
      go_wp2
      go_ret
      exact ⟨rfl, rfl⟩
  all_goals
    go_enter Tryd.func60, Tryd.ntmps60
    go_wp2
    go_ret
    exact ⟨rfl, rfl⟩

set_option maxHeartbeats 1000000 in
theorem of_any (o : Nat) (ho : o < 7) (d : Deed) (hd : d.ok) (w : World) :
    Calls Tryd.prog 35 #[.int .i64 o, d.val] w fun e w' => e = .returned (.int .u64 (ofD o d : Nat)) ∧ Below w.heap.size w w' := by
  have ha := Lib.hid (wrapN_eq d.a hd.a)
  have hb := Lib.hid (wrapN_eq d.b hd.b)
  have hr := Lib.hid (wrapN_eq d.r hd.r)
  clear hd
  obtain ⟨op, a, b, r, n, mask, loose⟩ := d
  simp only [Deed.val, Deed.cells]
  rcases o_cases ho with rfl | rfl | rfl | rfl | rfl | rfl | rfl
  · go_enter Tryd.func35, Tryd.ntmps35
    go_wp2
    go_ret
    exact ⟨ret_int ha.out, below_alloc1 _ _⟩
  · go_enter Tryd.func35, Tryd.ntmps35
    go_wp2
    go_ret
    exact ⟨ret_int hb.out, below_alloc1 _ _⟩
  · go_enter Tryd.func35, Tryd.ntmps35
    go_wp2
    go_ret
    exact ⟨ret_int hr.out, below_alloc1 _ _⟩
  · go_enter Tryd.func35, Tryd.ntmps35
    go_wp2
    go_ret
    exact ⟨rfl, below_alloc1 _ _⟩
  · go_enter Tryd.func35, Tryd.ntmps35
    go_wp2
    go_ret
    exact ⟨rfl, below_alloc1 _ _⟩
  · go_enter Tryd.func35, Tryd.ntmps35
    go_wp2
    go_ret
    exact ⟨rfl, below_alloc1 _ _⟩
  · cases loose
    all_goals
      go_enter Tryd.func35, Tryd.ntmps35
      go_wp2
      go_ret
      exact ⟨rfl, below_alloc1 _ _⟩

/-- A store of one cell into a block that is known. -/
theorem blk_put {w : World} {g : Nat} {t : TypeId} {cs cs' : Array Value} (h : Blk w g t cs) (i : Nat) (u : Value) (e : cs.setIfInBounds i u = cs') : Blk (w.setCell ⟨g, i, none⟩ u) g t cs' ∧ Foot (fun k => k = g) w (w.setCell ⟨g, i, none⟩ u) :=
  ⟨by rw [← e]; exact h.set i u, (Foot.refl (fun k => k = g) w).setCell (p := ⟨g, i, none⟩) (.inl rfl) _⟩

set_option maxHeartbeats 1000000 in
theorem set_any (o x : Nat) (ho : o < 7) (hx : o ≤ 2 → x < 64) (d : Deed) (g : Nat) (w : World) (h : Blk w g 24 d.cells) :
    Calls Tryd.prog 61 #[.int .i64 o, .pointer (some ⟨g, 0, none⟩), .int .u64 x] w fun e w' => e = .returned (.tuple #[]) ∧ Blk w' g 24 (setD o x d).cells ∧ Foot (fun k => k = g) w w' := by
  have H := Lib.hid h
  have f1 := h.frozen 1
  have f2 := h.frozen 2
  have f3 := h.frozen 3
  have f4 := h.frozen 4
  have f5 := h.frozen 5
  have f6 := h.frozen 6
  have c1 := h.cell 1
  have c2 := h.cell 2
  have c3 := h.cell 3
  have c4 := h.cell 4
  have c5 := h.cell 5
  have c6 := h.cell 6
  clear h
  obtain ⟨op, a, b, r, n, mask, loose⟩ := d
  simp only [Deed.cells] at c1 c2 c3 c4 c5 c6
  replace c1 : w.cell? ⟨g, 1, none⟩ = some (.int .i64 a) := c1
  replace c2 : w.cell? ⟨g, 2, none⟩ = some (.int .i64 b) := c2
  replace c3 : w.cell? ⟨g, 3, none⟩ = some (.int .i64 r) := c3
  replace c4 : w.cell? ⟨g, 4, none⟩ = some (.int .u64 (n : Int)) := c4
  replace c5 : w.cell? ⟨g, 5, none⟩ = some (.int .u64 (mask : Int)) := c5
  replace c6 : w.cell? ⟨g, 6, none⟩ = some (.bool loose) := c6
  rcases o_cases ho with rfl | rfl | rfl | rfl | rfl | rfl | rfl
  · replace hx := hx (by omega)
    go_enter Tryd.func61, Tryd.ntmps61
    go_wp2
    go_end0
    exact ⟨rfl, blk_put H.out 1 _ rfl⟩
  · replace hx := hx (by omega)
    go_enter Tryd.func61, Tryd.ntmps61
    go_wp2
    go_end0
    exact ⟨rfl, blk_put H.out 2 _ rfl⟩
  · replace hx := hx (by omega)
    go_enter Tryd.func61, Tryd.ntmps61
    go_wp2
    go_end0
    exact ⟨rfl, blk_put H.out 3 _ rfl⟩
  · clear hx
    go_enter Tryd.func61, Tryd.ntmps61
    go_wp2
    go_end0
    exact ⟨rfl, blk_put H.out 4 _ rfl⟩
  · clear hx
    go_enter Tryd.func61, Tryd.ntmps61
    go_wp2
    go_end0
    exact ⟨rfl, blk_put H.out 4 _ rfl⟩
  · clear hx
    go_enter Tryd.func61, Tryd.ntmps61
    go_wp2
    go_end0
    exact ⟨rfl, blk_put H.out 5 _ rfl⟩
  · clear hx
    go_enter Tryd.func61, Tryd.ntmps61
    go_wp2
    go_end0
    refine ⟨rfl, blk_put H.out 6 _ ?_⟩
    simp [Deed.cells, setD, int_one]
end Go.Proofs.YtbjmdcjoaapmiaaDoor
