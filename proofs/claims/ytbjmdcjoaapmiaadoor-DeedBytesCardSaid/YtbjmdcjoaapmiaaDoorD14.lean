/- The contract of deed's Line. -/
import Derived.Test.YtbjmdcjoaapmiaaDoorD8
import Derived.Test.YtbjmdcjoaapmiaaDoorD13
namespace Go.Proofs.YtbjmdcjoaapmiaaDoor
open Go.RowKit

/-- An instruction's line. -/
def lineD (d : Deed) : List UInt8 := if goodD d = true then nameD d.op ++ (opr d.op).flatMap (fun o => textN o (ofD o d)) else [63]
theorem good_op {d : Deed} (h : goodD d = true) : isOp d.op = true := by
  unfold goodD at h
  simp only [Bool.and_eq_true] at h
  exact h.1.1.1
theorem nameD_len (op : Int) : (nameD op).length ≤ 6 := by
  unfold nameD
  split
  · rename_i h
    rcases isOp_cases h with rfl | rfl | rfl | rfl | rfl | rfl | rfl | rfl | rfl | rfl | rfl <;> decide
  · decide
theorem zeroS : ∀ w, (zeroValue 60).run Tryd.prog w = .ok (.agg #[.pointer none, .slice none 0 0]) w := Tryd.zeroValue60

set_option maxHeartbeats 400000 in
theorem Line_bad (d : Deed) (hd : d.ok) (hg : ¬ goodD d = true) (w : World) :
    Calls Tryd.prog 15 #[d.val] w fun e w' => e = .returned (sV (lineD d)) ∧ Below w.heap.size w w' := by
  have hgood := Good_any d hd
  rw [show goodD d = false by simpa using hg] at hgood
  rw [show lineD d = [63] by unfold lineD; rw [if_neg hg]]
  have hblk0 := Blk.new w 24 d.cells
  have hb := below_alloc1 w (.cells d.cells 24)
  clear hg hd
  simp only [Deed.val] at hgood ⊢
  go_enter Tryd.func15, Tryd.ntmps15
  go_wp2_with (first
    | (refine wpList_box_agg rfl 24 _ rfl d.cells rfl ?_)
    | (refine wpList_load_row rfl 24 _ rfl w.heap.size rfl 24 _ (0, 0) _ hblk0 Tryd.underlying24 rfl (sizeD _) ?_)
    | (go_at_call 8; (with_reducible refine (hgood _).mono ?_); rintro e w' ⟨rfl, hb2⟩))
  go_ret
  exact ⟨rfl, below_pre hb hb2⟩

set_option maxHeartbeats 2000000 in
theorem Line_good (d : Deed) (hd : d.ok) (hg : goodD d = true) (w : World) (hT : Tabs w) :
    Calls Tryd.prog 15 #[d.val] w fun e w' => e = .returned (sV (lineD d)) ∧ Below w.heap.size w w' := by
  have hop := good_op hg
  have hgood := Good_any d hd
  rw [hg] at hgood
  have hname := Name_any d.op
  have hnl := nameD_len d.op
  have hops := operands_any d.op hop
  have h7 := Lib.hid (opr_lt d.op hop)
  have h5 := opr_len d.op hop
  have hof := fun o ho7 => of_any o ho7 d hd
  have hofl := Lib.hid (fun o => ofD_lt o d hd)
  have hL : Hid (nameD d.op ++ (opr d.op).flatMap (fun o => textN o (ofD o d)) = lineD d) := Lib.hid (by unfold lineD; rw [if_pos hg])
  generalize lineD d = L at *
  have hblk0 := Blk.new w 24 d.cells
  have hb0 := below_alloc1 w (.cells d.cells 24)
  clear hg hd hop
  simp only [Deed.val] at hgood hof ⊢
  unfold sV at hname
  obtain ⟨S, hS⟩ : ∃ S : ByteArray, S = ⟨(nameD d.op).toArray⟩ := ⟨_, rfl⟩
  have hSl : S.data.toList = nameD d.op := by rw [hS]
  have hSs : S.size ≤ 6 := by rw [hS, size_mk]; exact hnl
  rw [← hS] at hname
  rw [← hSl] at hL
  clear hS hSl hnl
  generalize opr d.op = os at *
  have hc0 : (w.alloc (.cells d.cells 24)).cell? ⟨w.heap.size, 0, none⟩ = some (.int .i64 d.op) := hblk0.cell 0
  go_enter Tryd.func15, Tryd.ntmps15
  go_wp2_with (first
    | (refine wpList_box_agg rfl 24 _ rfl d.cells rfl ?_)
    | (refine wpList_alloc_agg rfl 60 rfl _ zeroS ?_)
    | (refine wpList_load_row rfl 24 _ rfl w.heap.size rfl 24 _ (0, 0) _ hblk0 Tryd.underlying24 rfl (sizeD _) ?_)
    | (go_at_call 8; (with_reducible refine (hgood _).mono ?_); clear hgood; rintro e w1 ⟨rfl, hb1⟩; have hblk1 := (hblk0.below hb1 hblk0.lt).alloc (.cells #[.pointer none, .slice none 0 0] 60); have hc1 : (w1.alloc (.cells #[.pointer none, .slice none 0 0] 60)).cell? ⟨w.heap.size, 0, none⟩ = some (.int .i64 d.op) := hblk1.cell 0; have hsb1 := SbAt.new w1)
    | (go_at_call 11; (with_reducible refine (hname _).mono ?_); clear hname; rintro e w2 ⟨rfl, hb2⟩; have hsb2 := hsb1.later hb2; have hblk2 := hblk1.below hb2 hblk1.lt)
    | (go_at_call 32; refine (WriteS_any _ _ _ S _ hsb2 (by simp; omega) (by have := hb2.size; simp at this; omega)).mono ?_; rintro e w3 ⟨rfl, hsb3, hf3⟩; have hblk3 := hf3.blk hblk2 (by have := hblk0.lt; have := hb1.size; simp at *; omega) (by decide); have hc3 : w3.cell? ⟨w.heap.size, 0, none⟩ = some (.int .i64 d.op) := hblk3.cell 0)
    | (go_at_call 33; (with_reducible refine (hops _).mono ?_); clear hops; rintro e w4 ⟨lv, rfl, hown4, hb4⟩; obtain ⟨p, c, rfl, _⟩ := id (RV.of_own hown4)))
  have hgb : w.heap.size < w1.heap.size := by have := hblk0.lt; have := hb1.size; simp at *; omega
  have hs1 : w1.heap.size + 1 ≤ w2.heap.size := by have := hb2.size; simp at this; omega
  have hbw1 : Below w.heap.size w w1 := below_pre hb0 hb1
  have hbw2 : Below w.heap.size w w2 := hbw1.trans (((Below.refl _ w1).alloc (by omega) _).trans (hb2.mono (by simp; omega)))
  have hbw3 : Below w.heap.size w w3 := hbw2.trans ((hf3.below (Nat.le_refl _) (by omega)).mono (by omega))
  have hbw4 : Below w.heap.size w w4 := hbw3.trans (hb4.mono hbw3.size)
  have hsb4 := hsb3.later hb4
  have hblk4 := hblk3.below hb4 hblk3.lt
  have hown4 := own_mono hown4 (show w1.heap.size ≤ w3.heap.size by have := hf3.size; omega)
  generalize w1.heap.size = b at *
  clear hblk0 hblk1 hblk2 hblk3 hc0 hc1 hc3 hsb1 hsb2 hsb3 hf3 hb1 hb2 hb4 hb0 hs1 hbw1 hbw2 hbw3
  go_loopw [17] (fun t wr => ∃ (k : Nat) (l : List UInt8), k ≤ os.length ∧ t = .int .i64 k ∧ Hid (l ++ (os.drop k).flatMap (fun o => textN o (ofD o d)) = L) ∧ l.length ≤ 6 + 21 * k ∧ Hid (SbAt wr b b l) ∧ Blk wr w.heap.size 24 d.cells ∧ wr.ownsRow b 67 1 (.slice p os.length c) os.length (os.map oV) ∧ b ≤ wr.heap.size ∧ Below w.heap.size w wr) (fun t _ => os.length - (intOf t).toNat)
  case atStart => exact ⟨0, S.data.toList, by omega, rfl, hL, by have : S.data.toList.length = S.size := rfl; omega, Lib.hid hsb4, hblk4, hown4, by obtain ⟨_, _, h⟩ := hsb4.shape; have := h.lt; omega, hbw4⟩
  case round =>
    obtain ⟨k, l, hk, rfl, hl, hll, hsb, hblk, hown, hbs, hbw⟩ := hrel
    by_cases hlt : k < os.length
    · obtain ⟨o, ho1⟩ : ∃ o, os[k]? = some o := ⟨_, List.getElem?_eq_getElem hlt⟩
      have ho7 := h7.out o (List.mem_of_getElem? ho1)
      have hl2 := hl.out
      rw [drop_cons os k o ho1, List.flatMap_cons, ← List.append_assoc] at hl2
      obtain ⟨bl, off, rfl, _, _, hcell0⟩ := (RV.of_own hown).at1 k (oV o) (by rw [List.getElem?_map, ho1]; rfl)
      have hcell : wr.cell? ⟨bl, off + k, none⟩ = some (.int .i64 (o : Int)) := hcell0
      have hofk := hof o ho7 wr
      have hxl := hofl.out o
      generalize ofD o d = x at hofk hl2 hxl
      have htx := fun w' hb' => text_any o x ho7 hxl w' (hT.below (w' := w') hb' (Nat.le_refl _))
      have hxt := textN_len o x hxl
      unfold sV at htx
      obtain ⟨Z, hZ⟩ : ∃ Z : ByteArray, Z = ⟨(textN o x).toArray⟩ := ⟨_, rfl⟩
      have hZl : Z.data.toList = textN o x := by rw [hZ]
      have hZs : Z.size ≤ 21 := by rw [hZ, size_mk]; exact hxt
      rw [← hZ] at htx
      rw [← hZl] at hl2
      have HL2 := Lib.hid hl2
      clear hZ hZl hxt hl2 hl hcell0 ho1 hxl
      have HTX := Lib.hid htx
      clear htx
      go_wp2_with (first
        | (refine wpList_load_row rfl 24 _ rfl w.heap.size rfl 24 _ (0, 0) _ hblk Tryd.underlying24 rfl (sizeD _) ?_)
        | (go_at_call 35; (with_reducible refine hofk.mono ?_); clear hofk; rintro e w5 ⟨rfl, hb5⟩; have hbw5 := hbw.trans (hb5.mono hbw.size); have hsb5 := hsb.out.later hb5; have hblk5 := hblk.below hb5 hblk.lt; have hown5 := ownsRow_below hown hb5 (Nat.le_refl _))
        | (go_at_call 34; (with_reducible refine (HTX.out _ hbw5).mono ?_); rintro e w6 ⟨rfl, hb6⟩; have hbw6 := hbw5.trans (hb6.mono hbw5.size); have hsb6 := hsb5.later hb6; have hblk6 := hblk5.below hb6 hblk5.lt; have hown6 := ownsRow_below hown5 hb6 (Nat.le_refl _))
        | (go_at_call 32; refine (WriteS_any _ _ _ Z _ hsb6 (by omega) (by have := hb5.size; have := hb6.size; omega)).mono ?_; rintro e w7 ⟨rfl, hsb7, hf7⟩))
      have hs6 : b ≤ w6.heap.size := by have := hb5.size; have := hb6.size; omega
      go_roundw
      case rel => exact ⟨k + 1, _, by omega, by go_num, HL2, by rw [List.length_append]; have : Z.data.toList.length = Z.size := rfl; omega, Lib.hid hsb7, hf7.blk hblk6 (by omega) (by decide), hf7.own hown6 (by decide) (by decide) (hsb6.no (by decide)), Nat.le_trans hs6 hf7.size, hbw6.trans ((hf7.below (Nat.le_refl _) hs6).mono (by omega))⟩
      case measure => simp [intOf]; omega
    · obtain rfl : k = os.length := by omega
      have hl2 := hl.out
      rw [List.drop_length, List.flatMap_nil, List.append_nil] at hl2
      subst hl2
      have hst := Tryd.Builder_String_any b b l wr hsb.out hbs
      clear hl hsb
      go_wp2_with (go_at_call 36; (with_reducible refine hst.mono ?_); clear hst; rintro e w5 ⟨rfl, hb5⟩)
      go_ret
      exact ⟨rfl, hbw.trans (hb5.mono (by omega))⟩
theorem Line_any (d : Deed) (hd : d.ok) (w : World) (hT : Tabs w) :
    Calls Tryd.prog 15 #[d.val] w fun e w' => e = .returned (sV (lineD d)) ∧ Below w.heap.size w w' := by
  by_cases h : goodD d = true
  · exact Line_good d hd h w hT
  · exact Line_bad d hd h w
end Go.Proofs.YtbjmdcjoaapmiaaDoor
