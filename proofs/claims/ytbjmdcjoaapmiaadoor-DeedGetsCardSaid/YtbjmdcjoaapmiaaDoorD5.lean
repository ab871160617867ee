/- The contract of deed's build. -/
import Derived.Test.YtbjmdcjoaapmiaaDoorD4
namespace Go.Proofs.YtbjmdcjoaapmiaaDoor
open Go.RowKit

theorem zeroR : ∀ w, (zeroValue 24).run Tryd.prog w = .ok (.agg zeroD.cells) w := Tryd.zeroValue24
theorem sizeD (d : Deed) : (Tryd.prog.info? 24).map (·.size) = some d.cells.size := by kernel_rfl
theorem oneD (d : Deed) : d.cells.all (·.oneCell') = true := by simp [Deed.cells, Value.oneCell']
theorem drop_cons {α : Type} (l : List α) (k : Nat) (x : α) (h : l[k]? = some x) : l.drop k = x :: l.drop (k + 1) := by
  obtain ⟨hk, hx⟩ := List.getElem?_eq_some_iff.1 h
  rw [List.drop_eq_getElem_cons hk, hx]
theorem fit_small {o x : Nat} (h : fitsN o x = true) (ho : o ≤ 2) : x < 64 := by
  obtain rfl | rfl | rfl : o = 0 ∨ o = 1 ∨ o = 2 := by omega
  all_goals simp [fitsN] at h; omega
theorem foot_row {w : World} {r : Nat} (cs : Array Value) {B : Nat} (hr : B ≤ r) : Below B w (w.setRow r cs) := ⟨rfl, rfl, rfl, by simp [World.setRow], fun k hk => setRow_other w r k cs (by omega)⟩

set_option maxHeartbeats 2000000 in
theorem build_any (op : Int) (ho : isOp op = true) (xs : List Nat) (hx : (opr op).length ≤ xs.length) (v : Value) (G : Nat → Prop) (w : World) (hv : RV w G v xs.length 1 (xs.map uV)) :
    Calls Tryd.prog 29 #[.int .i64 op, v] w fun e w' => e = .returned (.tuple #[(bldD op xs).1.val, .int .i64 ((bldD op xs).2 : Int)]) ∧ Below w.heap.size w w' := by
  have hops := operands_any op ho
  have h7 := Lib.hid (opr_lt op ho)
  have h5 := opr_len op ho
  have hF : fitAll ((opr op).drop 0) (xs.drop 0) = fitAll (opr op) xs := by simp
  have hD : setAll ((opr op).drop 0) (xs.drop 0) (opD op) = setAll (opr op) xs (opD op) := by simp
  unfold bldD
  generalize opr op = os at *
  generalize fitAll os xs = F at *
  generalize setAll os xs (opD op) = D at *
  have hRt : F = true → (if F = true then (D, 0) else (zeroD, 5)) = (D, 0) := fun h => if_pos h
  have hRf : F = false → (if F = true then (D, 0) else (zeroD, 5)) = (zeroD, 5) := fun h => if_neg (by simp [h])
  generalize (if F = true then (D, 0) else (zeroD, 5)) = R at *
  have HRt := Lib.hid hRt
  have HRf := Lib.hid hRf
  clear hRt hRf
  clear ho
  have hxl := hv.len
  unfold maxLen at hxl
  obtain ⟨pv, cv, rfl, _⟩ := id hv
  have HF := Lib.hid hF
  have HD := Lib.hid hD
  clear hF hD
  have hbr0 : Blk ((w.alloc (.cells zeroD.cells 24)).alloc (.cells (opD op).cells 24)) w.heap.size 24 zeroD.cells := (Blk.new _ _ _).alloc _
  have hbg0 : Blk ((w.alloc (.cells zeroD.cells 24)).alloc (.cells (opD op).cells 24)) (w.heap.size + 1) 24 (opD op).cells := two_new w _ _ _
  have hb00 := below_alloc2 w (.cells zeroD.cells 24) (.cells (opD op).cells 24)
  go_enter Tryd.func29, Tryd.ntmps29
  go_wp2_with (first
    | (refine wpList_alloc_agg rfl 24 rfl zeroD.cells zeroR ?_)
    | (refine wpList_store_row rfl 24 _ _ rfl (w.alloc (.cells zeroD.cells 24)).heap.size (opD op).cells rfl rfl 24 _ (heap_alloc_new _ _) (sizeD _) rfl (oneD _) ?_; rw [World.setRow_alloc_new])
    | (go_at_call 33; refine (hops _).mono ?_; clear hops; rintro e w1 ⟨lv, rfl, hown1, hb1⟩; have hr : RV w1 (fun b => w.heap.size + 2 ≤ b) _ _ 1 _ := (RV.of_own hown1).mono (fun k _ hk => by have := (hown1.lt k hk).1; simp at this; omega); obtain ⟨p, c, rfl, _⟩ := id hr))
  have hbr := hbr0.below hb1 hbr0.lt
  have hbg := hbg0.below hb1 hbg0.lt
  have hb01 := below_pre hb00 hb1
  have hgs := hbg.lt
  clear hbr0 hbg0 hb1 hb00 hown1
  go_loopw [14] (fun t wr => ∃ (k : Nat) (dk : Deed), k ≤ os.length ∧ t = .int .i64 k ∧ Hid (fitAll (os.drop k) (xs.drop k) = F) ∧ Hid (setAll (os.drop k) (xs.drop k) dk = D) ∧ Blk wr (w.heap.size + 1) 24 dk.cells ∧ Foot (fun b => b = w.heap.size + 1) w1 wr) (fun t _ => os.length - (intOf t).toNat)
  case atStart => exact ⟨0, opD op, by omega, rfl, HF, HD, hbg, Foot.refl _ _⟩
  case round =>
    obtain ⟨k, dk, hk, rfl, hf, hd, hbk, hfoot⟩ := hrel
    have hbw : Below w.heap.size w wr := hb01.trans (hfoot.below (B := w.heap.size) (by omega) (fun b hb => by omega))
    by_cases hlt : k < os.length
    · obtain ⟨o, ho1⟩ : ∃ o, os[k]? = some o := ⟨_, List.getElem?_eq_getElem hlt⟩
      obtain ⟨x, hx1⟩ : ∃ x, xs[k]? = some x := ⟨_, List.getElem?_eq_getElem (by omega)⟩
      have ho7 := h7.out o (List.mem_of_getElem? ho1)
      have hf2 := hf.out
      have hd2 := hd.out
      rw [drop_cons os k o ho1, drop_cons xs k x hx1] at hf2 hd2
      rw [fitAll] at hf2
      rw [setAll] at hd2
      obtain ⟨b, off, rfl, _, _, hcell0⟩ := (hr.foot hfoot (fun b hb e => by omega)).at1 k (oV o) (by rw [List.getElem?_map, ho1]; rfl)
      have hcell : wr.cell? ⟨b, off + k, none⟩ = some (.int .i64 (o : Int)) := hcell0
      obtain ⟨b2, off2, rfl, _, _, hcell1⟩ := (hv.below hbw (fun k hk _ => hk)).at1 k (uV x) (by rw [List.getElem?_map, hx1]; rfl)
      have hcell2 : wr.cell? ⟨b2, off2 + k, none⟩ = some (.int .u64 (x : Int)) := hcell1
      have hkx : k < xs.length := by omega
      have hfit := fits_any o x ho7 wr
      have hbr2 := hbr.foot hfoot (by omega)
      clear hcell0 hcell1 ho1 hx1 hf hd
      by_cases hfx : fitsN o x = true
      · have hset := set_any o x ho7 (fit_small hfx) dk (w.heap.size + 1) wr hbk
        rw [hfx] at hfit hf2
        rw [Bool.true_and] at hf2
        have HF2 := Lib.hid hf2
        have HD2 := Lib.hid hd2
        clear hf2 hd2 hfx
        go_wp2_with (first
          | (go_at_call 60; with_reducible refine hfit.mono ?_; clear hfit; rintro e w' ⟨rfl, rfl⟩)
          | (go_at_call 61; with_reducible refine hset.mono ?_; clear hset; rintro e w2 ⟨rfl, hbk2, hfoot2⟩))
        go_roundw
        case rel => exact ⟨k + 1, _, by omega, by go_num, HF2, HD2, hbk2, hfoot.trans hfoot2⟩
        case measure => simp [intOf]; omega
      · have hfx' : fitsN o x = false := by simpa using hfx
        rw [hfx'] at hfit hf2
        rw [Bool.false_and] at hf2
        have hRR := Lib.hid (HRf.out hf2.symm)
        clear hf2 hd2 hfx hfx'
        go_wp2_with (first
          | (go_at_call 60; with_reducible refine hfit.mono ?_; clear hfit; rintro e w' ⟨rfl, rfl⟩)
          | (refine wpList_store_row rfl 24 _ _ rfl w.heap.size zeroD.cells rfl rfl 24 _ hbr2 (sizeD _) rfl (oneD _) ?_))
        refine bodyPost_ret (results_row_tmp rfl _ _ w.heap.size 24 zeroD.cells (0, 0) _ rfl (hbr2.row _) Tryd.underlying24 rfl (sizeD _)) rfl ?_
        exact ⟨by rw [hRR.out]; rfl, hbw.trans (foot_row _ (Nat.le_refl _))⟩
    · obtain rfl : k = os.length := by omega
      have hf2 := hf.out
      have hd2 := hd.out
      rw [List.drop_length] at hf2 hd2
      have hRR := Lib.hid (HRt.out (by rw [← hf2]; simp [fitAll]))
      have hdk : dk = D := by rw [← hd2]; simp [setAll]
      subst hdk
      have hbr2 := hbr.foot hfoot (by omega)
      clear hf hd hf2 hd2
      go_wp2_with (first
        | (refine wpList_load_row rfl 24 _ rfl (w.heap.size + 1) rfl 24 _ (0, 0) _ hbk Tryd.underlying24 rfl (sizeD _) ?_)
        | (refine wpList_store_row rfl 24 _ _ rfl w.heap.size dk.cells rfl rfl 24 _ hbr2 (sizeD _) rfl (oneD _) ?_))
      refine bodyPost_ret (results_row_tmp rfl _ _ w.heap.size 24 dk.cells (0, 0) _ rfl (hbr2.row _) Tryd.underlying24 rfl (sizeD _)) rfl ?_
      exact ⟨by rw [hRR.out]; rfl, hbw.trans (foot_row _ (Nat.le_refl _))⟩
end Go.Proofs.YtbjmdcjoaapmiaaDoor
