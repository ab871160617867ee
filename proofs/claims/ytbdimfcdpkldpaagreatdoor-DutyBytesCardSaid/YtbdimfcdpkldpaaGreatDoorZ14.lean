/- The contracts of held and of a draft's duty. -/
import Derived.Test.YtbdimfcdpkldpaaGreatDoorZ4
import Derived.Test.YtbdimfcdpkldpaaGreatDoorZ5
import Derived.Test.YtbdimfcdpkldpaaGreatDoorYM6
import Derived.Test.YtbdimfcdpkldpaaGreatDoorLB
import Derived.Great.BuildSlice
namespace Go.Proofs.YtbdimfcdpkldpaaGreatDoor
open Go.RowKit

theorem Held_any (x : Nat) (hx : x < 18446744073709551616) (w : World) :
    Calls Tryz.prog 78 #[.int .u64 (x : Int)] w fun e w' => e = .returned (.int .i64 (heldY x)) ∧ w = w' := by
  have hw : Hid (IntKind.i64.wrap (min (x : Int) 9223372036854775807) = heldY x) := Lib.hid (by
    unfold heldY
    rw [IntKind.wrap_i64]
    split <;> omega)
  have hv : Hid (min (x : Int) 9223372036854775807 = heldY x) := Lib.hid (by
    unfold heldY
    split <;> omega)
  clear hx
  go_enter Tryz.func78, Tryz.ntmps78
  go_wp2
  go_ret
  exact ⟨ret_i9 (by first | exact hv.out | exact hw.out), rfl⟩
theorem infoSt : (Tryz.prog.info? 58).map (fun i => (i.zero, i.size, i.bytes)) = some (some (.agg #[.int .i64 0, .int .i64 0, .int .u64 0]), 3, 24) := by kernel_rfl
theorem fill_st (s : St) : Instr.fill (fun i => some (i * 3, 3)) (Array.map (fun x => (Value.agg #[.int .i64 0, .int .i64 0, .int .u64 0]).cells[x % (Value.agg #[.int .i64 0, .int .i64 0, .int .u64 0]).cells.size]!) (Array.range (1 * 3))) [(0, Value.agg #[.int .i64 s.prog, .int .i64 s.grade, .int .u64 (s.mask : Int)])] = some #[.int .i64 s.prog, .int .i64 s.grade, .int .u64 (s.mask : Int)] := by kernel_rfl
section
variable {ops : Array Oper} {o : Oper} {a : Act} {W : World} {K : Act → World → Prop} {Q : Exit → Act → World → Prop} {E : Prop}
theorem wp_lit_st (x : Operand) (ho : o.op = .buildSlice 25 1 #[(0, x)]) (s : St) (hx : a.eval x = .agg #[.int .i64 s.prog, .int .i64 s.grade, .int .u64 (s.mask : Int)])
    (h : K (a.put o.dst (.slice (some ⟨W.heap.size, 0, none⟩) 1 1)) (W.alloc (.cells #[.int .i64 s.prog, .int .i64 s.grade, .int .u64 (s.mask : Int)] 58))) : Oper.wp Tryz.prog o a W K Q := by
  obtain ⟨i0, hi, hz0, hz1, hz2⟩ := info_parts infoSt
  refine wp_buildSlice 25 58 1 _ ho _ i0 _ Tryz.underlying25 hi hz0 (by rw [hz1]; decide) (by rw [hz1]; decide) ?_ h
  rw [hz1]
  simp only [List.map_toArray, List.map_cons, List.map_nil, hx]
  exact fill_st s
theorem step_lit_st (hgd : o.guard = none) (x : Operand) (ho : o.op = .buildSlice 25 1 #[(0, x)]) (s : St) (hx : a.eval x = .agg #[.int .i64 s.prog, .int .i64 s.grade, .int .u64 (s.mask : Int)])
    (h : K (a.put o.dst (.slice (some ⟨W.heap.size, 0, none⟩) 1 1)) (W.alloc (.cells #[.int .i64 s.prog, .int .i64 s.grade, .int .u64 (s.mask : Int)] 58))) : if Region.wanted o (yielded ops a.tmps) = true then Oper.wp Tryz.prog o a W K Q else E := by
  rw [if_pos (by simp [Region.wanted, hgd])]
  exact wp_lit_st x ho s hx h
theorem flat_snocS (ss : List St) (s : St) : (ss ++ [s]).flatMap stCells = ss.flatMap stCells ++ stCells s := by simp
theorem wp_append_st (s x : Operand) (ho : o.op = .call { callee := .builtin .append, args := #[s, x], argTypes := #[25, 25] })
    (B : Nat) {v : Value} {n : Nat} {ss : List St} (hown : W.ownsRow B 58 3 v n (ss.flatMap stCells)) (hs : a.eval s = v) (g : Nat) (hx : a.eval x = .slice (some ⟨g, 0, none⟩) 1 1) (t : St) (hg : Blk W g 58 #[.int .i64 t.prog, .int .i64 t.grade, .int .u64 (t.mask : Int)])
    (hn : n + 1 ≤ 100000) (hB : B ≤ W.heap.size)
    (h : ∀ v' w', w'.ownsRow B 58 3 v' (n + 1) ((ss ++ [t]).flatMap stCells) → Below B W w' → Foot (fun k => v.ownBlock = some k) W w' → K (a.put o.dst v') w') : Oper.wp Tryz.prog o a W K Q := by
  obtain ⟨i0, hi, hz0, hz1, hz2⟩ := info_parts infoSt
  have hr : RV W (fun k => k = g) (.slice (some ⟨g, 0, none⟩) 1 1) 1 3 (stCells t) := by
    refine ⟨_, _, rfl, Nat.le_refl _, by unfold maxLen; omega, (fun e => by cases e), rfl, .inr ⟨_, 0, rfl, hg.lt, rfl, fun j u hu => ?_⟩⟩
    rw [Nat.zero_add, hg.cell j]
    simpa [stCells] using hu
  obtain ⟨v', w', hr, h2, h3, h4⟩ := run_append_rv (P := Tryz.prog) W B 25 o.type 58 i0 (.agg #[.int .i64 0, .int .i64 0, .int .u64 0]) 3 24 Tryz.underlying25 hi hz0 hz1 hz2 rfl (by decide) v n (ss.flatMap stCells) hown _ _ 1 (stCells t) hr (fun u hu => by
    simp [stCells] at hu
    rcases hu with rfl | rfl | rfl <;> rfl) (by unfold maxLen; omega) (by omega) (by omega)
  unfold Oper.wp execOp
  simp only [ho, resolve, invoke, builtin, Sem.run_bind, Sem.run_pure, Result.andThen_ok, List.map_toArray, List.map_cons, List.map_nil, hs, hx, hr]
  refine h v' w' (by rw [flat_snocS]; exact h2) ?_ (Foot.of_grown h3)
  exact (Below.refl B W).grown h3 (by omega) (fun j hj => (hown.lt j hj).1)
theorem step_append_st (hgd : o.guard = none) (s x : Operand) (ho : o.op = .call { callee := .builtin .append, args := #[s, x], argTypes := #[25, 25] })
    (B : Nat) {v : Value} {n : Nat} {ss : List St} (hown : W.ownsRow B 58 3 v n (ss.flatMap stCells)) (hs : a.eval s = v) (g : Nat) (hx : a.eval x = .slice (some ⟨g, 0, none⟩) 1 1) (t : St) (hg : Blk W g 58 #[.int .i64 t.prog, .int .i64 t.grade, .int .u64 (t.mask : Int)])
    (hn : n + 1 ≤ 100000) (hB : B ≤ W.heap.size)
    (h : ∀ v' w', w'.ownsRow B 58 3 v' (n + 1) ((ss ++ [t]).flatMap stCells) → Below B W w' → Foot (fun k => v.ownBlock = some k) W w' → K (a.put o.dst v') w') : if Region.wanted o (yielded ops a.tmps) = true then Oper.wp Tryz.prog o a W K Q else E := by
  rw [if_pos (by simp [Region.wanted, hgd])]
  exact wp_append_st s x ho B hown hs g hx t hg hn hB h
end
theorem rs_own {w : World} {B n : Nat} {v : Value} {ss : List St} (h : w.ownsRow B 58 3 v n (ss.flatMap stCells)) (hn : n = ss.length) : RSs w (fun k => B ≤ k) v ss := by
  subst hn
  exact RV.mono (RV.of_own h) (fun k _ hk => (h.lt k hk).1)
/-- A slice of triples that reads. -/
def RXX (w : World) (G : Nat → Prop) (v : Value) (xss : List (List Nat)) : Prop := ∃ us : List Value, us.length = xss.length ∧ RV w G v xss.length 1 us ∧ ∀ (k : Nat) (u : Value) (xs : List Nat), us[k]? = some u → xss[k]? = some xs → RV w G u xs.length 1 (xs.map uV)
theorem RXX.below {w w' : World} {B : Nat} {G : Nat → Prop} {v : Value} {xss : List (List Nat)} (h : RXX w G v xss) (hb : Below B w w') (hG : ∀ k, k < w.heap.size → G k → k < B) : RXX w' G v xss := by
  obtain ⟨us, hl, hr, he⟩ := h
  exact ⟨us, hl, RV.below hr hb hG, fun k u xs hu hx => RV.below (he k u xs hu hx) hb hG⟩
theorem RXX.drew {w : World} {G : Nat → Prop} {v : Value} {xss : List (List Nat)} (h : RXX w G v xss) : RXX w.drew G v xss := by
  obtain ⟨us, hl, hr, he⟩ := h
  exact ⟨us, hl, RV.drew hr, fun k u xs hu hx => RV.drew (he k u xs hu hx)⟩
theorem foot_below {w w' : World} {B : Nat} (h : Below B w w') : Foot (fun k => B ≤ k) w w' := ⟨h.os, h.tape, h.output, h.size, fun k _ hn => h.block k (by omega)⟩
theorem RXX.shape {w : World} {G : Nat → Prop} {v : Value} {xss : List (List Nat)} (h : RXX w G v xss) : ∃ p c, v = .slice p xss.length c := by
  obtain ⟨us, hl, ⟨p, c, hv, _⟩, he⟩ := h
  exact ⟨p, c, hv⟩
theorem RXX.at {w : World} {G : Nat → Prop} {p : Option Addr} {n c : Nat} {xss : List (List Nat)} (h : RXX w G (.slice p n c) xss) {k : Nat} {xs : List Nat} (hx : xss[k]? = some xs) :
    ∃ b off q cq, p = some ⟨b, off, none⟩ ∧ w.cell? ⟨b, off + k, none⟩ = some (.slice q xs.length cq) ∧ RV w G (.slice q xs.length cq) xs.length 1 (xs.map uV) := by
  obtain ⟨us, hl, hr, he⟩ := h
  have hk : k < us.length := by rw [hl]; exact (List.getElem?_eq_some_iff.1 hx).1
  obtain ⟨u, hu⟩ : ∃ u, us[k]? = some u := ⟨_, List.getElem?_eq_getElem hk⟩
  have hrp := he k u xs hu hx
  have hn : n = xss.length := by
    obtain ⟨_, _, hv, _⟩ := hr
    cases hv
    rfl
  subst hn
  obtain ⟨b, off, rfl, _, _, hc⟩ := hr.at1 k u hu
  obtain ⟨q, cq, rfl, _⟩ := id hrp
  exact ⟨b, off, q, cq, rfl, hc, hrp⟩

set_option maxRecDepth 100000 in
set_option maxHeartbeats 8000000 in
theorem DutyOf_any (dr : Dr) (hok : dr.ok) (h7 : dr.head.length = 7) (hfs : dr.starts.length ≤ 20000) (hv pv sv : Value) (G : Nat → Prop) (w : World) (hG : ∀ k, G k → k < w.heap.size) (hh : RV w G hv 7 1 (dr.head.map uV)) (hp : RPP w G pv dr.progs) (hs : RXX w G sv dr.starts) :
    Calls Tryz.prog 37 #[.agg #[hv, pv, sv]] w fun e w' => (∃ vp vs, e = .returned (.tuple #[.agg ((retD dr).cells vp vs), .int .i64 (checkY (drS dr) : Nat)]) ∧ DV w' (fun k => G k ∨ w.heap.size ≤ k) vp vs (retD dr)) ∧ Below w.heap.size w w' := by
  have hchk := fun vp vs W (hW : DV W (fun k => G k ∨ w.heap.size ≤ k) vp vs (drH dr)) => CheckY_any (drH dr) (drH_ok hok) vp vs _ W hW
  rw [check_held] at hchk
  obtain ⟨pp, cp, rfl, _, _⟩ := hp.shape
  obtain ⟨sp, sc, rfl⟩ := hs.shape
  obtain ⟨hd, ps, ss⟩ := dr
  simp only at h7 hfs hh hp hs hchk ⊢
  obtain ⟨a0, a1, a2, a3, a4, a5, a6, rfl⟩ : ∃ a0 a1 a2 a3 a4 a5 a6, hd = [a0, a1, a2, a3, a4, a5, a6] := by
    match hd, h7 with
    | [a0, a1, a2, a3, a4, a5, a6], _ => exact ⟨a0, a1, a2, a3, a4, a5, a6, rfl⟩
  obtain ⟨hpA, hcA, rfl, _⟩ := id hh
  obtain ⟨gb, go, rfl, hgl, _, _⟩ := hh.at1 0 (uV a0) rfl
  have hcell : ∀ k x : Nat, [a0, a1, a2, a3, a4, a5, a6][k]? = some x → w.cell? ⟨gb, go + k, none⟩ = some (.int .u64 (x : Int)) := fun k x hx => by
    obtain ⟨b, off, e, _, _, hc⟩ := hh.atU hx
    cases e
    exact hc
  have big : ∀ x ∈ [a0, a1, a2, a3, a4, a5, a6], x < 18446744073709551616 := hok.big
  have hl0 := fun W => Held_any a0 (big a0 (by simp)) W
  have hl1 := fun W => Held_any a1 (big a1 (by simp)) W
  have hl2 := fun W => Held_any a2 (big a2 (by simp)) W
  have hl3 := fun W => Held_any a3 (big a3 (by simp)) W
  have hstb : Hid (∀ l ∈ ss, l.length = 3 ∧ ∀ x ∈ l, x < 18446744073709551616) := Lib.hid hok.starts
  obtain ⟨DH, hDH⟩ : ∃ DH : List St → Dut, DH = fun s => ⟨heldY a0, heldY a1, heldY a2, heldY a3, a4, a5, a6, ps, s⟩ := ⟨_, rfl⟩
  have hDr : drH ⟨[a0, a1, a2, a3, a4, a5, a6], ps, ss⟩ = DH (ss.map stH) := by rw [hDH]; rfl
  rw [hDr] at hchk
  have hret : Hid (checkY (drS ⟨[a0, a1, a2, a3, a4, a5, a6], ps, ss⟩) = 0 → DH (ss.map stH) = retD ⟨[a0, a1, a2, a3, a4, a5, a6], ps, ss⟩) := Lib.hid (fun h0 => by rw [← hDr, drH_same h0]; unfold retD; rw [if_pos h0])
  have hretz : Hid (checkY (drS ⟨[a0, a1, a2, a3, a4, a5, a6], ps, ss⟩) ≠ 0 → retD ⟨[a0, a1, a2, a3, a4, a5, a6], ps, ss⟩ = zeroY) := Lib.hid (fun h0 => by unfold retD; rw [if_neg h0])
  have HCK := Lib.hid hchk
  have HDp : Hid (∀ s, (DH s).progs = ps ∧ (DH s).starts = s) := Lib.hid (by rw [hDH]; exact fun s => ⟨rfl, rfl⟩)
  have HDc : Hid (∀ vp vs, (#[.int .i64 (heldY a0), .int .i64 (heldY a1), .int .i64 (heldY a2), .int .i64 (heldY a3), .int .u64 (a4 : Int), .float .f64 a5, .float .f64 a6, vp, vs] : Array Value) = (DH []).cells vp vs) := Lib.hid (by rw [hDH]; exact fun _ _ => rfl)
  have HDs : Hid (∀ s t vp vs vs', ((DH s).cells vp vs).setIfInBounds 8 vs' = (DH t).cells vp vs') := Lib.hid (by rw [hDH]; exact fun _ _ _ _ _ => rfl)
  generalize checkY (drS ⟨[a0, a1, a2, a3, a4, a5, a6], ps, ss⟩) = code at *
  generalize retD ⟨[a0, a1, a2, a3, a4, a5, a6], ps, ss⟩ = R at *
  clear hok h7 hchk hDr hDH
  have HP := Lib.hid hp
  have HS := Lib.hid hs
  have HGG := Lib.hid hG
  obtain ⟨OB, hOB⟩ : ∃ OB, OB = w.alloc (.cells #[.slice (some ⟨gb, go, none⟩) 7 hcA, .slice pp ps.length cp, .slice sp ss.length sc] 71) := ⟨_, rfl⟩
  have k1 : Blk (OB.alloc (.cells (zeroY.cells (.slice none 0 0) (.slice none 0 0)) 27)) w.heap.size 71 #[.slice (some ⟨gb, go, none⟩) 7 hcA, .slice pp ps.length cp, .slice sp ss.length sc] := by rw [hOB]; exact (Blk.new w _ _).alloc _
  have k2 : Blk (OB.alloc (.cells (zeroY.cells (.slice none 0 0) (.slice none 0 0)) 27)) (w.heap.size + 1) 27 (zeroY.cells (.slice none 0 0) (.slice none 0 0)) := by rw [hOB]; exact two_new w _ _ _
  have hb0 : Below w.heap.size w (OB.alloc (.cells (zeroY.cells (.slice none 0 0) (.slice none 0 0)) 27)) := by rw [hOB]; exact below_alloc2 _ _ _
  rw [hOB] at k1 k2 hb0
  clear hOB
  have c0 := k1.cell 0
  have c1 := k1.cell 1
  have c2 := k1.cell 2
  go_enter Tryz.func37, Tryz.ntmps37
  go_wp2_with (refine wpList_alloc_agg rfl 27 rfl (zeroY.cells (.slice none 0 0) (.slice none 0 0)) zeroYR ?_)
  try simp only [World.size_alloc]
  rename_i K9 hK9
  obtain ⟨W, hW⟩ : ∃ W, W = (w.alloc (.cells #[.slice (some ⟨gb, go, none⟩) 7 hcA, .slice pp ps.length cp, .slice sp ss.length sc] 71)).alloc (.cells (zeroY.cells (.slice none 0 0) (.slice none 0 0)) 27) := ⟨_, rfl⟩
  rw [← hW] at k1 k2 hb0 ⊢
  clear hW c0 c1 c2
  have hbd : Below w.heap.size w W.drew := hb0.drew
  have hk1 : Blk W.drew w.heap.size 71 #[.slice (some ⟨gb, go, none⟩) 7 hcA, .slice pp ps.length cp, .slice sp ss.length sc] := k1
  have hk2 : Blk W.drew (w.heap.size + 1) 27 (zeroY.cells (.slice none 0 0) (.slice none 0 0)) := k2
  have hln := k2.lt
  have hc : ∀ k x : Nat, [a0, a1, a2, a3, a4, a5, a6][k]? = some x → W.drew.cell? ⟨gb, go + k, none⟩ = some (.int .u64 (x : Int)) := fun k x hx => (World.cell?_of_block (a := ⟨gb, go + k, none⟩) (hbd.block gb hgl)).trans (hcell k x hx)
  have hgW : gb < W.drew.heap.size := Nat.lt_of_lt_of_le hgl hbd.size
  clear hcell hh hp hs
  have HFIN : Hid (∀ (z6 z7 z8 z9 z10 z11 z12 z13 z14 z15 z16 z17 z18 z19 z20 z21 z22 z23 z24 z25 z26 z27 z28 z29 z30 z31 z32 z33 z34 z35 z36 z37 z38 z39 z40 z41 z42 z43 z44 z45 z46 z47 z48 z49 z50 z51 z52 z53 z54 z55 z56 z57 z58 z59 z60 z61 z62 z63 z64 z65 z66 z67 z68 z69 z70 z71 z72 : Value), K9 { tmps := #[.agg #[.slice (some ⟨gb, go, none⟩) 7 hcA, .slice pp ps.length cp, .slice sp ss.length sc], .pointer (some ⟨w.heap.size, 0, none⟩), .pointer (some ⟨w.heap.size + 1, 0, none⟩), .int .i64 0, .slice (some ⟨gb, go, none⟩) 7 hcA, .pointer (some ⟨W.drew.heap.size, 0, none⟩), z6, z7, z8, z9, z10, z11, z12, z13, z14, z15, z16, z17, z18, z19, z20, z21, z22, z23, z24, z25, z26, z27, z28, z29, z30, z31, z32, z33, z34, z35, z36, z37, z38, z39, z40, z41, z42, z43, z44, z45, z46, z47, z48, z49, z50, z51, z52, z53, z54, z55, z56, z57, z58, z59, z60, z61, z62, z63, z64, z65, z66, z67, z68, z69, z70, z71, z72], defers := [] } (W.drew.alloc (.cells ((DH []).cells (.slice pp ps.length cp) (.slice none 0 0)) 27))) := Lib.hid (by
    intro z6 z7 z8 z9 z10 z11 z12 z13 z14 z15 z16 z17 z18 z19 z20 z21 z22 z23 z24 z25 z26 z27 z28 z29 z30 z31 z32 z33 z34 z35 z36 z37 z38 z39 z40 z41 z42 z43 z44 z45 z46 z47 z48 z49 z50 z51 z52 z53 z54 z55 z56 z57 z58 z59 z60 z61 z62 z63 z64 z65 z66 z67 z68 z69 z70 z71 z72
    apply hK9
    have ka := below_alloc1 W.drew (.cells ((DH []).cells (.slice pp ps.length cp) (.slice none 0 0)) 27)
    have m0 := hk1.below ka hk1.lt
    have m1 := hk2.below ka hk2.lt
    have m2 := Blk.new W.drew 27 ((DH []).cells (.slice pp ps.length cp) (.slice none 0 0))
    have hbs : Below w.heap.size w (W.drew.alloc (.cells ((DH []).cells (.slice pp ps.length cp) (.slice none 0 0)) 27)) := hbd.trans (ka.mono hbd.size)
    have hdl : w.heap.size + 1 < W.drew.heap.size := hln
    obtain ⟨Wf, hWf⟩ : ∃ Wf, Wf = W.drew.alloc (.cells ((DH []).cells (.slice pp ps.length cp) (.slice none 0 0)) 27) := ⟨_, rfl⟩
    rw [← hWf] at m0 m1 m2 hbs ⊢
    clear hWf ka
    have hPf := Lib.hid (HP.out.later hbs)
    have hSf := Lib.hid (RXX.below HS.out hbs (fun k _ hk => HGG.out k hk))
    have c2 : Wf.cell? ⟨w.heap.size, 2, none⟩ = some (.slice sp ss.length sc) := m0.cell 2
    obtain ⟨db, hdb⟩ : ∃ db, db = W.drew.heap.size := ⟨_, rfl⟩
    have hdb1 : w.heap.size + 1 < db := by rw [hdb]; exact hdl
    rw [← hdb] at m2 ⊢
    clear hdl hdb hln
    have HM1 := Lib.hid m1
    have HM2 := Lib.hid m2
    go_wp2
    clear m0 m1 m2 c2
    go_loopw [44] (fun t wr => ∃ (k : Nat) (vs : Value), k ≤ ss.length ∧ t = .int .i64 k ∧ wr.ownsRow (w.heap.size + 2) 58 3 vs k (((ss.take k).map stH).flatMap stCells) ∧ Hid (Blk wr db 27 ((DH ((ss.take k).map stH)).cells (.slice pp ps.length cp) vs)) ∧ Hid (Blk wr (w.heap.size + 1) 27 (zeroY.cells (.slice none 0 0) (.slice none 0 0))) ∧ Hid (RPP wr G (.slice pp ps.length cp) ps) ∧ Hid (RXX wr G (.slice sp ss.length sc) ss) ∧ Below w.heap.size w wr) (fun t _ => ss.length - (intOf t).toNat)
    case atStart => exact ⟨0, .slice none 0 0, by omega, rfl, World.ownsRow_nil _ _ _ _, HM2, HM1, hPf, hSf, hbs⟩
    case round =>
      clear HM1 HM2 hPf hSf hbs
      obtain ⟨k, vs, hk, rfl, hown, hB, hZ, hP, hS, hb⟩ := hrel
      obtain ⟨vsp, vsc, rfl⟩ : ∃ p c, vs = .slice p k c := by
        obtain ⟨p, c, hv, _⟩ := RV.of_own hown
        exact ⟨p, c, hv⟩
      by_cases hlt : k < ss.length
      · obtain ⟨xs, hx⟩ : ∃ xs, ss[k]? = some xs := ⟨_, List.getElem?_eq_getElem hlt⟩
        obtain ⟨b1, o1, q, cq, rfl, hcx, hrx⟩ := hS.out.at hx
        obtain ⟨h3, hxl⟩ := hstb.out xs (List.mem_of_getElem? hx)
        have hst : (ss.take (k + 1)).map stH = (ss.take k).map stH ++ [stH xs] := by rw [List.take_add_one, hx]; simp
        have HST := Lib.hid hst
        obtain ⟨y0, y1, y2, rfl⟩ : ∃ y0 y1 y2, xs = [y0, y1, y2] := by
          match xs, h3 with
          | [y0, y1, y2], _ => exact ⟨y0, y1, y2, rfl⟩
        obtain ⟨b2, o2, rfl, hl2, hG2, hd0⟩ := hrx.atU (k := 0) (x := y0) rfl
        obtain ⟨b2', o2', e2, _, _, hd1⟩ := hrx.atU (k := 1) (x := y1) rfl
        cases e2
        obtain ⟨b2', o2', e2, _, _, hd2⟩ := hrx.atU (k := 2) (x := y2) rfl
        cases e2
        have hm0 := fun W => Held_any y0 (hxl y0 (by simp)) W
        have hm1 := fun W => Held_any y1 (hxl y1 (by simp)) W
        have hbw := hb.size
        have hdlt := hB.out.lt
        clear hx hst h3 hrx hxl
        go_wp2_with fail
        have hd0' : wr.drew.cell? ⟨b2, o2, none⟩ = some (.int .u64 (y0 : Int)) := hd0
        have hBd : Blk wr.drew db 27 ((DH ((ss.take k).map stH)).cells (.slice pp ps.length cp) (.slice vsp k vsc)) := hB.out
        have hbd2 : Below w.heap.size w wr.drew := hb.drew
        have hgl2 := HGG.out b2 hG2
        have hwd : w.heap.size + 2 ≤ wr.drew.heap.size := (show w.heap.size + 2 ≤ wr.heap.size by omega)
        refine wp_region_held_drew (S := fun w' => Below (w.heap.size + 2) wr.drew w') (by kernel_rfl) (Below.refl _ _) (fun hT0 => ?_)
        refine wpAnyH_take (i := 0) (v := ?_) rfl (by kernel_rfl) (by kernel_rfl) (by kernel_rfl) (fun _ _ _ h => h) (Or.inl ⟨by rfl, ?_⟩) hT0 ?_
        rotate_left
        · intro w1 _; go_simp; with_reducible rfl
        try simp only [List.getElem_toArray, List.getElem_cons_zero, Act.put, List.setIfInBounds_toArray, List.set_cons_zero, List.set_cons_succ]
        refine wpAnyH_take (i := 2) (v := ?_) rfl (by kernel_rfl) (by kernel_rfl) (by kernel_rfl) (fun _ _ _ h => h) (Or.inl ⟨by rfl, ?_⟩) hT0 ?_
        rotate_left
        · intro w1 _; go_simp; with_reducible rfl
        try simp only [List.getElem_toArray, List.getElem_cons_zero, List.getElem_cons_succ, Act.put, List.setIfInBounds_toArray, List.set_cons_zero, List.set_cons_succ]
        refine wpAnyH_take (i := 3) (v := ?_) rfl (by kernel_rfl) (by kernel_rfl) (by kernel_rfl) (fun _ _ _ h => h) (Or.inl ⟨by rfl, ?_⟩) hT0 ?_
        rotate_left
        · intro w1 _; go_simp; with_reducible rfl
        try simp only [List.getElem_toArray, List.getElem_cons_zero, List.getElem_cons_succ, Act.put, List.setIfInBounds_toArray, List.set_cons_zero, List.set_cons_succ]
        refine wpAnyH_take (i := 4) (v := .int .u64 (y0 : Int)) rfl (by kernel_rfl) (by kernel_rfl) (by kernel_rfl) (fun _ _ _ h => h) (Or.inl ⟨by rfl, fun w1 hS1 => by have h0 : w1.cell? ⟨b2, o2, none⟩ = some (.int .u64 (y0 : Int)) := (World.cell?_of_block (a := ⟨b2, o2, none⟩) (hS1.block b2 (by omega))).trans hd0; go_simp⟩) hT0 ?_
        try simp only [List.getElem_toArray, List.getElem_cons_zero, List.getElem_cons_succ, Act.put, List.setIfInBounds_toArray, List.set_cons_zero, List.set_cons_succ]
        refine wpAnyH_take (i := 6) (v := ?_) rfl (by kernel_rfl) (by kernel_rfl) (by kernel_rfl) (fun _ _ _ h => h) (Or.inl ⟨by rfl, ?_⟩) hT0 ?_
        rotate_left
        · intro w1 _; go_simp; with_reducible rfl
        try simp only [List.getElem_toArray, List.getElem_cons_zero, List.getElem_cons_succ, Act.put, List.setIfInBounds_toArray, List.set_cons_zero, List.set_cons_succ]
        refine wpAnyH_take (i := 7) (v := ?_) rfl (by kernel_rfl) (by kernel_rfl) (by kernel_rfl) (fun _ _ _ h => h) (Or.inl ⟨by rfl, ?_⟩) hT0 ?_
        rotate_left
        · intro w1 _; go_simp; with_reducible rfl
        try simp only [List.getElem_toArray, List.getElem_cons_zero, List.getElem_cons_succ, Act.put, List.setIfInBounds_toArray, List.set_cons_zero, List.set_cons_succ]
        refine wpAnyH_take (i := 8) (v := .int .u64 (y1 : Int)) rfl (by kernel_rfl) (by kernel_rfl) (by kernel_rfl) (fun _ _ _ h => h) (Or.inl ⟨by rfl, fun w1 hS1 => by have h0 : w1.cell? ⟨b2, o2 + 1, none⟩ = some (.int .u64 (y1 : Int)) := (World.cell?_of_block (a := ⟨b2, o2 + 1, none⟩) (hS1.block b2 (by omega))).trans hd1; go_simp⟩) hT0 ?_
        try simp only [List.getElem_toArray, List.getElem_cons_zero, List.getElem_cons_succ, Act.put, List.setIfInBounds_toArray, List.set_cons_zero, List.set_cons_succ]
        refine wpAnyH_take (i := 10) (v := ?_) rfl (by kernel_rfl) (by kernel_rfl) (by kernel_rfl) (fun _ _ _ h => h) (Or.inl ⟨by rfl, ?_⟩) hT0 ?_
        rotate_left
        · intro w1 _; go_simp; with_reducible rfl
        try simp only [List.getElem_toArray, List.getElem_cons_zero, List.getElem_cons_succ, Act.put, List.setIfInBounds_toArray, List.set_cons_zero, List.set_cons_succ]
        refine wpAnyH_take (i := 11) (v := ?_) rfl (by kernel_rfl) (by kernel_rfl) (by kernel_rfl) (fun _ _ _ h => h) (Or.inl ⟨by rfl, ?_⟩) hT0 ?_
        rotate_left
        · intro w1 _; go_simp; with_reducible rfl
        try simp only [List.getElem_toArray, List.getElem_cons_zero, List.getElem_cons_succ, Act.put, List.setIfInBounds_toArray, List.set_cons_zero, List.set_cons_succ]
        refine wpAnyH_take (i := 12) (v := .int .u64 (y2 : Int)) rfl (by kernel_rfl) (by kernel_rfl) (by kernel_rfl) (fun _ _ _ h => h) (Or.inl ⟨by rfl, fun w1 hS1 => by have h0 : w1.cell? ⟨b2, o2 + 2, none⟩ = some (.int .u64 (y2 : Int)) := (World.cell?_of_block (a := ⟨b2, o2 + 2, none⟩) (hS1.block b2 (by omega))).trans hd2; go_simp⟩) hT0 ?_
        try simp only [List.getElem_toArray, List.getElem_cons_zero, List.getElem_cons_succ, Act.put, List.setIfInBounds_toArray, List.set_cons_zero, List.set_cons_succ]
        refine wpAnyH_ready (rs := [1, 5]) (by kernel_rfl) (by simp) ?_
        refine AllReadyH.cons rfl (fun K hK => ?_) (AllReadyH.cons rfl (fun K hK => ?_) AllReadyH.nil)
        · have hq8 : (wr.drew).cell? ⟨db, 8, none⟩ = some (.slice vsp k vsc) := ((hBd : Blk wr.drew db 27 _)).cell 8
          go_simp
          refine hK.out _ _ (hT0) (fun hS1 => ?_); clear hK K
          refine wpAnyH_ready (rs := [5]) (by kernel_rfl) (by simp) ?_
          refine AllReadyH.cons rfl (fun K hK => ?_) AllReadyH.nil
          go_simp
          refine (hm0 _).mono ?_
          rintro e w5 ⟨rfl, rfl⟩
          dsimp only
          refine hK.out _ _ (hS1) (fun hS2 => ?_); clear hK K
          refine wpAnyH_ready (rs := [9]) (by kernel_rfl) (by simp) ?_
          refine AllReadyH.cons rfl (fun K hK => ?_) AllReadyH.nil
          go_simp
          refine (hm1 _).mono ?_
          rintro e w5 ⟨rfl, rfl⟩
          dsimp only
          refine hK.out _ _ (hS2) (fun hS3 => ?_); clear hK K
          refine wpAnyH_take (i := 13) (v := .agg #[.int .i64 (stH [y0, y1, y2]).prog, .int .i64 (stH [y0, y1, y2]).grade, .int .u64 ((stH [y0, y1, y2]).mask : Int)]) rfl (by kernel_rfl) (by kernel_rfl) (by kernel_rfl) (fun _ _ _ h => h) (Or.inl ⟨by rfl, fun w1 hS1 => by go_simp; first | rfl | exact ⟨rfl, rfl, rfl⟩⟩) hS3 ?_
          try simp only [List.getElem_toArray, List.getElem_cons_zero, List.getElem_cons_succ, Act.put, List.setIfInBounds_toArray, List.set_cons_zero, List.set_cons_succ]
          refine wpAnyH_ready (rs := [14]) (by kernel_rfl) (by simp) ?_
          refine AllReadyH.cons rfl (fun K hK => ?_) AllReadyH.nil
          refine step_lit_st rfl _ rfl (stH [y0, y1, y2]) rfl ?_
          refine hK.out _ _ (Below.alloc hS3 (Nat.le_trans hwd (hS3).size) _) (fun hS4 => ?_); clear hK K
          refine wpAnyH_ready (rs := [15]) (by kernel_rfl) (by simp) ?_
          refine AllReadyH.cons rfl (fun K hK => ?_) AllReadyH.nil
          refine step_append_st rfl _ _ rfl (w.heap.size + 2) (v := .slice vsp k vsc) (ss := (ss.take k).map stH) (World.ownsRow.alloc (w := wr.drew) hown (.cells #[.int .i64 (stH [y0, y1, y2]).prog, .int .i64 (stH [y0, y1, y2]).grade, .int .u64 ((stH [y0, y1, y2]).mask : Int)] 58)) rfl wr.drew.heap.size rfl (stH [y0, y1, y2]) (Blk.new wr.drew 58 _) (by omega) (by simp; omega) ?_
          intro v' w6 ho6 hb6 hf6
          obtain ⟨np, nc, rfl⟩ := own_shape9 ho6
          have hB6 : Blk w6 db 27 ((DH ((ss.take k).map stH)).cells (.slice pp ps.length cp) (.slice vsp k vsc)) := Blk.foot (hBd.alloc (.cells #[.int .i64 (stH [y0, y1, y2]).prog, .int .i64 (stH [y0, y1, y2]).grade, .int .u64 ((stH [y0, y1, y2]).mask : Int)] 58)) hf6 (fun e => own_ne_blk hown hB.out (by decide) e)
          have hq6 : w6.cell? ⟨db, 8, none⟩ = some (.slice vsp k vsc) := hB6.cell 8
          have hr6 : w6.frozen? ⟨db, 8, none⟩ = false := hB6.frozen 8
          have hb6w : Below (w.heap.size + 2) wr.drew w6 := ((Below.refl _ wr.drew).alloc (by simp; omega) _).trans hb6
          refine hK.out _ _ (hb6w) (fun hS5 => ?_); clear hK K
          refine wpAnyH_take (i := 16) (v := ?_) rfl (by kernel_rfl) (by kernel_rfl) (by kernel_rfl) (fun _ _ _ h => h) (Or.inl ⟨by rfl, ?_⟩) hS5 ?_
          rotate_left
          · intro w1 _; go_simp; with_reducible rfl
          try simp only [List.getElem_toArray, List.getElem_cons_zero, List.getElem_cons_succ, Act.put, List.setIfInBounds_toArray, List.set_cons_zero, List.set_cons_succ]
          refine wpAnyH_ready (rs := [17]) (by kernel_rfl) (by simp) ?_
          refine AllReadyH.cons rfl (fun K hK => ?_) AllReadyH.nil
          go_simp
          have hfs := foot_cell w6 db 8 (.slice np (k + 1) nc)
          refine hK.out _ _ (hb6w.trans (hfs.below (by have := hb6w.size; simp at this; omega) (fun j hj => by omega))) (fun hS6 => ?_); clear hK K
          refine wpAnyH_done (by kernel_rfl) ?_ _
          have hbz := hbd2.trans (Below.mono hS6 (by omega) : Below w.heap.size wr.drew _)
          go_wp2
          go_roundw
          case rel =>
            refine ⟨k + 1, .slice np (k + 1) nc, by omega, by go_num, ?_, Lib.hid ?_, Lib.hid ?_, Lib.hid (hP.out.drew.foot (foot_below hS6) (fun j hj e => by have := HGG.out j hj; omega)), Lib.hid (RXX.below hS.out.drew hS6 (fun j _ hj => by have := HGG.out j hj; omega)), hbz⟩
            · rw [HST.out]
              exact own_far ho6 hB6 (by decide) hfs
            · have := hB6.set 8 (.slice np (k + 1) nc)
              rw [HDs.out _ ((ss.take (k + 1)).map stH)] at this
              exact this
            · exact Blk.below (w := wr.drew) hZ.out hS6 (by omega)
          case measure => simp [intOf]; omega
        · go_simp
          refine (hm0 _).mono ?_
          rintro e w5 ⟨rfl, rfl⟩
          dsimp only
          refine hK.out _ _ (hT0) (fun hS1 => ?_); clear hK K
          refine wpAnyH_ready (rs := [1, 9]) (by kernel_rfl) (by simp) ?_
          refine AllReadyH.cons rfl (fun K hK => ?_) (AllReadyH.cons rfl (fun K hK => ?_) AllReadyH.nil)
          · have hq8 : (wr.drew).cell? ⟨db, 8, none⟩ = some (.slice vsp k vsc) := ((hBd : Blk wr.drew db 27 _)).cell 8
            go_simp
            refine hK.out _ _ (hS1) (fun hS2 => ?_); clear hK K
            refine wpAnyH_ready (rs := [9]) (by kernel_rfl) (by simp) ?_
            refine AllReadyH.cons rfl (fun K hK => ?_) AllReadyH.nil
            go_simp
            refine (hm1 _).mono ?_
            rintro e w5 ⟨rfl, rfl⟩
            dsimp only
            refine hK.out _ _ (hS2) (fun hS3 => ?_); clear hK K
            refine wpAnyH_take (i := 13) (v := .agg #[.int .i64 (stH [y0, y1, y2]).prog, .int .i64 (stH [y0, y1, y2]).grade, .int .u64 ((stH [y0, y1, y2]).mask : Int)]) rfl (by kernel_rfl) (by kernel_rfl) (by kernel_rfl) (fun _ _ _ h => h) (Or.inl ⟨by rfl, fun w1 hS1 => by go_simp; first | rfl | exact ⟨rfl, rfl, rfl⟩⟩) hS3 ?_
            try simp only [List.getElem_toArray, List.getElem_cons_zero, List.getElem_cons_succ, Act.put, List.setIfInBounds_toArray, List.set_cons_zero, List.set_cons_succ]
            refine wpAnyH_ready (rs := [14]) (by kernel_rfl) (by simp) ?_
            refine AllReadyH.cons rfl (fun K hK => ?_) AllReadyH.nil
            refine step_lit_st rfl _ rfl (stH [y0, y1, y2]) rfl ?_
            refine hK.out _ _ (Below.alloc hS3 (Nat.le_trans hwd (hS3).size) _) (fun hS4 => ?_); clear hK K
            refine wpAnyH_ready (rs := [15]) (by kernel_rfl) (by simp) ?_
            refine AllReadyH.cons rfl (fun K hK => ?_) AllReadyH.nil
            refine step_append_st rfl _ _ rfl (w.heap.size + 2) (v := .slice vsp k vsc) (ss := (ss.take k).map stH) (World.ownsRow.alloc (w := wr.drew) hown (.cells #[.int .i64 (stH [y0, y1, y2]).prog, .int .i64 (stH [y0, y1, y2]).grade, .int .u64 ((stH [y0, y1, y2]).mask : Int)] 58)) rfl wr.drew.heap.size rfl (stH [y0, y1, y2]) (Blk.new wr.drew 58 _) (by omega) (by simp; omega) ?_
            intro v' w6 ho6 hb6 hf6
            obtain ⟨np, nc, rfl⟩ := own_shape9 ho6
            have hB6 : Blk w6 db 27 ((DH ((ss.take k).map stH)).cells (.slice pp ps.length cp) (.slice vsp k vsc)) := Blk.foot (hBd.alloc (.cells #[.int .i64 (stH [y0, y1, y2]).prog, .int .i64 (stH [y0, y1, y2]).grade, .int .u64 ((stH [y0, y1, y2]).mask : Int)] 58)) hf6 (fun e => own_ne_blk hown hB.out (by decide) e)
            have hq6 : w6.cell? ⟨db, 8, none⟩ = some (.slice vsp k vsc) := hB6.cell 8
            have hr6 : w6.frozen? ⟨db, 8, none⟩ = false := hB6.frozen 8
            have hb6w : Below (w.heap.size + 2) wr.drew w6 := ((Below.refl _ wr.drew).alloc (by simp; omega) _).trans hb6
            refine hK.out _ _ (hb6w) (fun hS5 => ?_); clear hK K
            refine wpAnyH_take (i := 16) (v := ?_) rfl (by kernel_rfl) (by kernel_rfl) (by kernel_rfl) (fun _ _ _ h => h) (Or.inl ⟨by rfl, ?_⟩) hS5 ?_
            rotate_left
            · intro w1 _; go_simp; with_reducible rfl
            try simp only [List.getElem_toArray, List.getElem_cons_zero, List.getElem_cons_succ, Act.put, List.setIfInBounds_toArray, List.set_cons_zero, List.set_cons_succ]
            refine wpAnyH_ready (rs := [17]) (by kernel_rfl) (by simp) ?_
            refine AllReadyH.cons rfl (fun K hK => ?_) AllReadyH.nil
            go_simp
            have hfs := foot_cell w6 db 8 (.slice np (k + 1) nc)
            refine hK.out _ _ (hb6w.trans (hfs.below (by have := hb6w.size; simp at this; omega) (fun j hj => by omega))) (fun hS6 => ?_); clear hK K
            refine wpAnyH_done (by kernel_rfl) ?_ _
            have hbz := hbd2.trans (Below.mono hS6 (by omega) : Below w.heap.size wr.drew _)
            go_wp2
            go_roundw
            case rel =>
              refine ⟨k + 1, .slice np (k + 1) nc, by omega, by go_num, ?_, Lib.hid ?_, Lib.hid ?_, Lib.hid (hP.out.drew.foot (foot_below hS6) (fun j hj e => by have := HGG.out j hj; omega)), Lib.hid (RXX.below hS.out.drew hS6 (fun j _ hj => by have := HGG.out j hj; omega)), hbz⟩
              · rw [HST.out]
                exact own_far ho6 hB6 (by decide) hfs
              · have := hB6.set 8 (.slice np (k + 1) nc)
                rw [HDs.out _ ((ss.take (k + 1)).map stH)] at this
                exact this
              · exact Blk.below (w := wr.drew) hZ.out hS6 (by omega)
            case measure => simp [intOf]; omega
          · go_simp
            refine (hm1 _).mono ?_
            rintro e w5 ⟨rfl, rfl⟩
            dsimp only
            refine hK.out _ _ (hS1) (fun hS2 => ?_); clear hK K
            refine wpAnyH_take (i := 13) (v := .agg #[.int .i64 (stH [y0, y1, y2]).prog, .int .i64 (stH [y0, y1, y2]).grade, .int .u64 ((stH [y0, y1, y2]).mask : Int)]) rfl (by kernel_rfl) (by kernel_rfl) (by kernel_rfl) (fun _ _ _ h => h) (Or.inl ⟨by rfl, fun w1 hS1 => by go_simp; first | rfl | exact ⟨rfl, rfl, rfl⟩⟩) hS2 ?_
            try simp only [List.getElem_toArray, List.getElem_cons_zero, List.getElem_cons_succ, Act.put, List.setIfInBounds_toArray, List.set_cons_zero, List.set_cons_succ]
            refine wpAnyH_ready (rs := [1, 14]) (by kernel_rfl) (by simp) ?_
            refine AllReadyH.cons rfl (fun K hK => ?_) (AllReadyH.cons rfl (fun K hK => ?_) AllReadyH.nil)
            · have hq8 : (wr.drew).cell? ⟨db, 8, none⟩ = some (.slice vsp k vsc) := ((hBd : Blk wr.drew db 27 _)).cell 8
              go_simp
              refine hK.out _ _ (hS2) (fun hS3 => ?_); clear hK K
              refine wpAnyH_ready (rs := [14]) (by kernel_rfl) (by simp) ?_
              refine AllReadyH.cons rfl (fun K hK => ?_) AllReadyH.nil
              refine step_lit_st rfl _ rfl (stH [y0, y1, y2]) rfl ?_
              refine hK.out _ _ (Below.alloc hS3 (Nat.le_trans hwd (hS3).size) _) (fun hS4 => ?_); clear hK K
              refine wpAnyH_ready (rs := [15]) (by kernel_rfl) (by simp) ?_
              refine AllReadyH.cons rfl (fun K hK => ?_) AllReadyH.nil
              refine step_append_st rfl _ _ rfl (w.heap.size + 2) (v := .slice vsp k vsc) (ss := (ss.take k).map stH) (World.ownsRow.alloc (w := wr.drew) hown (.cells #[.int .i64 (stH [y0, y1, y2]).prog, .int .i64 (stH [y0, y1, y2]).grade, .int .u64 ((stH [y0, y1, y2]).mask : Int)] 58)) rfl wr.drew.heap.size rfl (stH [y0, y1, y2]) (Blk.new wr.drew 58 _) (by omega) (by simp; omega) ?_
              intro v' w6 ho6 hb6 hf6
              obtain ⟨np, nc, rfl⟩ := own_shape9 ho6
              have hB6 : Blk w6 db 27 ((DH ((ss.take k).map stH)).cells (.slice pp ps.length cp) (.slice vsp k vsc)) := Blk.foot (hBd.alloc (.cells #[.int .i64 (stH [y0, y1, y2]).prog, .int .i64 (stH [y0, y1, y2]).grade, .int .u64 ((stH [y0, y1, y2]).mask : Int)] 58)) hf6 (fun e => own_ne_blk hown hB.out (by decide) e)
              have hq6 : w6.cell? ⟨db, 8, none⟩ = some (.slice vsp k vsc) := hB6.cell 8
              have hr6 : w6.frozen? ⟨db, 8, none⟩ = false := hB6.frozen 8
              have hb6w : Below (w.heap.size + 2) wr.drew w6 := ((Below.refl _ wr.drew).alloc (by simp; omega) _).trans hb6
              refine hK.out _ _ (hb6w) (fun hS5 => ?_); clear hK K
              refine wpAnyH_take (i := 16) (v := ?_) rfl (by kernel_rfl) (by kernel_rfl) (by kernel_rfl) (fun _ _ _ h => h) (Or.inl ⟨by rfl, ?_⟩) hS5 ?_
              rotate_left
              · intro w1 _; go_simp; with_reducible rfl
              try simp only [List.getElem_toArray, List.getElem_cons_zero, List.getElem_cons_succ, Act.put, List.setIfInBounds_toArray, List.set_cons_zero, List.set_cons_succ]
              refine wpAnyH_ready (rs := [17]) (by kernel_rfl) (by simp) ?_
              refine AllReadyH.cons rfl (fun K hK => ?_) AllReadyH.nil
              go_simp
              have hfs := foot_cell w6 db 8 (.slice np (k + 1) nc)
              refine hK.out _ _ (hb6w.trans (hfs.below (by have := hb6w.size; simp at this; omega) (fun j hj => by omega))) (fun hS6 => ?_); clear hK K
              refine wpAnyH_done (by kernel_rfl) ?_ _
              have hbz := hbd2.trans (Below.mono hS6 (by omega) : Below w.heap.size wr.drew _)
              go_wp2
              go_roundw
              case rel =>
                refine ⟨k + 1, .slice np (k + 1) nc, by omega, by go_num, ?_, Lib.hid ?_, Lib.hid ?_, Lib.hid (hP.out.drew.foot (foot_below hS6) (fun j hj e => by have := HGG.out j hj; omega)), Lib.hid (RXX.below hS.out.drew hS6 (fun j _ hj => by have := HGG.out j hj; omega)), hbz⟩
                · rw [HST.out]
                  exact own_far ho6 hB6 (by decide) hfs
                · have := hB6.set 8 (.slice np (k + 1) nc)
                  rw [HDs.out _ ((ss.take (k + 1)).map stH)] at this
                  exact this
                · exact Blk.below (w := wr.drew) hZ.out hS6 (by omega)
              case measure => simp [intOf]; omega
            · refine step_lit_st rfl _ rfl (stH [y0, y1, y2]) rfl ?_
              refine hK.out _ _ (Below.alloc hS2 (Nat.le_trans hwd (hS2).size) _) (fun hS3 => ?_); clear hK K
              refine wpAnyH_ready (rs := [1]) (by kernel_rfl) (by simp) ?_
              refine AllReadyH.cons rfl (fun K hK => ?_) AllReadyH.nil
              have hq8 : ((wr.alloc (.cells #[.int .i64 (stH [y0, y1, y2]).prog, .int .i64 (stH [y0, y1, y2]).grade, .int .u64 ((stH [y0, y1, y2]).mask : Int)] 58)).drew).cell? ⟨db, 8, none⟩ = some (.slice vsp k vsc) := ((Blk.alloc hBd (.cells #[.int .i64 (stH [y0, y1, y2]).prog, .int .i64 (stH [y0, y1, y2]).grade, .int .u64 ((stH [y0, y1, y2]).mask : Int)] 58) : Blk (wr.drew.alloc (.cells #[.int .i64 (stH [y0, y1, y2]).prog, .int .i64 (stH [y0, y1, y2]).grade, .int .u64 ((stH [y0, y1, y2]).mask : Int)] 58)) db 27 _)).cell 8
              go_simp
              refine hK.out _ _ (hS3) (fun hS4 => ?_); clear hK K
              refine wpAnyH_ready (rs := [15]) (by kernel_rfl) (by simp) ?_
              refine AllReadyH.cons rfl (fun K hK => ?_) AllReadyH.nil
              refine step_append_st rfl _ _ rfl (w.heap.size + 2) (v := .slice vsp k vsc) (ss := (ss.take k).map stH) (World.ownsRow.alloc (w := wr.drew) hown (.cells #[.int .i64 (stH [y0, y1, y2]).prog, .int .i64 (stH [y0, y1, y2]).grade, .int .u64 ((stH [y0, y1, y2]).mask : Int)] 58)) rfl wr.drew.heap.size rfl (stH [y0, y1, y2]) (Blk.new wr.drew 58 _) (by omega) (by simp; omega) ?_
              intro v' w6 ho6 hb6 hf6
              obtain ⟨np, nc, rfl⟩ := own_shape9 ho6
              have hB6 : Blk w6 db 27 ((DH ((ss.take k).map stH)).cells (.slice pp ps.length cp) (.slice vsp k vsc)) := Blk.foot (hBd.alloc (.cells #[.int .i64 (stH [y0, y1, y2]).prog, .int .i64 (stH [y0, y1, y2]).grade, .int .u64 ((stH [y0, y1, y2]).mask : Int)] 58)) hf6 (fun e => own_ne_blk hown hB.out (by decide) e)
              have hq6 : w6.cell? ⟨db, 8, none⟩ = some (.slice vsp k vsc) := hB6.cell 8
              have hr6 : w6.frozen? ⟨db, 8, none⟩ = false := hB6.frozen 8
              have hb6w : Below (w.heap.size + 2) wr.drew w6 := ((Below.refl _ wr.drew).alloc (by simp; omega) _).trans hb6
              refine hK.out _ _ (hb6w) (fun hS5 => ?_); clear hK K
              refine wpAnyH_take (i := 16) (v := ?_) rfl (by kernel_rfl) (by kernel_rfl) (by kernel_rfl) (fun _ _ _ h => h) (Or.inl ⟨by rfl, ?_⟩) hS5 ?_
              rotate_left
              · intro w1 _; go_simp; with_reducible rfl
              try simp only [List.getElem_toArray, List.getElem_cons_zero, List.getElem_cons_succ, Act.put, List.setIfInBounds_toArray, List.set_cons_zero, List.set_cons_succ]
              refine wpAnyH_ready (rs := [17]) (by kernel_rfl) (by simp) ?_
              refine AllReadyH.cons rfl (fun K hK => ?_) AllReadyH.nil
              go_simp
              have hfs := foot_cell w6 db 8 (.slice np (k + 1) nc)
              refine hK.out _ _ (hb6w.trans (hfs.below (by have := hb6w.size; simp at this; omega) (fun j hj => by omega))) (fun hS6 => ?_); clear hK K
              refine wpAnyH_done (by kernel_rfl) ?_ _
              have hbz := hbd2.trans (Below.mono hS6 (by omega) : Below w.heap.size wr.drew _)
              go_wp2
              go_roundw
              case rel =>
                refine ⟨k + 1, .slice np (k + 1) nc, by omega, by go_num, ?_, Lib.hid ?_, Lib.hid ?_, Lib.hid (hP.out.drew.foot (foot_below hS6) (fun j hj e => by have := HGG.out j hj; omega)), Lib.hid (RXX.below hS.out.drew hS6 (fun j _ hj => by have := HGG.out j hj; omega)), hbz⟩
                · rw [HST.out]
                  exact own_far ho6 hB6 (by decide) hfs
                · have := hB6.set 8 (.slice np (k + 1) nc)
                  rw [HDs.out _ ((ss.take (k + 1)).map stH)] at this
                  exact this
                · exact Blk.below (w := wr.drew) hZ.out hS6 (by omega)
              case measure => simp [intOf]; omega
      · obtain rfl : k = ss.length := by omega
        rw [List.take_length] at hB hown
        have hDV : DV wr (fun k => G k ∨ w.heap.size ≤ k) (.slice pp ps.length cp) (.slice vsp ss.length vsc) (DH (ss.map stH)) := by
          refine ⟨?_, (rs_own (n := ss.length) (B := w.heap.size + 2) (by rw [(HDp.out _).2]; exact hown) (by rw [(HDp.out _).2]; simp)).grow (fun k hk => .inr (by omega))⟩
          rw [(HDp.out _).1]
          exact hP.out.grow (fun _ hk => .inl hk)
        have hBB := hB.out
        have hZZ := hZ.out
        have HDV := Lib.hid hDV
        have hck := HCK.out _ _ _ hDV
        clear HCK hDV
        by_cases h0 : code = 0
        · have HR := Lib.hid (hret.out h0)
          subst h0
          go_wp2_with (first
            | (refine wpList_load_row rfl 27 _ rfl db rfl 27 _ (0, 0) _ hBB Tryz.underlying27 rfl (sizeY _ _ _) ?_)
            | (refine wpList_load_row rfl 27 _ rfl db rfl 27 _ (0, 0) _ hBB2 Tryz.underlying27 rfl (sizeY _ _ _) ?_)
            | (go_at_call 19; (with_reducible refine hck.mono ?_); clear hck; rintro e w7 ⟨rfl, hb7⟩; have hBB2 := hBB.below hb7 hBB.lt; have hZZ2 := hZZ.below hb7 hZZ.lt)
            | (refine wpList_store_row rfl 27 _ _ rfl (w.heap.size + 1) ((DH (ss.map stH)).cells (.slice pp ps.length cp) (.slice vsp ss.length vsc)) rfl rfl 27 _ hZZ2 (sizeY _ _ _) rfl (oneY _ _ _ _ _ _ _) ?_))
          refine bodyPost_ret (results_row_tmp rfl _ _ (w.heap.size + 1) 27 ((DH (ss.map stH)).cells (.slice pp ps.length cp) (.slice vsp ss.length vsc)) (0, 0) _ rfl (hZZ2.row _) Tryz.underlying27 rfl (sizeY _ _ _)) rfl ?_
          rw [← HR.out]
          refine ⟨⟨_, _, rfl, ?_⟩, (below_pre hb hb7).trans (foot_row _ (by omega))⟩
          have hq := HDV.out.later hb7
          obtain ⟨⟨us, hul, hur, hue⟩, hsr⟩ := hq
          have hfr : Foot (fun k => k = w.heap.size + 1) w7 (w7.setRow (w.heap.size + 1) ((DH (ss.map stH)).cells (.slice pp ps.length cp) (.slice vsp ss.length vsc))) := foot_setRow _ _ _
          have hGx := (hP.out.later hb7).foot hfr (fun k hk e => by have := HGG.out k hk; omega)
          refine ⟨by rw [(HDp.out _).1]; exact hGx.grow (fun _ hk => .inl hk), (rs_own (n := ss.length) (B := w.heap.size + 2) ?_ (by rw [(HDp.out _).2]; simp)).grow (fun k hk => .inr (by omega))⟩
          rw [(HDp.out _).2]
          exact own_far (ownsRow_below hown hb7 (Nat.le_refl _)) hZZ2 (by decide) hfr
        · have HR := Lib.hid (hretz.out h0)
          have hne : ((code : Int) != 0) = true := by simp; omega
          clear h0
          go_wp2_with (first
            | (refine wpList_load_row rfl 27 _ rfl db rfl 27 _ (0, 0) _ hBB Tryz.underlying27 rfl (sizeY _ _ _) ?_)
            | (go_at_call 19; (with_reducible refine hck.mono ?_); clear hck; rintro e w7 ⟨rfl, hb7⟩; have hZZ2 := hZZ.below hb7 hZZ.lt)
            | (refine wpList_store_row rfl 27 _ _ rfl (w.heap.size + 1) (zeroY.cells (.slice none 0 0) (.slice none 0 0)) rfl rfl 27 _ hZZ2 (sizeY _ _ _) rfl (oneY _ _ _ _ _ _ _) ?_))
          refine bodyPost_ret (results_row_tmp rfl _ _ (w.heap.size + 1) 27 (zeroY.cells (.slice none 0 0) (.slice none 0 0)) (0, 0) _ rfl (hZZ2.row _) Tryz.underlying27 rfl (sizeY _ _ _)) rfl ?_
          rw [HR.out]
          exact ⟨⟨_, _, rfl, ⟨RPP.nil _ _, RSs.nil _ _⟩⟩, (below_pre hb hb7).trans (foot_row _ (by omega))⟩)
  clear hK9 HCK HDs hret hretz
  refine wp_region_held_drew (S := fun w' => Below W.drew.heap.size W.drew w') (by kernel_rfl) (Below.refl _ _) (fun hS0 => ?_)
  refine wpAnyH_take (i := 0) (v := ?_) rfl (by kernel_rfl) (by kernel_rfl) (by kernel_rfl) (fun _ _ _ h => h) (Or.inl ⟨by rfl, ?_⟩) hS0 ?_
  rotate_left
  · intro w1 _; go_simp; with_reducible rfl
  try simp only [List.getElem_toArray, List.getElem_cons_zero, Act.put, List.setIfInBounds_toArray, List.set_cons_zero, List.set_cons_succ]
  refine wpAnyH_take (i := 1) (v := ?_) rfl (by kernel_rfl) (by kernel_rfl) (by kernel_rfl) (fun _ _ _ h => h) (Or.inl ⟨by rfl, ?_⟩) hS0 ?_
  rotate_left
  · intro w1 _; go_simp; with_reducible rfl
  try simp only [List.getElem_toArray, List.getElem_cons_zero, List.getElem_cons_succ, Act.put, List.setIfInBounds_toArray, List.set_cons_zero, List.set_cons_succ]
  refine wpAnyH_take (i := 2) (v := .int .u64 (a0 : Int)) rfl (by kernel_rfl) (by kernel_rfl) (by kernel_rfl) (fun _ _ _ h => h) (Or.inl ⟨by rfl, fun w1 hS1 => by have h0 : w1.cell? ⟨gb, go + 0, none⟩ = some (.int .u64 (a0 : Int)) := (World.cell?_of_block (a := ⟨gb, go + 0, none⟩) (hS1.block gb hgW)).trans (hc 0 a0 rfl); rw [Nat.add_zero] at h0; go_simp⟩) hS0 ?_
  try simp only [List.getElem_toArray, List.getElem_cons_zero, List.getElem_cons_succ, Act.put, List.setIfInBounds_toArray, List.set_cons_zero, List.set_cons_succ]
  refine wpAnyH_take (i := 4) (v := ?_) rfl (by kernel_rfl) (by kernel_rfl) (by kernel_rfl) (fun _ _ _ h => h) (Or.inl ⟨by rfl, ?_⟩) hS0 ?_
  rotate_left
  · intro w1 _; go_simp; with_reducible rfl
  try simp only [List.getElem_toArray, List.getElem_cons_zero, List.getElem_cons_succ, Act.put, List.setIfInBounds_toArray, List.set_cons_zero, List.set_cons_succ]
  refine wpAnyH_take (i := 5) (v := ?_) rfl (by kernel_rfl) (by kernel_rfl) (by kernel_rfl) (fun _ _ _ h => h) (Or.inl ⟨by rfl, ?_⟩) hS0 ?_
  rotate_left
  · intro w1 _; go_simp; with_reducible rfl
  try simp only [List.getElem_toArray, List.getElem_cons_zero, List.getElem_cons_succ, Act.put, List.setIfInBounds_toArray, List.set_cons_zero, List.set_cons_succ]
  refine wpAnyH_take (i := 6) (v := .int .u64 (a1 : Int)) rfl (by kernel_rfl) (by kernel_rfl) (by kernel_rfl) (fun _ _ _ h => h) (Or.inl ⟨by rfl, fun w1 hS1 => by have h0 : w1.cell? ⟨gb, go + 1, none⟩ = some (.int .u64 (a1 : Int)) := (World.cell?_of_block (a := ⟨gb, go + 1, none⟩) (hS1.block gb hgW)).trans (hc 1 a1 rfl); go_simp⟩) hS0 ?_
  try simp only [List.getElem_toArray, List.getElem_cons_zero, List.getElem_cons_succ, Act.put, List.setIfInBounds_toArray, List.set_cons_zero, List.set_cons_succ]
  refine wpAnyH_take (i := 8) (v := ?_) rfl (by kernel_rfl) (by kernel_rfl) (by kernel_rfl) (fun _ _ _ h => h) (Or.inl ⟨by rfl, ?_⟩) hS0 ?_
  rotate_left
  · intro w1 _; go_simp; with_reducible rfl
  try simp only [List.getElem_toArray, List.getElem_cons_zero, List.getElem_cons_succ, Act.put, List.setIfInBounds_toArray, List.set_cons_zero, List.set_cons_succ]
  refine wpAnyH_take (i := 9) (v := ?_) rfl (by kernel_rfl) (by kernel_rfl) (by kernel_rfl) (fun _ _ _ h => h) (Or.inl ⟨by rfl, ?_⟩) hS0 ?_
  rotate_left
  · intro w1 _; go_simp; with_reducible rfl
  try simp only [List.getElem_toArray, List.getElem_cons_zero, List.getElem_cons_succ, Act.put, List.setIfInBounds_toArray, List.set_cons_zero, List.set_cons_succ]
  refine wpAnyH_take (i := 10) (v := .int .u64 (a2 : Int)) rfl (by kernel_rfl) (by kernel_rfl) (by kernel_rfl) (fun _ _ _ h => h) (Or.inl ⟨by rfl, fun w1 hS1 => by have h0 : w1.cell? ⟨gb, go + 2, none⟩ = some (.int .u64 (a2 : Int)) := (World.cell?_of_block (a := ⟨gb, go + 2, none⟩) (hS1.block gb hgW)).trans (hc 2 a2 rfl); go_simp⟩) hS0 ?_
  try simp only [List.getElem_toArray, List.getElem_cons_zero, List.getElem_cons_succ, Act.put, List.setIfInBounds_toArray, List.set_cons_zero, List.set_cons_succ]
  refine wpAnyH_take (i := 12) (v := ?_) rfl (by kernel_rfl) (by kernel_rfl) (by kernel_rfl) (fun _ _ _ h => h) (Or.inl ⟨by rfl, ?_⟩) hS0 ?_
  rotate_left
  · intro w1 _; go_simp; with_reducible rfl
  try simp only [List.getElem_toArray, List.getElem_cons_zero, List.getElem_cons_succ, Act.put, List.setIfInBounds_toArray, List.set_cons_zero, List.set_cons_succ]
  refine wpAnyH_take (i := 13) (v := ?_) rfl (by kernel_rfl) (by kernel_rfl) (by kernel_rfl) (fun _ _ _ h => h) (Or.inl ⟨by rfl, ?_⟩) hS0 ?_
  rotate_left
  · intro w1 _; go_simp; with_reducible rfl
  try simp only [List.getElem_toArray, List.getElem_cons_zero, List.getElem_cons_succ, Act.put, List.setIfInBounds_toArray, List.set_cons_zero, List.set_cons_succ]
  refine wpAnyH_take (i := 14) (v := .int .u64 (a3 : Int)) rfl (by kernel_rfl) (by kernel_rfl) (by kernel_rfl) (fun _ _ _ h => h) (Or.inl ⟨by rfl, fun w1 hS1 => by have h0 : w1.cell? ⟨gb, go + 3, none⟩ = some (.int .u64 (a3 : Int)) := (World.cell?_of_block (a := ⟨gb, go + 3, none⟩) (hS1.block gb hgW)).trans (hc 3 a3 rfl); go_simp⟩) hS0 ?_
  try simp only [List.getElem_toArray, List.getElem_cons_zero, List.getElem_cons_succ, Act.put, List.setIfInBounds_toArray, List.set_cons_zero, List.set_cons_succ]
  refine wpAnyH_take (i := 16) (v := ?_) rfl (by kernel_rfl) (by kernel_rfl) (by kernel_rfl) (fun _ _ _ h => h) (Or.inl ⟨by rfl, ?_⟩) hS0 ?_
  rotate_left
  · intro w1 _; go_simp; with_reducible rfl
  try simp only [List.getElem_toArray, List.getElem_cons_zero, List.getElem_cons_succ, Act.put, List.setIfInBounds_toArray, List.set_cons_zero, List.set_cons_succ]
  refine wpAnyH_take (i := 17) (v := ?_) rfl (by kernel_rfl) (by kernel_rfl) (by kernel_rfl) (fun _ _ _ h => h) (Or.inl ⟨by rfl, ?_⟩) hS0 ?_
  rotate_left
  · intro w1 _; go_simp; with_reducible rfl
  try simp only [List.getElem_toArray, List.getElem_cons_zero, List.getElem_cons_succ, Act.put, List.setIfInBounds_toArray, List.set_cons_zero, List.set_cons_succ]
  refine wpAnyH_take (i := 18) (v := .int .u64 (a4 : Int)) rfl (by kernel_rfl) (by kernel_rfl) (by kernel_rfl) (fun _ _ _ h => h) (Or.inl ⟨by rfl, fun w1 hS1 => by have h0 : w1.cell? ⟨gb, go + 4, none⟩ = some (.int .u64 (a4 : Int)) := (World.cell?_of_block (a := ⟨gb, go + 4, none⟩) (hS1.block gb hgW)).trans (hc 4 a4 rfl); go_simp⟩) hS0 ?_
  try simp only [List.getElem_toArray, List.getElem_cons_zero, List.getElem_cons_succ, Act.put, List.setIfInBounds_toArray, List.set_cons_zero, List.set_cons_succ]
  refine wpAnyH_take (i := 19) (v := ?_) rfl (by kernel_rfl) (by kernel_rfl) (by kernel_rfl) (fun _ _ _ h => h) (Or.inl ⟨by rfl, ?_⟩) hS0 ?_
  rotate_left
  · intro w1 _; go_simp; with_reducible rfl
  try simp only [List.getElem_toArray, List.getElem_cons_zero, List.getElem_cons_succ, Act.put, List.setIfInBounds_toArray, List.set_cons_zero, List.set_cons_succ]
  refine wpAnyH_take (i := 20) (v := ?_) rfl (by kernel_rfl) (by kernel_rfl) (by kernel_rfl) (fun _ _ _ h => h) (Or.inl ⟨by rfl, ?_⟩) hS0 ?_
  rotate_left
  · intro w1 _; go_simp; with_reducible rfl
  try simp only [List.getElem_toArray, List.getElem_cons_zero, List.getElem_cons_succ, Act.put, List.setIfInBounds_toArray, List.set_cons_zero, List.set_cons_succ]
  refine wpAnyH_take (i := 21) (v := .int .u64 (a5 : Int)) rfl (by kernel_rfl) (by kernel_rfl) (by kernel_rfl) (fun _ _ _ h => h) (Or.inl ⟨by rfl, fun w1 hS1 => by have h0 : w1.cell? ⟨gb, go + 5, none⟩ = some (.int .u64 (a5 : Int)) := (World.cell?_of_block (a := ⟨gb, go + 5, none⟩) (hS1.block gb hgW)).trans (hc 5 a5 rfl); go_simp⟩) hS0 ?_
  try simp only [List.getElem_toArray, List.getElem_cons_zero, List.getElem_cons_succ, Act.put, List.setIfInBounds_toArray, List.set_cons_zero, List.set_cons_succ]
  refine wpAnyH_take (i := 23) (v := ?_) rfl (by kernel_rfl) (by kernel_rfl) (by kernel_rfl) (fun _ _ _ h => h) (Or.inl ⟨by rfl, ?_⟩) hS0 ?_
  rotate_left
  · intro w1 _; go_simp; with_reducible rfl
  try simp only [List.getElem_toArray, List.getElem_cons_zero, List.getElem_cons_succ, Act.put, List.setIfInBounds_toArray, List.set_cons_zero, List.set_cons_succ]
  refine wpAnyH_take (i := 24) (v := ?_) rfl (by kernel_rfl) (by kernel_rfl) (by kernel_rfl) (fun _ _ _ h => h) (Or.inl ⟨by rfl, ?_⟩) hS0 ?_
  rotate_left
  · intro w1 _; go_simp; with_reducible rfl
  try simp only [List.getElem_toArray, List.getElem_cons_zero, List.getElem_cons_succ, Act.put, List.setIfInBounds_toArray, List.set_cons_zero, List.set_cons_succ]
  refine wpAnyH_take (i := 25) (v := .int .u64 (a6 : Int)) rfl (by kernel_rfl) (by kernel_rfl) (by kernel_rfl) (fun _ _ _ h => h) (Or.inl ⟨by rfl, fun w1 hS1 => by have h0 : w1.cell? ⟨gb, go + 6, none⟩ = some (.int .u64 (a6 : Int)) := (World.cell?_of_block (a := ⟨gb, go + 6, none⟩) (hS1.block gb hgW)).trans (hc 6 a6 rfl); go_simp⟩) hS0 ?_
  try simp only [List.getElem_toArray, List.getElem_cons_zero, List.getElem_cons_succ, Act.put, List.setIfInBounds_toArray, List.set_cons_zero, List.set_cons_succ]
  refine wpAnyH_take (i := 27) (v := ?_) rfl (by kernel_rfl) (by kernel_rfl) (by kernel_rfl) (fun _ _ _ h => h) (Or.inl ⟨by rfl, ?_⟩) hS0 ?_
  rotate_left
  · intro w1 _; go_simp; with_reducible rfl
  try simp only [List.getElem_toArray, List.getElem_cons_zero, List.getElem_cons_succ, Act.put, List.setIfInBounds_toArray, List.set_cons_zero, List.set_cons_succ]
  refine wpAnyH_take (i := 28) (v := .slice pp ps.length cp) rfl (by kernel_rfl) (by kernel_rfl) (by kernel_rfl) (fun _ _ _ h => h) (Or.inl ⟨by rfl, fun w1 hS1 => by have h0 : w1.cell? ⟨w.heap.size, 1, none⟩ = some (.slice pp ps.length cp) := Blk.cell (Blk.below hk1 hS1 hk1.lt) 1; go_simp⟩) hS0 ?_
  try simp only [List.getElem_toArray, List.getElem_cons_zero, List.getElem_cons_succ, Act.put, List.setIfInBounds_toArray, List.set_cons_zero, List.set_cons_succ]
  refine wpAnyH_ready (rs := [3, 30]) (by kernel_rfl) (by simp) ?_
  refine AllReadyH.cons rfl (fun K hK => ?_) (AllReadyH.cons rfl (fun K hK => ?_) AllReadyH.nil)
  · go_simp
    refine (hl0 _).mono ?_
    rintro e w5 ⟨rfl, rfl⟩
    dsimp only
    refine hK.out _ _ (hS0) (fun hS1 => ?_); clear hK K
    refine wpAnyH_ready (rs := [7, 30]) (by kernel_rfl) (by simp) ?_
    refine AllReadyH.cons rfl (fun K hK => ?_) (AllReadyH.cons rfl (fun K hK => ?_) AllReadyH.nil)
    · go_simp
      refine (hl1 _).mono ?_
      rintro e w5 ⟨rfl, rfl⟩
      dsimp only
      refine hK.out _ _ (hS1) (fun hS2 => ?_); clear hK K
      refine wpAnyH_ready (rs := [11, 30]) (by kernel_rfl) (by simp) ?_
      refine AllReadyH.cons rfl (fun K hK => ?_) (AllReadyH.cons rfl (fun K hK => ?_) AllReadyH.nil)
      · go_simp
        refine (hl2 _).mono ?_
        rintro e w5 ⟨rfl, rfl⟩
        dsimp only
        refine hK.out _ _ (hS2) (fun hS3 => ?_); clear hK K
        refine wpAnyH_ready (rs := [15, 30]) (by kernel_rfl) (by simp) ?_
        refine AllReadyH.cons rfl (fun K hK => ?_) (AllReadyH.cons rfl (fun K hK => ?_) AllReadyH.nil)
        · go_simp
          refine (hl3 _).mono ?_
          rintro e w5 ⟨rfl, rfl⟩
          dsimp only
          refine hK.out _ _ (hS3) (fun hS4 => ?_); clear hK K
          refine wpAnyH_take (i := 22) (v := .float .f64 a5) rfl (by kernel_rfl) (by kernel_rfl) (by kernel_rfl) (fun _ _ _ h => h) (Or.inl ⟨by rfl, fun w1 hS1 => by go_simp; rw [f64from_run]⟩) hS4 ?_
          try simp only [List.getElem_toArray, List.getElem_cons_zero, List.getElem_cons_succ, Act.put, List.setIfInBounds_toArray, List.set_cons_zero, List.set_cons_succ]
          refine wpAnyH_take (i := 26) (v := .float .f64 a6) rfl (by kernel_rfl) (by kernel_rfl) (by kernel_rfl) (fun _ _ _ h => h) (Or.inl ⟨by rfl, fun w1 hS1 => by go_simp; rw [f64from_run]⟩) hS4 ?_
          try simp only [List.getElem_toArray, List.getElem_cons_zero, List.getElem_cons_succ, Act.put, List.setIfInBounds_toArray, List.set_cons_zero, List.set_cons_succ]
          refine wpAnyH_take (i := 29) (v := .agg ((DH []).cells (.slice pp ps.length cp) (.slice none 0 0))) rfl (by kernel_rfl) (by kernel_rfl) (by kernel_rfl) (fun _ _ _ h => h) (Or.inl ⟨by rfl, fun w1 hS1 => by go_simp; rw [← HDc.out]⟩) hS4 ?_
          try simp only [List.getElem_toArray, List.getElem_cons_zero, List.getElem_cons_succ, Act.put, List.setIfInBounds_toArray, List.set_cons_zero, List.set_cons_succ]
          refine wpAnyH_ready (rs := [30]) (by kernel_rfl) (by simp) ?_
          refine AllReadyH.cons rfl (fun K hK => ?_) AllReadyH.nil
          refine step_alloc_agg rfl 27 rfl (zeroY.cells (.slice none 0 0) (.slice none 0 0)) zeroYR ?_
          refine hK.out _ _ (Below.alloc hS4 (hS4).size _) (fun hS5 => ?_); clear hK K
          refine wpAnyH_ready (rs := [31]) (by kernel_rfl) (by simp) ?_
          refine AllReadyH.cons rfl (fun K hK => ?_) AllReadyH.nil
          refine step_store_row rfl 27 _ _ rfl W.drew.heap.size ((DH []).cells (.slice pp ps.length cp) (.slice none 0 0)) rfl rfl 27 _ (heap_alloc_new W.drew _) (sizeY _ _ _) rfl (oneY _ _ _ _ _ _ _) ?_
          first | rw [World.setRow_alloc_new] | rw [show (W.alloc (.cells (zeroY.cells (.slice none 0 0) (.slice none 0 0)) 27)).drew = W.drew.alloc (.cells (zeroY.cells (.slice none 0 0) (.slice none 0 0)) 27) from rfl, World.setRow_alloc_new]
          refine hK.out _ _ (Below.alloc hS0 (Nat.le_refl _) _) (fun hS6 => ?_); clear hK K
          refine wpAnyH_done (by kernel_rfl) ?_ _
          exact HFIN.out _ _ _ _ _ _ _ _ _ _ _ _ _ _ _ _ _ _ _ _ _ _ _ _ _ _ _ _ _ _ _ _ _ _ _ _ _ _ _ _ _ _ _ _ _ _ _ _ _ _ _ _ _ _ _ _ _ _ _ _ _ _ _ _ _ _ _
        · refine step_alloc_agg rfl 27 rfl (zeroY.cells (.slice none 0 0) (.slice none 0 0)) zeroYR ?_
          refine hK.out _ _ (Below.alloc hS3 (hS3).size _) (fun hS4 => ?_); clear hK K
          refine wpAnyH_ready (rs := [15]) (by kernel_rfl) (by simp) ?_
          refine AllReadyH.cons rfl (fun K hK => ?_) AllReadyH.nil
          go_simp
          refine (hl3 _).mono ?_
          rintro e w5 ⟨rfl, rfl⟩
          dsimp only
          refine hK.out _ _ (hS4) (fun hS5 => ?_); clear hK K
          refine wpAnyH_take (i := 22) (v := .float .f64 a5) rfl (by kernel_rfl) (by kernel_rfl) (by kernel_rfl) (fun _ _ _ h => h) (Or.inl ⟨by rfl, fun w1 hS1 => by go_simp; rw [f64from_run]⟩) hS5 ?_
          try simp only [List.getElem_toArray, List.getElem_cons_zero, List.getElem_cons_succ, Act.put, List.setIfInBounds_toArray, List.set_cons_zero, List.set_cons_succ]
          refine wpAnyH_take (i := 26) (v := .float .f64 a6) rfl (by kernel_rfl) (by kernel_rfl) (by kernel_rfl) (fun _ _ _ h => h) (Or.inl ⟨by rfl, fun w1 hS1 => by go_simp; rw [f64from_run]⟩) hS5 ?_
          try simp only [List.getElem_toArray, List.getElem_cons_zero, List.getElem_cons_succ, Act.put, List.setIfInBounds_toArray, List.set_cons_zero, List.set_cons_succ]
          refine wpAnyH_take (i := 29) (v := .agg ((DH []).cells (.slice pp ps.length cp) (.slice none 0 0))) rfl (by kernel_rfl) (by kernel_rfl) (by kernel_rfl) (fun _ _ _ h => h) (Or.inl ⟨by rfl, fun w1 hS1 => by go_simp; rw [← HDc.out]⟩) hS5 ?_
          try simp only [List.getElem_toArray, List.getElem_cons_zero, List.getElem_cons_succ, Act.put, List.setIfInBounds_toArray, List.set_cons_zero, List.set_cons_succ]
          refine wpAnyH_ready (rs := [31]) (by kernel_rfl) (by simp) ?_
          refine AllReadyH.cons rfl (fun K hK => ?_) AllReadyH.nil
          refine step_store_row rfl 27 _ _ rfl W.drew.heap.size ((DH []).cells (.slice pp ps.length cp) (.slice none 0 0)) rfl rfl 27 _ (heap_alloc_new W.drew _) (sizeY _ _ _) rfl (oneY _ _ _ _ _ _ _) ?_
          first | rw [World.setRow_alloc_new] | rw [show (W.alloc (.cells (zeroY.cells (.slice none 0 0) (.slice none 0 0)) 27)).drew = W.drew.alloc (.cells (zeroY.cells (.slice none 0 0) (.slice none 0 0)) 27) from rfl, World.setRow_alloc_new]
          refine hK.out _ _ (Below.alloc hS0 (Nat.le_refl _) _) (fun hS6 => ?_); clear hK K
          refine wpAnyH_done (by kernel_rfl) ?_ _
          exact HFIN.out _ _ _ _ _ _ _ _ _ _ _ _ _ _ _ _ _ _ _ _ _ _ _ _ _ _ _ _ _ _ _ _ _ _ _ _ _ _ _ _ _ _ _ _ _ _ _ _ _ _ _ _ _ _ _ _ _ _ _ _ _ _ _ _ _ _ _
      · refine step_alloc_agg rfl 27 rfl (zeroY.cells (.slice none 0 0) (.slice none 0 0)) zeroYR ?_
        refine hK.out _ _ (Below.alloc hS2 (hS2).size _) (fun hS3 => ?_); clear hK K
        refine wpAnyH_ready (rs := [11]) (by kernel_rfl) (by simp) ?_
        refine AllReadyH.cons rfl (fun K hK => ?_) AllReadyH.nil
        go_simp
        refine (hl2 _).mono ?_
        rintro e w5 ⟨rfl, rfl⟩
        dsimp only
        refine hK.out _ _ (hS3) (fun hS4 => ?_); clear hK K
        refine wpAnyH_ready (rs := [15]) (by kernel_rfl) (by simp) ?_
        refine AllReadyH.cons rfl (fun K hK => ?_) AllReadyH.nil
        go_simp
        refine (hl3 _).mono ?_
        rintro e w5 ⟨rfl, rfl⟩
        dsimp only
        refine hK.out _ _ (hS4) (fun hS5 => ?_); clear hK K
        refine wpAnyH_take (i := 22) (v := .float .f64 a5) rfl (by kernel_rfl) (by kernel_rfl) (by kernel_rfl) (fun _ _ _ h => h) (Or.inl ⟨by rfl, fun w1 hS1 => by go_simp; rw [f64from_run]⟩) hS5 ?_
        try simp only [List.getElem_toArray, List.getElem_cons_zero, List.getElem_cons_succ, Act.put, List.setIfInBounds_toArray, List.set_cons_zero, List.set_cons_succ]
        refine wpAnyH_take (i := 26) (v := .float .f64 a6) rfl (by kernel_rfl) (by kernel_rfl) (by kernel_rfl) (fun _ _ _ h => h) (Or.inl ⟨by rfl, fun w1 hS1 => by go_simp; rw [f64from_run]⟩) hS5 ?_
        try simp only [List.getElem_toArray, List.getElem_cons_zero, List.getElem_cons_succ, Act.put, List.setIfInBounds_toArray, List.set_cons_zero, List.set_cons_succ]
        refine wpAnyH_take (i := 29) (v := .agg ((DH []).cells (.slice pp ps.length cp) (.slice none 0 0))) rfl (by kernel_rfl) (by kernel_rfl) (by kernel_rfl) (fun _ _ _ h => h) (Or.inl ⟨by rfl, fun w1 hS1 => by go_simp; rw [← HDc.out]⟩) hS5 ?_
        try simp only [List.getElem_toArray, List.getElem_cons_zero, List.getElem_cons_succ, Act.put, List.setIfInBounds_toArray, List.set_cons_zero, List.set_cons_succ]
        refine wpAnyH_ready (rs := [31]) (by kernel_rfl) (by simp) ?_
        refine AllReadyH.cons rfl (fun K hK => ?_) AllReadyH.nil
        refine step_store_row rfl 27 _ _ rfl W.drew.heap.size ((DH []).cells (.slice pp ps.length cp) (.slice none 0 0)) rfl rfl 27 _ (heap_alloc_new W.drew _) (sizeY _ _ _) rfl (oneY _ _ _ _ _ _ _) ?_
        first | rw [World.setRow_alloc_new] | rw [show (W.alloc (.cells (zeroY.cells (.slice none 0 0) (.slice none 0 0)) 27)).drew = W.drew.alloc (.cells (zeroY.cells (.slice none 0 0) (.slice none 0 0)) 27) from rfl, World.setRow_alloc_new]
        refine hK.out _ _ (Below.alloc hS0 (Nat.le_refl _) _) (fun hS6 => ?_); clear hK K
        refine wpAnyH_done (by kernel_rfl) ?_ _
        exact HFIN.out _ _ _ _ _ _ _ _ _ _ _ _ _ _ _ _ _ _ _ _ _ _ _ _ _ _ _ _ _ _ _ _ _ _ _ _ _ _ _ _ _ _ _ _ _ _ _ _ _ _ _ _ _ _ _ _ _ _ _ _ _ _ _ _ _ _ _
    · refine step_alloc_agg rfl 27 rfl (zeroY.cells (.slice none 0 0) (.slice none 0 0)) zeroYR ?_
      refine hK.out _ _ (Below.alloc hS1 (hS1).size _) (fun hS2 => ?_); clear hK K
      refine wpAnyH_ready (rs := [7]) (by kernel_rfl) (by simp) ?_
      refine AllReadyH.cons rfl (fun K hK => ?_) AllReadyH.nil
      go_simp
      refine (hl1 _).mono ?_
      rintro e w5 ⟨rfl, rfl⟩
      dsimp only
      refine hK.out _ _ (hS2) (fun hS3 => ?_); clear hK K
      refine wpAnyH_ready (rs := [11]) (by kernel_rfl) (by simp) ?_
      refine AllReadyH.cons rfl (fun K hK => ?_) AllReadyH.nil
      go_simp
      refine (hl2 _).mono ?_
      rintro e w5 ⟨rfl, rfl⟩
      dsimp only
      refine hK.out _ _ (hS3) (fun hS4 => ?_); clear hK K
      refine wpAnyH_ready (rs := [15]) (by kernel_rfl) (by simp) ?_
      refine AllReadyH.cons rfl (fun K hK => ?_) AllReadyH.nil
      go_simp
      refine (hl3 _).mono ?_
      rintro e w5 ⟨rfl, rfl⟩
      dsimp only
      refine hK.out _ _ (hS4) (fun hS5 => ?_); clear hK K
      refine wpAnyH_take (i := 22) (v := .float .f64 a5) rfl (by kernel_rfl) (by kernel_rfl) (by kernel_rfl) (fun _ _ _ h => h) (Or.inl ⟨by rfl, fun w1 hS1 => by go_simp; rw [f64from_run]⟩) hS5 ?_
      try simp only [List.getElem_toArray, List.getElem_cons_zero, List.getElem_cons_succ, Act.put, List.setIfInBounds_toArray, List.set_cons_zero, List.set_cons_succ]
      refine wpAnyH_take (i := 26) (v := .float .f64 a6) rfl (by kernel_rfl) (by kernel_rfl) (by kernel_rfl) (fun _ _ _ h => h) (Or.inl ⟨by rfl, fun w1 hS1 => by go_simp; rw [f64from_run]⟩) hS5 ?_
      try simp only [List.getElem_toArray, List.getElem_cons_zero, List.getElem_cons_succ, Act.put, List.setIfInBounds_toArray, List.set_cons_zero, List.set_cons_succ]
      refine wpAnyH_take (i := 29) (v := .agg ((DH []).cells (.slice pp ps.length cp) (.slice none 0 0))) rfl (by kernel_rfl) (by kernel_rfl) (by kernel_rfl) (fun _ _ _ h => h) (Or.inl ⟨by rfl, fun w1 hS1 => by go_simp; rw [← HDc.out]⟩) hS5 ?_
      try simp only [List.getElem_toArray, List.getElem_cons_zero, List.getElem_cons_succ, Act.put, List.setIfInBounds_toArray, List.set_cons_zero, List.set_cons_succ]
      refine wpAnyH_ready (rs := [31]) (by kernel_rfl) (by simp) ?_
      refine AllReadyH.cons rfl (fun K hK => ?_) AllReadyH.nil
      refine step_store_row rfl 27 _ _ rfl W.drew.heap.size ((DH []).cells (.slice pp ps.length cp) (.slice none 0 0)) rfl rfl 27 _ (heap_alloc_new W.drew _) (sizeY _ _ _) rfl (oneY _ _ _ _ _ _ _) ?_
      first | rw [World.setRow_alloc_new] | rw [show (W.alloc (.cells (zeroY.cells (.slice none 0 0) (.slice none 0 0)) 27)).drew = W.drew.alloc (.cells (zeroY.cells (.slice none 0 0) (.slice none 0 0)) 27) from rfl, World.setRow_alloc_new]
      refine hK.out _ _ (Below.alloc hS0 (Nat.le_refl _) _) (fun hS6 => ?_); clear hK K
      refine wpAnyH_done (by kernel_rfl) ?_ _
      exact HFIN.out _ _ _ _ _ _ _ _ _ _ _ _ _ _ _ _ _ _ _ _ _ _ _ _ _ _ _ _ _ _ _ _ _ _ _ _ _ _ _ _ _ _ _ _ _ _ _ _ _ _ _ _ _ _ _ _ _ _ _ _ _ _ _ _ _ _ _
  · refine step_alloc_agg rfl 27 rfl (zeroY.cells (.slice none 0 0) (.slice none 0 0)) zeroYR ?_
    refine hK.out _ _ (Below.alloc hS0 (hS0).size _) (fun hS1 => ?_); clear hK K
    refine wpAnyH_ready (rs := [3]) (by kernel_rfl) (by simp) ?_
    refine AllReadyH.cons rfl (fun K hK => ?_) AllReadyH.nil
    go_simp
    refine (hl0 _).mono ?_
    rintro e w5 ⟨rfl, rfl⟩
    dsimp only
    refine hK.out _ _ (hS1) (fun hS2 => ?_); clear hK K
    refine wpAnyH_ready (rs := [7]) (by kernel_rfl) (by simp) ?_
    refine AllReadyH.cons rfl (fun K hK => ?_) AllReadyH.nil
    go_simp
    refine (hl1 _).mono ?_
    rintro e w5 ⟨rfl, rfl⟩
    dsimp only
    refine hK.out _ _ (hS2) (fun hS3 => ?_); clear hK K
    refine wpAnyH_ready (rs := [11]) (by kernel_rfl) (by simp) ?_
    refine AllReadyH.cons rfl (fun K hK => ?_) AllReadyH.nil
    go_simp
    refine (hl2 _).mono ?_
    rintro e w5 ⟨rfl, rfl⟩
    dsimp only
    refine hK.out _ _ (hS3) (fun hS4 => ?_); clear hK K
    refine wpAnyH_ready (rs := [15]) (by kernel_rfl) (by simp) ?_
    refine AllReadyH.cons rfl (fun K hK => ?_) AllReadyH.nil
    go_simp
    refine (hl3 _).mono ?_
    rintro e w5 ⟨rfl, rfl⟩
    dsimp only
    refine hK.out _ _ (hS4) (fun hS5 => ?_); clear hK K
    refine wpAnyH_take (i := 22) (v := .float .f64 a5) rfl (by kernel_rfl) (by kernel_rfl) (by kernel_rfl) (fun _ _ _ h => h) (Or.inl ⟨by rfl, fun w1 hS1 => by go_simp; rw [f64from_run]⟩) hS5 ?_
    try simp only [List.getElem_toArray, List.getElem_cons_zero, List.getElem_cons_succ, Act.put, List.setIfInBounds_toArray, List.set_cons_zero, List.set_cons_succ]
    refine wpAnyH_take (i := 26) (v := .float .f64 a6) rfl (by kernel_rfl) (by kernel_rfl) (by kernel_rfl) (fun _ _ _ h => h) (Or.inl ⟨by rfl, fun w1 hS1 => by go_simp; rw [f64from_run]⟩) hS5 ?_
    try simp only [List.getElem_toArray, List.getElem_cons_zero, List.getElem_cons_succ, Act.put, List.setIfInBounds_toArray, List.set_cons_zero, List.set_cons_succ]
    refine wpAnyH_take (i := 29) (v := .agg ((DH []).cells (.slice pp ps.length cp) (.slice none 0 0))) rfl (by kernel_rfl) (by kernel_rfl) (by kernel_rfl) (fun _ _ _ h => h) (Or.inl ⟨by rfl, fun w1 hS1 => by go_simp; rw [← HDc.out]⟩) hS5 ?_
    try simp only [List.getElem_toArray, List.getElem_cons_zero, List.getElem_cons_succ, Act.put, List.setIfInBounds_toArray, List.set_cons_zero, List.set_cons_succ]
    refine wpAnyH_ready (rs := [31]) (by kernel_rfl) (by simp) ?_
    refine AllReadyH.cons rfl (fun K hK => ?_) AllReadyH.nil
    refine step_store_row rfl 27 _ _ rfl W.drew.heap.size ((DH []).cells (.slice pp ps.length cp) (.slice none 0 0)) rfl rfl 27 _ (heap_alloc_new W.drew _) (sizeY _ _ _) rfl (oneY _ _ _ _ _ _ _) ?_
    first | rw [World.setRow_alloc_new] | rw [show (W.alloc (.cells (zeroY.cells (.slice none 0 0) (.slice none 0 0)) 27)).drew = W.drew.alloc (.cells (zeroY.cells (.slice none 0 0) (.slice none 0 0)) 27) from rfl, World.setRow_alloc_new]
    refine hK.out _ _ (Below.alloc hS0 (Nat.le_refl _) _) (fun hS6 => ?_); clear hK K
    refine wpAnyH_done (by kernel_rfl) ?_ _
    exact HFIN.out _ _ _ _ _ _ _ _ _ _ _ _ _ _ _ _ _ _ _ _ _ _ _ _ _ _ _ _ _ _ _ _ _ _ _ _ _ _ _ _ _ _ _ _ _ _ _ _ _ _ _ _ _ _ _ _ _ _ _ _ _ _ _ _ _ _ _
end Go.Proofs.YtbdimfcdpkldpaaGreatDoor
