/- One instruction appended to a slice of one's own; the contracts of prog's Parse and of its reference's. The contracts of the reference's Parse and Same. ProgTexts. -/
import Derived.Test.YtlgjbcmkhcgigaaDoorLQ1
import Derived.Test.YtlgjbcmkhcgigaaDoorLT2
import Derived.Test.YtlgjbcmkhcgigaaDoorLD6
import Derived.Great.BuildSlice
import Derived.Deep.QuietTactic
import Derived.BigQuiet
import Derived.Test.YtlgjbcmkhcgigaaDoorLT1
import Derived.Test.YtlgjbcmkhcgigaaDoorQ6
namespace Go.Proofs.YtlgjbcmkhcgigaaDoor
open Go.RowKit

theorem infoDD : (Tryd.prog.info? 45).map (fun i => (i.zero, i.size, i.bytes)) = some (some (.agg zeroD.cells), 7, 56) := by kernel_rfl
theorem flat_snoc (ps : List Deed) (d : Deed) : (ps ++ [d]).flatMap dCells = ps.flatMap dCells ++ dCells d := by simp
theorem own_apart {w : World} {b b' e e' sz sz' n n' : Nat} {v v' : Value} {xs xs' : List Value} (ho : w.ownsRow b e sz v n xs) (hp : w.ownsRow b' e' sz' v' n' xs') (hne : e ≠ e') : ∀ k, v.ownBlock = some k → ¬ v'.ownBlock = some k := by
  intro k hk hk'
  rcases ho.2 with ⟨rfl, _⟩ | ⟨g, cap, cur, rfl, _, hg, _⟩
  · cases hk
  · rcases hp.2 with ⟨rfl, _⟩ | ⟨g', cap', cur', rfl, _, hg', _⟩
    · cases hk'
    · have e1 : g = k := by simpa [Value.ownBlock] using hk
      have e2 : g' = k := by simpa [Value.ownBlock] using hk'
      subst e1
      subst e2
      rw [hg] at hg'
      injection hg' with h
      injection h with _ h
      exact hne h
theorem fill_deed (d : Deed) : Instr.fill (fun i => some (i * 7, 7)) (Array.map (fun x => (Value.agg zeroD.cells).cells[x % (Value.agg zeroD.cells).cells.size]!) (Array.range (1 * 7))) [(0, Value.agg d.cells)] = some d.cells := by kernel_rfl
section
variable {ops : Array Oper} {rest : List Oper} {o : Oper} {a : Act} {W : World} {Q : Exit → Act → World → Prop}
theorem wpList_lit_deed (hgd : o.guard = none) (x : Operand) (ho : o.op = .buildSlice 22 1 #[(0, x)]) (d : Deed) (hx : a.eval x = .agg d.cells)
    (h : wpList Tryd.prog ops Q rest (a.put o.dst (.slice (some ⟨W.heap.size, 0, none⟩) 1 1)) (W.alloc (.cells d.cells 45))) : wpList Tryd.prog ops Q (o :: rest) a W := by
  obtain ⟨i0, hi, hz0, hz1, hz2⟩ := info_parts infoDD
  refine wpList_buildSlice hgd 22 45 1 _ ho d.cells i0 _ Tryd.underlying22 hi hz0 (by rw [hz1]; decide) (by rw [hz1]; decide) ?_ h
  rw [hz1]
  simp only [List.map_toArray, List.map_cons, List.map_nil, hx]
  exact fill_deed d
theorem wpList_append_deed (hgd : o.guard = none) (s x : Operand) (ho : o.op = .call { callee := .builtin .append, args := #[s, x], argTypes := #[22, 22] })
    (B : Nat) {v : Value} {n : Nat} {ps : List Deed} (hown : W.ownsRow B 45 7 v n (ps.flatMap dCells)) (hs : a.eval s = v) (hx : a.eval x = .slice (some ⟨W.heap.size, 0, none⟩) 1 1) (d : Deed) (t' : TypeId)
    (hn : n + 1 ≤ 100000) (hB : B ≤ W.heap.size)
    (h : ∀ v' w', w'.ownsRow B 45 7 v' (n + 1) ((ps ++ [d]).flatMap dCells) → Below B W w' → Foot (fun k => v.ownBlock = some k) W w' → wpList Tryd.prog ops Q rest (a.put o.dst v') w') :
    wpList Tryd.prog ops Q (o :: rest) a (W.alloc (.cells d.cells t')) := by
  obtain ⟨i0, hi, hz0, hz1, hz2⟩ := info_parts infoDD
  have hown1 := hown.alloc (.cells d.cells t')
  have hr : RV (W.alloc (.cells d.cells t')) (fun k => k = W.heap.size) (.slice (some ⟨W.heap.size, 0, none⟩) 1 1) 1 7 (dCells d) := by
    refine ⟨_, _, rfl, Nat.le_refl _, by unfold maxLen; omega, (fun e => by cases e), rfl, .inr ⟨_, 0, rfl, by simp, rfl, fun j u hu => ?_⟩⟩
    rw [Nat.zero_add, cell_of_row _ _ j _ _ _ (heap_alloc_new W _)]
    simpa [dCells] using hu
  refine wpList_append_rv _ hgd s x 22 ho B 45 i0 (.agg zeroD.cells) 7 56 Tryd.underlying22 hi hz0 hz1 hz2 rfl (by decide) v n (ps.flatMap dCells) hs hown1 _ _ 1 (dCells d) hx hr (fun u hu => ?_) (by unfold maxLen; omega) (by omega) (by simp; omega) fun v' w' h2 h3 h4 => ?_
  · simp [dCells, Deed.cells] at hu
    rcases hu with rfl | rfl | rfl | rfl | rfl | rfl | rfl <;> rfl
  · refine h v' w' (by rw [flat_snoc]; exact h2) ?_ ?_
    · exact ((Below.refl B W).alloc hB _).grown h3 (by simp; omega) (fun j hj => (hown1.lt j hj).1)
    · exact ((Foot.refl _ W).alloc _).then_ (Foot.of_grown h3) (fun k hk => .inl hk)
end
theorem prsGo_step {i : Nat} {acc : List Deed} {l : List UInt8} {ls : List (List UInt8)} {R : List Deed × Nat × Nat} (h : prsGo i acc (l :: ls) = R) (h0 : (parseD l).2 = 0) : prsGo (i + 1) (acc ++ [(parseD l).1]) ls = R := by
  rw [← h, prsGo, if_pos h0]
theorem prsGo_stop {i : Nat} {acc : List Deed} {l : List UInt8} {ls : List (List UInt8)} {R : List Deed × Nat × Nat} (h : prsGo i acc (l :: ls) = R) (h0 : ¬ (parseD l).2 = 0) : R = ([], i, (parseD l).2) := by
  rw [← h, prsGo, if_neg h0]
theorem dropl {ps : List (List UInt8)} {k : Nat} {d : List UInt8} (hd : ps[k]? = some d) : ps.drop k = d :: ps.drop (k + 1) := by
  obtain ⟨h, rfl⟩ := List.getElem?_eq_some_iff.1 hd
  exact List.drop_eq_getElem_cons h

set_option maxRecDepth 100000 in
set_option maxHeartbeats 4000000 in
theorem Parse8_any (s : ByteArray) (hs : s.size ≤ 40000) (hz : ∀ z ∈ linesL s.data.toList, z.length ≤ 4000) (w : World) :
    Calls Tryd.prog 20 #[.string s] w fun e w' => ∃ v, e = .returned (.tuple #[v, .int .i64 ((prsP s.data.toList).2.1 : Int), .int .i64 ((prsP s.data.toList).2.2 : Int)]) ∧ w'.ownsRow w.heap.size 45 7 v (prsP s.data.toList).1.length ((prsP s.data.toList).1.flatMap dCells) ∧ Below w.heap.size w w' := by
  obtain ⟨D, hD⟩ : ∃ D, linesL s.data.toList = D := ⟨_, rfl⟩
  have hln := lines_any s hs D hD w
  rw [hD] at hz
  have HSH : Hid (∀ z ∈ D, z.length ≤ 4000) := Lib.hid hz
  by_cases h6 : 256 < D.length
  · have hr : prsP s.data.toList = ([], 0, 4) := by unfold prsP; rw [hD, if_pos h6]
    have hl : Calls Tryd.prog 43 #[.string s] w fun e w' => e = .returned (.tuple #[.slice none 0 0, .bool false]) ∧ Below w.heap.size w w' := hln.mono fun _ _ h => ⟨h.2.1 h6, h.2.2⟩
    rw [hr]
    clear hln hr h6 hD hz hs
    go_enter Tryd.func20, Tryd.ntmps20
    go_wp2_with (go_at_call 43; (with_reducible refine hl.mono ?_); clear hl; rintro e w1 ⟨rfl, hb1⟩)
    go_ret3
    exact ⟨_, rfl, World.ownsRow_nil _ _ _ _, hb1⟩
  · obtain ⟨R, hR⟩ : ∃ R, prsP s.data.toList = R := ⟨_, rfl⟩
    have hr : prsGo 0 [] (D.drop 0) = R := by rw [← hR]; unfold prsP; rw [hD, if_neg h6]; rfl
    have hl : Calls Tryd.prog 43 #[.string s] w fun e w' => (∃ v, e = .returned (.tuple #[v, .bool true]) ∧ w'.ownsRow w.heap.size 9 1 v D.length (D.map sV)) ∧ Below w.heap.size w w' := hln.mono fun _ _ h => ⟨h.1 (by omega), h.2.2⟩
    rw [hR]
    have HR0 := Lib.hid hr
    have h62 : D.length ≤ 256 := by omega
    clear hln hr h6 hD hz hs hR
    go_enter Tryd.func20, Tryd.ntmps20
    go_wp2_with (go_at_call 43; (with_reducible refine hl.mono ?_); clear hl; rintro e w1 ⟨⟨lv, rfl, hlo⟩, hb1⟩; obtain ⟨p, c, rfl, _⟩ := id (RV.of_own hlo))
    go_loopw [7, 21] (fun v t wr => ∃ (k : Nat) (acc : List Deed), k ≤ D.length ∧ t = .int .i64 k ∧ acc.length = k ∧ Hid (prsGo k acc (D.drop k) = R) ∧ wr.ownsRow w.heap.size 45 7 v k (acc.flatMap dCells) ∧ wr.ownsRow w.heap.size 9 1 (.slice p D.length c) D.length (D.map sV) ∧ Below w.heap.size w wr) (fun _ t _ => D.length - (intOf t).toNat)
    case atStart => exact ⟨0, [], by omega, rfl, rfl, HR0, World.ownsRow_nil _ _ _ _, hlo, hb1⟩
    case round =>
      obtain ⟨k, acc, hk, rfl, hal, hX, hown, hlw, hb⟩ := hrel
      clear HR0 hlo hb1
      by_cases hlt : k < D.length
      · obtain ⟨l, hl⟩ : ∃ l, D[k]? = some l := ⟨_, List.getElem?_eq_getElem hlt⟩
        obtain ⟨b, off, rfl, _, _, hcell⟩ := (RV.of_own hlw).at1 k (sV l) (by rw [List.getElem?_map, hl]; rfl)
        obtain ⟨Z, hZ⟩ : ∃ Z : ByteArray, Z = ⟨l.toArray⟩ := ⟨_, rfl⟩
        have hZl : Z.data.toList = l := by rw [hZ]
        have hZs : Z.size ≤ 4000 := by rw [← list_size, hZl]; exact HSH.out l (List.mem_of_getElem? hl)
        have hx := hX.out
        rw [dropl hl] at hx
        unfold sV at hcell
        rw [← hZ] at hcell
        have hpr := Parse_any Z hZs wr
        rw [hZl] at hpr
        simp only [Deed.val] at hpr
        have hst := prsGo_stop hx
        have hsp := prsGo_step hx
        generalize parseD l = r at hpr hst hsp
        obtain ⟨d, y⟩ := r
        simp only at hpr hst hsp
        by_cases hy : y = 0
        · have HX := Lib.hid (hsp hy)
          subst hy
          clear hst hsp hx hX hZ hZl hl hZs
          go_wp2_with (first
            | (go_at_call 44; (with_reducible refine hpr.mono ?_); clear hpr; rintro e w2 ⟨rfl, hb2⟩; have hb3 : Below w.heap.size w (w2.alloc (.cells d.cells 45)) := (below_pre hb hb2).alloc (below_pre hb hb2).size _; have hown2 := (ownsRow_below hown hb2 (Nat.le_refl _)).alloc (.cells d.cells 45); have hlw2 := (ownsRow_below hlw hb2 (Nat.le_refl _)).alloc (.cells d.cells 45))
            | (refine wpList_alloc_agg rfl 45 rfl zeroD.cells zeroR ?_)
            | (refine wpList_store_row rfl 45 _ _ rfl w2.heap.size d.cells rfl rfl 45 _ (heap_alloc_new w2 _) (sizeD _) rfl (oneD _) ?_; rw [World.setRow_alloc_new])
            | (refine wpList_load_row rfl 45 _ rfl w2.heap.size rfl 45 _ (0, 0) _ (heap_alloc_new w2 _) Tryd.underlying45 rfl (sizeD _) ?_)
            | (refine wpList_lit_deed rfl _ rfl d rfl ?_)
            | (at_builtin; refine wpList_append_deed rfl _ _ rfl w.heap.size hown2 rfl rfl d 45 (by omega) hb3.size ?_; intro v' w4 hown4 hb4 hf4))
          have hlw4 := hf4.own hlw2 (own_apart hlw2 hown2 (by decide))
          go_roundw
          case rel => exact ⟨k + 1, acc ++ [d], by omega, by go_num, by simp [hal], HX, hown4, hlw4, hb3.trans hb4⟩
          case measure => simp [intOf]; omega
        · have HX := Lib.hid (hst hy)
          have hyy : ((y : Int) != 0) = true := by simp; omega
          clear hst hsp hx hX hZ hZl hl hZs hy
          go_wp2_with (first
            | (go_at_call 44; (with_reducible refine hpr.mono ?_); clear hpr; rintro e w2 ⟨rfl, hb2⟩; have hb3 : Below w.heap.size w (w2.alloc (.cells d.cells 45)) := (below_pre hb hb2).alloc (below_pre hb hb2).size _)
            | (refine wpList_alloc_agg rfl 45 rfl zeroD.cells zeroR ?_)
            | (refine wpList_store_row rfl 45 _ _ rfl w2.heap.size d.cells rfl rfl 45 _ (heap_alloc_new w2 _) (sizeD _) rfl (oneD _) ?_; rw [World.setRow_alloc_new]))
          go_ret3
          rw [HX.out]
          exact ⟨_, rfl, World.ownsRow_nil _ _ _ _, hb3⟩
      · obtain rfl : k = D.length := by omega
        have hx := hX.out
        rw [List.drop_length, prsGo, hal] at hx
        have HX : Hid (R = (acc, D.length, 0)) := Lib.hid hx.symm
        obtain ⟨pv, cv, rfl, _⟩ := id (RV.of_own hown)
        clear hX hx
        go_wp2
        go_ret3
        rw [HX.out]
        exact ⟨_, rfl, by rw [hal]; exact hown, hb⟩
end Go.Proofs.YtlgjbcmkhcgigaaDoor

namespace Go.Proofs.YtlgjbcmkhcgigaaDoor
open Go.RowKit

set_option maxRecDepth 100000 in
set_option maxHeartbeats 4000000 in
theorem RParse8_any (s : ByteArray) (hs : s.size ≤ 40000) (hz : ∀ z ∈ linesL s.data.toList, z.length ≤ 4000) (w : World) :
    Calls Tryd.prog 22 #[.string s] w fun e w' => ∃ v, e = .returned (.tuple #[v, .int .i64 ((prsP s.data.toList).2.1 : Int), .int .i64 ((prsP s.data.toList).2.2 : Int)]) ∧ w'.ownsRow w.heap.size 45 7 v (prsP s.data.toList).1.length ((prsP s.data.toList).1.flatMap dCells) ∧ Below w.heap.size w w' := by
  obtain ⟨D, hD⟩ : ∃ D, linesL s.data.toList = D := ⟨_, rfl⟩
  have hln := RLines_any s (by omega) D hD w
  rw [hD] at hz
  have HSH : Hid (∀ z ∈ D, z.length ≤ 4000) := Lib.hid hz
  by_cases h6 : 256 < D.length
  · have hr : prsP s.data.toList = ([], 0, 4) := by unfold prsP; rw [hD, if_pos h6]
    rw [hr]
    have ht : decide ((D.length : Int) > 256) = true := by simp; omega
    clear hr h6 hD hz hs
    go_enter Tryd.func22, Tryd.ntmps22
    go_wp2_with (go_at_call 45; (with_reducible refine hln.mono ?_); clear hln; rintro e w1 ⟨lv, rfl, hlo, hb1⟩; obtain ⟨p, c, rfl, _⟩ := id (RV.of_own hlo))
    go_ret3
    exact ⟨_, rfl, World.ownsRow_nil _ _ _ _, hb1⟩
  · obtain ⟨R, hR⟩ : ∃ R, prsP s.data.toList = R := ⟨_, rfl⟩
    have hr : prsGo 0 [] (D.drop 0) = R := by rw [← hR]; unfold prsP; rw [hD, if_neg h6]; rfl
    rw [hR]
    have HR0 := Lib.hid hr
    have h62 : D.length ≤ 256 := by omega
    have ht : decide ((D.length : Int) > 256) = false := by simp; omega
    clear hr h6 hD hz hs hR
    go_enter Tryd.func22, Tryd.ntmps22
    go_wp2_with (go_at_call 45; (with_reducible refine hln.mono ?_); clear hln; rintro e w1 ⟨lv, rfl, hlo, hb1⟩; obtain ⟨p, c, rfl, _⟩ := id (RV.of_own hlo))
    go_loopw [6, 7] (fun v t wr => ∃ (k : Nat) (acc : List Deed), k ≤ D.length ∧ t = .int .i64 k ∧ acc.length = k ∧ Hid (prsGo k acc (D.drop k) = R) ∧ wr.ownsRow w.heap.size 45 7 v k (acc.flatMap dCells) ∧ wr.ownsRow w.heap.size 9 1 (.slice p D.length c) D.length (D.map sV) ∧ Below w.heap.size w wr) (fun _ t _ => D.length - (intOf t).toNat)
    case atStart => exact ⟨0, [], by omega, rfl, rfl, HR0, World.ownsRow_nil _ _ _ _, hlo, hb1⟩
    case round =>
      obtain ⟨k, acc, hk, rfl, hal, hX, hown, hlw, hb⟩ := hrel
      clear HR0 hlo hb1
      by_cases hlt : k < D.length
      · obtain ⟨l, hl⟩ : ∃ l, D[k]? = some l := ⟨_, List.getElem?_eq_getElem hlt⟩
        obtain ⟨b, off, rfl, _, _, hcell⟩ := (RV.of_own hlw).at1 k (sV l) (by rw [List.getElem?_map, hl]; rfl)
        obtain ⟨Z, hZ⟩ : ∃ Z : ByteArray, Z = ⟨l.toArray⟩ := ⟨_, rfl⟩
        have hZl : Z.data.toList = l := by rw [hZ]
        have hZs : Z.size ≤ 4000 := by rw [← list_size, hZl]; exact HSH.out l (List.mem_of_getElem? hl)
        have hx := hX.out
        rw [dropl hl] at hx
        unfold sV at hcell
        rw [← hZ] at hcell
        have hpr := RParse_any Z hZs wr
        rw [hZl] at hpr
        simp only [Deed.val] at hpr
        have hst := prsGo_stop hx
        have hsp := prsGo_step hx
        generalize parseD l = r at hpr hst hsp
        obtain ⟨d, y⟩ := r
        simp only at hpr hst hsp
        by_cases hy : y = 0
        · have HX := Lib.hid (hsp hy)
          subst hy
          clear hst hsp hx hX hZ hZl hl hZs
          go_wp2_with (first
            | (go_at_call 46; (with_reducible refine hpr.mono ?_); clear hpr; rintro e w2 ⟨rfl, hb2⟩; have hb3 : Below w.heap.size w (w2.alloc (.cells d.cells 45)) := (below_pre hb hb2).alloc (below_pre hb hb2).size _; have hown2 := (ownsRow_below hown hb2 (Nat.le_refl _)).alloc (.cells d.cells 45); have hlw2 := (ownsRow_below hlw hb2 (Nat.le_refl _)).alloc (.cells d.cells 45))
            | (refine wpList_alloc_agg rfl 45 rfl zeroD.cells zeroR ?_)
            | (refine wpList_store_row rfl 45 _ _ rfl w2.heap.size d.cells rfl rfl 45 _ (heap_alloc_new w2 _) (sizeD _) rfl (oneD _) ?_; rw [World.setRow_alloc_new])
            | (refine wpList_load_row rfl 45 _ rfl w2.heap.size rfl 45 _ (0, 0) _ (heap_alloc_new w2 _) Tryd.underlying45 rfl (sizeD _) ?_)
            | (refine wpList_lit_deed rfl _ rfl d rfl ?_)
            | (at_builtin; refine wpList_append_deed rfl _ _ rfl w.heap.size hown2 rfl rfl d 45 (by omega) hb3.size ?_; intro v' w4 hown4 hb4 hf4))
          have hlw4 := hf4.own hlw2 (own_apart hlw2 hown2 (by decide))
          go_roundw
          case rel => exact ⟨k + 1, acc ++ [d], by omega, by go_num, by simp [hal], HX, hown4, hlw4, hb3.trans hb4⟩
          case measure => simp [intOf]; omega
        · have HX := Lib.hid (hst hy)
          have hyy : ((y : Int) != 0) = true := by simp; omega
          clear hst hsp hx hX hZ hZl hl hZs hy
          go_wp2_with (first
            | (go_at_call 46; (with_reducible refine hpr.mono ?_); clear hpr; rintro e w2 ⟨rfl, hb2⟩; have hb3 : Below w.heap.size w (w2.alloc (.cells d.cells 45)) := (below_pre hb hb2).alloc (below_pre hb hb2).size _)
            | (refine wpList_alloc_agg rfl 45 rfl zeroD.cells zeroR ?_)
            | (refine wpList_store_row rfl 45 _ _ rfl w2.heap.size d.cells rfl rfl 45 _ (heap_alloc_new w2 _) (sizeD _) rfl (oneD _) ?_; rw [World.setRow_alloc_new]))
          go_ret3
          rw [HX.out]
          exact ⟨_, rfl, World.ownsRow_nil _ _ _ _, hb3⟩
      · obtain rfl : k = D.length := by omega
        have hx := hX.out
        rw [List.drop_length, prsGo, hal] at hx
        have HX : Hid (R = (acc, D.length, 0)) := Lib.hid hx.symm
        obtain ⟨pv, cv, rfl, _⟩ := id (RV.of_own hown)
        clear hX hx
        go_wp2
        go_ret3
        rw [HX.out]
        exact ⟨_, rfl, by rw [hal]; exact hown, hb⟩

/-- Are two programs the same? -/
def sameP : List Deed → List Deed → Bool
  | [], [] => true
  | d :: ps, e :: qs => eqD d e && sameP ps qs
  | _, _ => false
theorem sameP_iff : ∀ ps qs : List Deed, sameP ps qs = true ↔ ps = qs
  | [], [] => by simp [sameP]
  | d :: ps, e :: qs => by simp [sameP, sameP_iff ps qs, eqD_iff]
  | [], _ :: _ => by simp [sameP]
  | _ :: _, [] => by simp [sameP]
theorem same_step {ps qs : List Deed} {k : Nat} {d e : Deed} (hd : ps[k]? = some d) (he : qs[k]? = some e) (h : ps.take k = qs.take k) (hde : d = e) : ps.take (k + 1) = qs.take (k + 1) := by
  rw [List.take_add_one, List.take_add_one, hd, he, h, hde]
theorem same_not {ps qs : List Deed} {k : Nat} {d e : Deed} (hd : ps[k]? = some d) (he : qs[k]? = some e) (hde : ¬ d = e) : sameP ps qs = false := by
  rw [Bool.eq_false_iff]
  intro hs
  obtain rfl := (sameP_iff _ _).1 hs
  rw [hd] at he
  exact hde (Option.some.inj he)

set_option maxRecDepth 100000 in
set_option maxHeartbeats 4000000 in
theorem Same_any (p p' : Option Addr) (c c' : Nat) (ps qs : List Deed) (hpl : ps.length ≤ 100000) (G G' : Nat → Prop) (w : World) (h : RP w G (.slice p ps.length c) ps) (h' : RP w G' (.slice p' qs.length c') qs) :
    Calls Tryd.prog 21 #[.slice p ps.length c, .slice p' qs.length c'] w fun e w' => e = .returned (.bool (sameP ps qs)) ∧ Below w.heap.size w w' := by
  by_cases hl : ps.length = qs.length
  · obtain ⟨R, hR⟩ : ∃ R, sameP ps qs = R := ⟨_, rfl⟩
    rw [hR]
    have HR := Lib.hid hR
    have ht : ((ps.length : Int) != (qs.length : Int)) = false := by simp [hl]
    have HL := Lib.hid hl
    have H := Lib.hid h
    have H' := Lib.hid h'
    clear h h' hl hR
    go_enter Tryd.func21, Tryd.ntmps21
    go_wp2
    go_loopw [5] (fun t wr => ∃ k : Nat, k ≤ ps.length ∧ t = .int .i64 k ∧ Hid (ps.take k = qs.take k) ∧ Hid (RP wr G (.slice p ps.length c) ps) ∧ Hid (RP wr G' (.slice p' qs.length c') qs) ∧ Below w.heap.size w wr) (fun t _ => ps.length - (intOf t).toNat)
    case atStart => exact ⟨0, by omega, rfl, Lib.hid (by simp), H, H', Below.refl _ _⟩
    case round =>
      obtain ⟨k, hk, rfl, hE, hP, hQ, hb⟩ := hrel
      clear H H'
      by_cases hlt : k < ps.length
      · have hlt' : k < qs.length := by have := HL.out; omega
        obtain ⟨d, hd⟩ : ∃ d, ps[k]? = some d := ⟨_, List.getElem?_eq_getElem hlt⟩
        obtain ⟨e, he⟩ : ∃ e, qs[k]? = some e := ⟨_, List.getElem?_eq_getElem hlt'⟩
        obtain ⟨b, off, rfl, _, _, hra, _⟩ := hP.out.at hd
        obtain ⟨b', off', rfl, _, _, hra', _⟩ := hQ.out.at he
        have a0 : wr.cell? ⟨b, off + k * 7, none⟩ = some (.int .i64 d.op) := hra 0 _ rfl
        have a1 : wr.cell? ⟨b, off + k * 7 + 1, none⟩ = some (.int .i64 d.a) := hra 1 _ rfl
        have a2 : wr.cell? ⟨b, off + k * 7 + 2, none⟩ = some (.int .i64 d.b) := hra 2 _ rfl
        have a3 : wr.cell? ⟨b, off + k * 7 + 3, none⟩ = some (.int .i64 d.r) := hra 3 _ rfl
        have a4 : wr.cell? ⟨b, off + k * 7 + 4, none⟩ = some (.int .u64 (d.n : Int)) := hra 4 _ rfl
        have a5 : wr.cell? ⟨b, off + k * 7 + 5, none⟩ = some (.int .u64 (d.mask : Int)) := hra 5 _ rfl
        have a6 : wr.cell? ⟨b, off + k * 7 + 6, none⟩ = some (.bool d.loose) := hra 6 _ rfl
        have c0 : wr.cell? ⟨b', off' + k * 7, none⟩ = some (.int .i64 e.op) := hra' 0 _ rfl
        have c1 : wr.cell? ⟨b', off' + k * 7 + 1, none⟩ = some (.int .i64 e.a) := hra' 1 _ rfl
        have c2 : wr.cell? ⟨b', off' + k * 7 + 2, none⟩ = some (.int .i64 e.b) := hra' 2 _ rfl
        have c3 : wr.cell? ⟨b', off' + k * 7 + 3, none⟩ = some (.int .i64 e.r) := hra' 3 _ rfl
        have c4 : wr.cell? ⟨b', off' + k * 7 + 4, none⟩ = some (.int .u64 (e.n : Int)) := hra' 4 _ rfl
        have c5 : wr.cell? ⟨b', off' + k * 7 + 5, none⟩ = some (.int .u64 (e.mask : Int)) := hra' 5 _ rfl
        have c6 : wr.cell? ⟨b', off' + k * 7 + 6, none⟩ = some (.bool e.loose) := hra' 6 _ rfl
        have q3 := neq_run d e
        simp only [Deed.cells] at q3
        by_cases hde : d = e
        · have HX := Lib.hid (same_step hd he hE.out hde)
          rw [(eqD_iff d e).2 hde] at q3
          clear hd he hde hra hra' hE
          go_wp2_with fail
          go_quiet (fail)
          go_wp2
          go_roundw
          case rel => exact ⟨k + 1, by omega, by go_num, HX, Lib.hid (hP.out.drewN _), Lib.hid (hQ.out.drewN _), Below.drewN' hb _⟩
          case measure => simp [intOf]; omega
        · have HX := Lib.hid (same_not hd he hde)
          rw [show eqD d e = false by rw [Bool.eq_false_iff]; exact fun h => hde ((eqD_iff d e).1 h)] at q3
          clear hd he hde hra hra' hE
          go_wp2_with fail
          go_quiet (fail)
          go_wp2
          go_ret
          exact ⟨by rw [← HR.out, HX.out]; rfl, Below.drewN' hb _⟩
      · obtain rfl : k = ps.length := by omega
        have hx := hE.out
        rw [List.take_length, HL.out, List.take_length] at hx
        have hr : R = true := by rw [← HR.out]; exact (sameP_iff _ _).2 hx
        subst hr
        clear hx
        go_wp2
        go_ret
        exact ⟨rfl, hb⟩
  · have hr : sameP ps qs = false := by
      rw [Bool.eq_false_iff]
      intro hs
      exact hl (congrArg List.length ((sameP_iff _ _).1 hs))
    rw [hr]
    have ht : ((ps.length : Int) != (qs.length : Int)) = true := by simp; omega
    clear hl h h' hr
    go_enter Tryd.func21, Tryd.ntmps21
    go_wp2
    go_ret
    exact ⟨rfl, Below.refl _ _⟩
end Go.Proofs.YtlgjbcmkhcgigaaDoor

namespace Go.Proofs.YtlgjbcmkhcgigaaDoor
open Go.RowKit

theorem drop_last (s : ByteArray) : (s.extract 0 (s.size - 1)).data.toList = s.data.toList.dropLast := by
  rw [extract_list, List.drop_zero, List.dropLast_eq_take, list_size]; rfl
theorem rp_own {w : World} {B n : Nat} {v : Value} {qs : List Deed} (h : w.ownsRow B 45 7 v n (qs.flatMap dCells)) (hn : n = qs.length) : ∃ p c, v = .slice p qs.length c ∧ RP w (fun _ => True) (.slice p qs.length c) qs := by
  subst hn
  have h1 := RV.of_own h
  obtain ⟨p, c, rfl, _⟩ := id h1
  exact ⟨p, c, rfl, RV.mono h1 (fun _ _ _ => trivial)⟩
theorem lines_small {qs : List Deed} (hok : ∀ d ∈ qs, d.ok) {D : List (List UInt8)} (h : D = qs.map lineD) : ∀ z ∈ D, z.length ≤ 4000 := by
  subst h
  intro z hz
  obtain ⟨d, hd, rfl⟩ := List.mem_map.1 hz
  have := lineD_len d (hok d hd)
  omega
theorem textP_pos {qs : List Deed} (h : qs ≠ []) : textP qs ≠ [] := by
  cases qs with
  | nil => exact absurd rfl h
  | cons d qs => rw [textP_cons]; simp

set_option maxRecDepth 100000 in
set_option maxHeartbeats 8000000 in
theorem texts_walk (v : Value) (ps : List Deed) (hok : ∀ d ∈ ps, d.ok) (w : World) (hr : RP w (fun k => k < w.heap.size) v ps) (hT : Tabs w) :
    Calls Tryd.prog 4 #[v] w fun e w' => e = .returned (.bool true) ∧ Below w.heap.size w w' := by
  obtain ⟨p, c, M, qs, rfl, hnc, hcm, hqM, hM3, hq, hqok, hcut⟩ := few_reads hr hok
  have hfew := few_any p ps.length c M hnc hcm hcut
  subst hqM
  obtain ⟨S, hS⟩ : ∃ S : ByteArray, S = ⟨(textP qs).toArray⟩ := ⟨_, rfl⟩
  have hSl : S.data.toList = textP qs := by rw [hS]
  have hSs : S.size ≤ 40000 := by
    rw [← list_size, hSl]
    have := textP_len qs hqok
    omega
  have htx : ∀ W, w.heap.size ≤ W.heap.size → Tabs W → RP W (fun k => k < w.heap.size) (.slice p qs.length c) qs → Calls Tryd.prog 18 #[.slice p qs.length c] W fun e w' => e = .returned (.string S) ∧ Below W.heap.size W w' := fun W hs hT h => by
    have := Text_any p c qs.length qs rfl hM3 hqok _ W (fun k hk => by omega) h hT
    rw [sV, ← hS] at this
    exact this
  have hrtx : ∀ W, RP W (fun k => k < w.heap.size) (.slice p qs.length c) qs → Calls Tryd.prog 19 #[.slice p qs.length c] W fun e w' => e = .returned (.string S) ∧ Below W.heap.size W w' := fun W h => by
    have := RText_any p c qs.length qs rfl hM3 hqok _ W h
    rw [sV, ← hS] at this
    exact this
  have hrchk := fun W (h : RP W (fun k => k < w.heap.size) (.slice p qs.length c) qs) => RCheck_any p c qs _ W h
  have t1 : (S.toList == S.toList) = true := by simp
  have HA := Lib.hid awake_any
  have HT := Lib.hid hT
  have HP := Lib.hid hq
  have g : Hid (Below w.heap.size w w) := Lib.hid (Below.refl _ _)
  have HTX := Lib.hid htx
  clear hr hq hok hT hnc hcm hcut hS htx
  by_cases hc : checkN qs = 0
  · have h256 := (checkN_zero.1 hc).1
    obtain ⟨e1, e2⟩ := prs_text qs hqok hc
    rw [hc] at hrchk
    have hz1 : ∀ z ∈ linesL S.data.toList, z.length ≤ 4000 := by rw [hSl]; exact lines_small hqok (lines_textP qs hqok)
    have hz2 : ∀ z ∈ linesL (S.extract 0 (S.size - 1)).data.toList, z.length ≤ 4000 := by rw [drop_last, hSl]; exact lines_small hqok (lines_cut qs hqok (checkN_zero.1 hc).2)
    have hp1 : ∀ W, Calls Tryd.prog 20 #[.string S] W fun e w' => (∃ p' c', e = .returned (.tuple #[.slice p' qs.length c', .int .i64 (qs.length : Int), .int .i64 0]) ∧ RP w' (fun _ => True) (.slice p' qs.length c') qs) ∧ Below W.heap.size W w' := fun W => by
      have := Parse8_any S hSs hz1 W
      rw [hSl, e1] at this
      refine this.mono ?_
      rintro e w' ⟨v, rfl, h, hb⟩
      obtain ⟨p', c', rfl, hrp⟩ := rp_own h rfl
      exact ⟨⟨p', c', rfl, hrp⟩, hb⟩
    have hp2 : ∀ W, Calls Tryd.prog 20 #[.string (S.extract 0 (S.size - 1))] W fun e w' => (∃ p' c', e = .returned (.tuple #[.slice p' qs.length c', .int .i64 (qs.length : Int), .int .i64 0]) ∧ RP w' (fun _ => True) (.slice p' qs.length c') qs) ∧ Below W.heap.size W w' := fun W => by
      have := Parse8_any (S.extract 0 (S.size - 1)) (by rw [ByteArray.size_extract]; omega) hz2 W
      rw [drop_last, hSl, e2] at this
      refine this.mono ?_
      rintro e w' ⟨v, rfl, h, hb⟩
      obtain ⟨p', c', rfl, hrp⟩ := rp_own h rfl
      exact ⟨⟨p', c', rfl, hrp⟩, hb⟩
    have hsame : ∀ (p' : Option Addr) (c' : Nat) (W : World), RP W (fun k => k < w.heap.size) (.slice p qs.length c) qs → RP W (fun _ => True) (.slice p' qs.length c') qs → Calls Tryd.prog 21 #[.slice p qs.length c, .slice p' qs.length c'] W fun e w' => e = .returned (.bool true) ∧ Below W.heap.size W w' := fun p' c' W h h' => by
      have := Same_any p p' c c' qs qs (by omega) _ _ W h h'
      rw [(sameP_iff qs qs).2 rfl] at this
      exact this
    have t2 : ((qs.length : Int) != (qs.length : Int)) = false := by simp
    have t3 : ((qs.length : Int) == (qs.length : Int)) = true := by simp
    have HSM := Lib.hid hsame
    clear e1 e2 hz1 hz2 hsame hqok
    by_cases h0 : qs = []
    · have hs0 : S.size = 0 := by rw [← list_size, hSl, h0]; rfl
      have t4 : ((S.size : Int) == 0) = true := by rw [hs0]; rfl
      have HH := Lib.hid hs0
      clear hSl h0 hs0 hc hSs h256
      go_enter Tryd.func4, Tryd.ntmps4
      go_wp2_with (first
        | (go_at_call 8; (with_reducible refine (hfew _).mono ?_); clear hfew; rintro e w1 ⟨rfl, rfl⟩)
        | (go_at_call 18; (with_reducible refine (HTX.out _ g.out.size (HT.out.below g.out (Nat.le_refl _)) HP.out).mono ?_); rintro e w1 ⟨rfl, hb1⟩; replace g := Lib.hid (g.out.trans (hb1.mono g.out.size)); replace HP := Lib.hid (HP.out.later hb1); clear hb1)
        | (go_at_call 19; (with_reducible refine (hrtx _ HP.out).mono ?_); clear hrtx; rintro e w1 ⟨rfl, hb1⟩; replace g := Lib.hid (g.out.trans (hb1.mono g.out.size)); replace HP := Lib.hid (HP.out.later hb1); clear hb1)
        | (go_at_call 12; (with_reducible refine (hrchk _ HP.out).mono ?_); clear hrchk; rintro e w1 ⟨rfl, hb1⟩; replace g := Lib.hid (g.out.trans (hb1.mono g.out.size)); replace HP := Lib.hid (HP.out.later hb1); clear hb1)
        | (go_at_call 20; (with_reducible refine (hp1 _).mono ?_); clear hp1; rintro e w1 ⟨⟨p1, c1, rfl, hrp1⟩, hb1⟩; have HP1 := Lib.hid hrp1; clear hrp1; replace g := Lib.hid (g.out.trans (hb1.mono g.out.size)); replace HP := Lib.hid (HP.out.later hb1); clear hb1)
        | (go_at_call 21; (with_reducible refine (HSM.out _ _ _ HP.out HP1.out).mono ?_); rintro e w1 ⟨rfl, hb1⟩; replace g := Lib.hid (g.out.trans (hb1.mono g.out.size)); replace HP := Lib.hid (HP.out.later hb1); clear hb1)
        | (go_at_call 15; (with_reducible refine (HA.out _ (HT.out.below g.out (Nat.le_refl _))).mono ?_); rintro e w1 ⟨rfl, hb1⟩; replace g := Lib.hid (g.out.trans (hb1.mono g.out.size)); replace HP := Lib.hid (HP.out.later hb1); clear hb1))
      go_ret
      exact ⟨rfl, g.out⟩
    · have hs0 : 0 < S.size := by
        rw [← list_size, hSl]
        exact List.length_pos_iff.2 (textP_pos h0)
      have t4 : ((S.size : Int) == 0) = false := by rw [beq_eq_false_iff_ne]; omega
      have hex : (S.extract 0 ((S.size : Int) - 1).toNat) = S.extract 0 (S.size - 1) := by congr 1; omega
      clear hSl h0 hc h256
      go_enter Tryd.func4, Tryd.ntmps4
      go_wp2_with (first
        | (go_at_call 8; (with_reducible refine (hfew _).mono ?_); clear hfew; rintro e w1 ⟨rfl, rfl⟩)
        | (go_at_call 18; (with_reducible refine (HTX.out _ g.out.size (HT.out.below g.out (Nat.le_refl _)) HP.out).mono ?_); rintro e w1 ⟨rfl, hb1⟩; replace g := Lib.hid (g.out.trans (hb1.mono g.out.size)); replace HP := Lib.hid (HP.out.later hb1); clear hb1)
        | (go_at_call 19; (with_reducible refine (hrtx _ HP.out).mono ?_); clear hrtx; rintro e w1 ⟨rfl, hb1⟩; replace g := Lib.hid (g.out.trans (hb1.mono g.out.size)); replace HP := Lib.hid (HP.out.later hb1); clear hb1)
        | (go_at_call 12; (with_reducible refine (hrchk _ HP.out).mono ?_); clear hrchk; rintro e w1 ⟨rfl, hb1⟩; replace g := Lib.hid (g.out.trans (hb1.mono g.out.size)); replace HP := Lib.hid (HP.out.later hb1); clear hb1)
        | (go_at_call 20; (with_reducible refine (hp1 _).mono ?_); clear hp1; rintro e w1 ⟨⟨p1, c1, rfl, hrp1⟩, hb1⟩; have HP1 := Lib.hid hrp1; clear hrp1; replace g := Lib.hid (g.out.trans (hb1.mono g.out.size)); replace HP := Lib.hid (HP.out.later hb1); clear hb1)
        | (go_at_call 20; first | rw [hex] | skip; (with_reducible refine (hp2 _).mono ?_); clear hp2; rintro e w1 ⟨⟨p2, c2, rfl, hrp1⟩, hb1⟩; have HP2 := Lib.hid hrp1; clear hrp1; replace g := Lib.hid (g.out.trans (hb1.mono g.out.size)); replace HP := Lib.hid (HP.out.later hb1); clear hb1)
        | (go_at_call 21; (with_reducible refine (HSM.out _ _ _ HP.out HP1.out).mono ?_); rintro e w1 ⟨rfl, hb1⟩; replace g := Lib.hid (g.out.trans (hb1.mono g.out.size)); replace HP := Lib.hid (HP.out.later hb1); clear hb1 HP1)
        | (go_at_call 21; (with_reducible refine (HSM.out _ _ _ HP.out HP2.out).mono ?_); rintro e w1 ⟨rfl, hb1⟩; replace g := Lib.hid (g.out.trans (hb1.mono g.out.size)); replace HP := Lib.hid (HP.out.later hb1); clear hb1)
        | (go_at_call 15; (with_reducible refine (HA.out _ (HT.out.below g.out (Nat.le_refl _))).mono ?_); rintro e w1 ⟨rfl, hb1⟩; replace g := Lib.hid (g.out.trans (hb1.mono g.out.size)); replace HP := Lib.hid (HP.out.later hb1); clear hb1))
      go_ret
      exact ⟨rfl, g.out⟩
  · have tc : ((checkN qs : Int) != 0) = true := by simp; omega
    clear hSl hc hSs hqok
    go_enter Tryd.func4, Tryd.ntmps4
    go_wp2_with (first
      | (go_at_call 8; (with_reducible refine (hfew _).mono ?_); clear hfew; rintro e w1 ⟨rfl, rfl⟩)
      | (go_at_call 18; (with_reducible refine (HTX.out _ g.out.size (HT.out.below g.out (Nat.le_refl _)) HP.out).mono ?_); rintro e w1 ⟨rfl, hb1⟩; replace g := Lib.hid (g.out.trans (hb1.mono g.out.size)); replace HP := Lib.hid (HP.out.later hb1); clear hb1)
      | (go_at_call 19; (with_reducible refine (hrtx _ HP.out).mono ?_); clear hrtx; rintro e w1 ⟨rfl, hb1⟩; replace g := Lib.hid (g.out.trans (hb1.mono g.out.size)); replace HP := Lib.hid (HP.out.later hb1); clear hb1)
      | (go_at_call 12; (with_reducible refine (hrchk _ HP.out).mono ?_); clear hrchk; rintro e w1 ⟨rfl, hb1⟩; replace g := Lib.hid (g.out.trans (hb1.mono g.out.size)); replace HP := Lib.hid (HP.out.later hb1); clear hb1)
      | (go_at_call 15; (with_reducible refine (HA.out _ (HT.out.below g.out (Nat.le_refl _))).mono ?_); rintro e w1 ⟨rfl, hb1⟩; replace g := Lib.hid (g.out.trans (hb1.mono g.out.size)); replace HP := Lib.hid (HP.out.later hb1); clear hb1))
    go_ret
    exact ⟨rfl, g.out⟩
end Go.Proofs.YtlgjbcmkhcgigaaDoor
