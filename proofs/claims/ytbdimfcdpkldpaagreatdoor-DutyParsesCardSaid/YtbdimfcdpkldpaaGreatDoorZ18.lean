/- How much of a duty is looked at, and the page's example. -/
import Derived.Test.YtbdimfcdpkldpaaGreatDoorZ8
import Derived.Test.YtbdimfcdpkldpaaGreatDoorLY1
namespace Go.Proofs.YtbdimfcdpkldpaaGreatDoor
open Go.RowKit

theorem plain_text : textN9 (plainY 2 3) = [100, 117, 116, 121, 32, 50, 32, 51, 32, 52, 32, 52, 32, 56, 32, 51, 102, 101, 48, 48, 48, 48, 48, 48, 48, 48, 48, 48, 48, 48, 48, 32, 52, 48, 48, 48, 48, 48, 48, 48, 48, 48, 48, 48, 48, 48, 48, 48, 10] := by kernel_rfl
theorem zeroDV (w : World) (G : Nat → Prop) (d : Dut) (hp : d.progs = []) (hs : d.starts = []) : DV w G (.slice none 0 0) (.slice none 0 0) d := by
  refine ⟨?_, ?_⟩
  · rw [hp]; exact RPP.nil _ _
  · rw [hs]; exact RSs.nil _ _
set_option maxRecDepth 100000 in
set_option maxHeartbeats 4000000 in
theorem awakeY_any (w : World) (hT : Tabs w) : Calls Tryz.prog 10 #[] w fun e w' => e = .returned (.bool true) ∧ Below w.heap.size w w' := by
  have hpl := fun W => PlainY_any 2 3 W
  obtain ⟨P, hP⟩ : ∃ P, plainY 2 3 = P := ⟨_, rfl⟩
  have hok : P.ok := by rw [← hP]; exact plainY_ok 2 3
  have hck := fun W => CheckY_any P hok (.slice none 0 0) (.slice none 0 0) (fun _ => False) W (zeroDV W _ P (by rw [← hP]; rfl) (by rw [← hP]; rfl))
  have hc0 : checkY P = 0 := by rw [← hP]; exact plainY_check 2 3
  rw [hc0] at hck
  have htx := fun W (hW : Tabs W) => TextY_any P hok (.slice none 0 0) (.slice none 0 0) (fun _ => False) W (fun k hk => hk.elim) (zeroDV W _ P (by rw [← hP]; rfl) (by rw [← hP]; rfl)) hW
  have hpt : textN9 P = [100, 117, 116, 121, 32, 50, 32, 51, 32, 52, 32, 52, 32, 56, 32, 51, 102, 101, 48, 48, 48, 48, 48, 48, 48, 48, 48, 48, 48, 48, 48, 32, 52, 48, 48, 48, 48, 48, 48, 48, 48, 48, 48, 48, 48, 48, 48, 48, 10] := by rw [← hP]; exact plain_text
  have hcap : P.cap = 4 := by rw [← hP]; rfl
  have htl : (ByteArray.mk (textN9 P).toArray).toList = [100, 117, 116, 121, 32, 50, 32, 51, 32, 52, 32, 52, 32, 56, 32, 51, 102, 101, 48, 48, 48, 48, 48, 48, 48, 48, 48, 48, 48, 48, 48, 32, 52, 48, 48, 48, 48, 48, 48, 48, 48, 48, 48, 48, 48, 48, 48, 48, 10] := by rw [Lib.toList_data, hpt]
  rw [hP] at hpl
  unfold sV at htx
  generalize (ByteArray.mk (textN9 P).toArray) = Z at *
  have HTB := Lib.hid hT
  have tz : (Z.toList == [100, 117, 116, 121, 32, 50, 32, 51, 32, 52, 32, 52, 32, 56, 32, 51, 102, 101, 48, 48, 48, 48, 48, 48, 48, 48, 48, 48, 48, 48, 48, 32, 52, 48, 48, 48, 48, 48, 48, 48, 48, 48, 48, 48, 48, 48, 48, 48, 10]) = true := by rw [htl]; decide
  have HC := Lib.hid hcap
  clear hP hok hc0 hpt htl hT hcap
  go_enter Tryz.func10, Tryz.ntmps10
  go_wp2_with (first
    | (go_at_call 30; (with_reducible refine (hpl _).mono ?_); clear hpl; rintro e w1 ⟨rfl, hb1⟩; have hk1 := Blk.new w1 27 (P.cells (.slice none 0 0) (.slice none 0 0)); have hb2 := below_pre hb1 (below_alloc1 w1 (.cells (P.cells (.slice none 0 0) (.slice none 0 0)) 27)); have q3 := (duty_at hk1).2.2.2.1; rw [HC.out] at q3)
    | (refine wpList_alloc_agg rfl 27 rfl (zeroY.cells (.slice none 0 0) (.slice none 0 0)) zeroYR ?_)
    | (refine wpList_store_row rfl 27 _ _ rfl w1.heap.size (P.cells (.slice none 0 0) (.slice none 0 0)) rfl rfl 27 _ (heap_alloc_new w1 _) (sizeY _ _ _) rfl (oneY _ _ _ _ _ _ _) ?_; rw [World.setRow_alloc_new])
    | (refine wpList_load_row_g rfl 27 _ rfl w1.heap.size rfl 27 _ (0, 0) _ hk1 Tryz.underlying27 rfl (sizeY _ _ _) ?_)
    | (refine wpList_load_row_g rfl 27 _ rfl w1.heap.size rfl 27 _ (0, 0) _ hk3 Tryz.underlying27 rfl (sizeY _ _ _) ?_)
    | (go_at_call 19; (with_reducible refine (hck _).mono ?_); clear hck; rintro e w3 ⟨rfl, hb3⟩; have hk3 := hk1.below hb3 hk1.lt; have hb4 := below_pre hb2 hb3)
    | (go_at_call 8; (with_reducible refine (htx _ (HTB.out.below hb4 (Nat.le_refl _))).mono ?_); clear htx; rintro e w5 ⟨rfl, hb5⟩))
  go_ret
  exact ⟨rfl, below_pre hb4 hb5⟩

/-! ### how much of a duty is looked at -/
theorem RP.take_le {w : World} {G : Nat → Prop} {p : Option Addr} {c n : Nat} {ps : List Deed} (h : RP w G (.slice p n c) ps) (k : Nat) (hk : k ≤ ps.length) : RP w G (.slice p k c) (ps.take k) := by
  obtain ⟨p', c', hv, _, _, hr⟩ := h.first k hk
  cases hv
  exact hr
theorem fewP_small {i : Nat} {p : List Deed} (h : p.length ≤ 40 ∨ (i ≤ 1 ∧ p.length ≤ 300)) : fewP i p = p := by
  unfold fewP
  split
  · rw [List.take_of_length_le (by omega)]
  · rw [List.take_of_length_le (by omega)]
theorem few_new {w : World} {G : Nat → Prop} {q : Option Addr} {cq i : Nat} {p : List Deed} (h : RP w G (.slice q p.length cq) p) (_hc : p.length ≤ cq) :
    ∃ m, RP w G (.slice q m cq) (fewP i p) ∧ ((40 < p.length ∧ 1 < i ∧ m = 40) ∨ (¬ (40 < p.length ∧ 1 < i) ∧ 300 < p.length ∧ m = 300) ∨ (¬ (40 < p.length ∧ 1 < i) ∧ ¬ 300 < p.length ∧ m = p.length)) := by
  by_cases h1 : 40 < p.length ∧ 1 < i
  · refine ⟨40, ?_, .inl ⟨h1.1, h1.2, rfl⟩⟩
    unfold fewP
    rw [if_pos h1.2]
    exact h.take_le 40 (by omega)
  · by_cases h3 : 300 < p.length
    · refine ⟨300, ?_, .inr (.inl ⟨h1, h3, rfl⟩)⟩
      unfold fewP
      rw [if_neg (by omega)]
      exact h.take_le 300 (by omega)
    · refine ⟨p.length, ?_, .inr (.inr ⟨h1, h3, rfl⟩)⟩
      rw [fewP_small (by omega)]
      exact h
/-- The outer row of the programs that are looked at. -/
def FewAt (w wr : World) (G : Nat → Prop) (v : Value) (i : Nat) (L : List (List Deed)) : Prop := ∃ us : List Value, us.length = i ∧ wr.ownsRow (w.heap.size + 2) 45 1 v i us ∧ ∀ (k : Nat) (u : Value) (ps : List Deed), us[k]? = some u → L[k]? = some ps → RP wr G u ps
theorem FewAt.push {w wr w2 : World} {G : Nat → Prop} {i : Nat} {L : List (List Deed)} {us : List Value} {v' u : Value} {p : List Deed} (hu : us.length = i) (ho : w2.ownsRow (w.heap.size + 2) 45 1 v' (i + 1) (us ++ [u]))
    (he : ∀ (k : Nat) (u : Value) (ps : List Deed), us[k]? = some u → L[k]? = some ps → RP wr G u ps) (hp : L[i]? = some p) (hn : RP wr G u p) (hb : Below (w.heap.size + 2) wr w2) (hG : ∀ k, G k → k < w.heap.size) : FewAt w w2 G v' (i + 1) L := by
  have later : ∀ {u : Value} {ps : List Deed}, RP wr G u ps → RP w2 G u ps := fun h => RV.below h hb (fun k _ hk => by have := hG k hk; omega)
  refine ⟨us ++ [u], by simp [hu], ho, fun k x ps hx hl => ?_⟩
  by_cases hk : k < us.length
  · rw [List.getElem?_append_left hk] at hx
    exact later (he k x ps hx hl)
  · rw [List.getElem?_append_right (by omega)] at hx
    have h0 : k - us.length = 0 := by
      have := (List.getElem?_eq_some_iff.1 hx).1
      simp at this
      omega
    rw [h0] at hx
    simp at hx
    subst hx
    rw [show k = i by omega, hp] at hl
    cases hl
    exact later hn
theorem foot_cell9 (w : World) (b i : Nat) (u : Value) : Foot (fun k => k = b) w (w.setCell ⟨b, i, none⟩ u) := Foot.setCell (S := fun k => k = b) (Foot.refl _ w) (p := ⟨b, i, none⟩) (.inl rfl) u
theorem foot_ge {w w' : World} {B : Nat} (h : Below B w w') : Foot (fun k => B ≤ k) w w' := ⟨h.os, h.tape, h.output, h.size, fun k _ hn => h.block k (by omega)⟩
set_option maxRecDepth 100000 in
set_option maxHeartbeats 8000000 in
theorem FewY_any (d : Dut) (vp vs : Value) (G : Nat → Prop) (w : World) (hG : ∀ k, G k → k < w.heap.size) (h : DV w G vp vs d) :
    Calls Tryz.prog 7 #[.agg (d.cells vp vs)] w fun e w' => (∃ vp' vs', e = .returned (.agg ((fewY d).cells vp' vs')) ∧ DV w' (fun k => G k ∨ w.heap.size + 2 ≤ k) vp' vs' (fewY d)) ∧ Below w.heap.size w w' := by
  obtain ⟨i0, hi, hz0, hz1, hz2⟩ := info_parts (show (Tryz.prog.info? 45).map (fun i => (i.zero, i.size, i.bytes)) = some (some (.slice none 0 0), 1, 24) by kernel_rfl)
  obtain ⟨pp, cp, rfl, hcp, hcpm⟩ := h.progs.shape
  obtain ⟨ps, cs, rfl, hcs, hcsm⟩ := h.starts.shape
  obtain ⟨L, hL⟩ : ∃ L, L = fewL d.progs := ⟨_, rfl⟩
  have hLl : L.length = min 66 d.progs.length := by rw [hL]; unfold fewL; rw [fewG_len, List.length_take]
  have hLg : Hid (∀ k p, k < 66 → d.progs[k]? = some p → L[k]? = some (fewP k p)) := Lib.hid fun k p hk hp => by
    have := fewG_get (d.progs.take 66) 0 k p (by rw [List.getElem?_take_of_lt hk]; exact hp)
    rw [Nat.zero_add] at this
    rw [hL]
    exact this
  have HGG := Lib.hid hG
  have hb0 := below_alloc2 w (.cells (d.cells (.slice pp d.progs.length cp) (.slice ps d.starts.length cs)) 27) (.cells (zeroY.cells (.slice none 0 0) (.slice none 0 0)) 27)
  have HK0 := Lib.hid ((Blk.new w 27 (d.cells (.slice pp d.progs.length cp) (.slice ps d.starts.length cs))).alloc (.cells (zeroY.cells (.slice none 0 0) (.slice none 0 0)) 27))
  have HZ0 := Lib.hid (two_new w (.cells (d.cells (.slice pp d.progs.length cp) (.slice ps d.starts.length cs)) 27) 27 (zeroY.cells (.slice none 0 0) (.slice none 0 0)))
  have HD0 := Lib.hid (h.later hb0)
  have HF0 : Hid (FewAt w ((w.alloc (.cells (d.cells (.slice pp d.progs.length cp) (.slice ps d.starts.length cs)) 27)).alloc (.cells (zeroY.cells (.slice none 0 0) (.slice none 0 0)) 27)) G (.slice none 0 0) 0 L) := Lib.hid ⟨[], rfl, World.ownsRow_nil _ _ _ _, fun k u ps h _ => by simp at h⟩
  have HL := Lib.hid hL
  clear h hG hL
  go_enter Tryz.func7, Tryz.ntmps7
  go_wp2_with (first
    | (refine wpList_box_agg rfl 27 _ rfl (d.cells (.slice pp d.progs.length cp) (.slice ps d.starts.length cs)) rfl ?_)
    | (refine wpList_alloc_agg rfl 27 rfl (zeroY.cells (.slice none 0 0) (.slice none 0 0)) zeroYR ?_))
  try simp only [World.size_alloc]
  clear hb0
  have hb1 := below_alloc2 w (.cells (d.cells (.slice pp d.progs.length cp) (.slice ps d.starts.length cs)) 27) (.cells (zeroY.cells (.slice none 0 0) (.slice none 0 0)) 27)
  go_loopw [3, 4] (fun v t wr => ∃ i : Nat, i ≤ 66 ∧ i ≤ d.progs.length ∧ t = .int .i64 i ∧ Hid (FewAt w wr G v i L) ∧ Hid (DV wr G (.slice pp d.progs.length cp) (.slice ps d.starts.length cs) d) ∧ Hid (Blk wr w.heap.size 27 (d.cells (.slice pp d.progs.length cp) (.slice ps d.starts.length cs))) ∧ Hid (Blk wr (w.heap.size + 1) 27 (zeroY.cells (.slice none 0 0) (.slice none 0 0))) ∧ Below (w.heap.size + 2) ((w.alloc (.cells (d.cells (.slice pp d.progs.length cp) (.slice ps d.starts.length cs)) 27)).alloc (.cells (zeroY.cells (.slice none 0 0) (.slice none 0 0)) 27)) wr) (fun _ t _ => 66 - (intOf t).toNat)
  case atStart => exact ⟨0, by omega, by omega, rfl, HF0, HD0, HK0, HZ0, Below.refl _ _⟩
  case round =>
    clear HF0 HD0 HK0 HZ0
    obtain ⟨i, hi6, hil, rfl, hF, hD, hK, hZ, hb⟩ := hrel
    obtain ⟨_, _, _, _, _, _, _, q7, q8⟩ := duty_at hK.out
    by_cases hlt : i < d.progs.length ∧ i < 66
    · obtain ⟨hlt1, hlt2⟩ := hlt
      have t66 : (i : Int) < 66 := by omega
      obtain ⟨p, hp⟩ : ∃ p, d.progs[i]? = some p := ⟨_, List.getElem?_eq_getElem hlt1⟩
      have hLp := Lib.hid (hLg.out i p hlt2 hp)
      obtain ⟨b, off, q, cq, rfl, _, _, hcell, hrp⟩ := hD.out.progs.at hp
      obtain ⟨_, _, hqv, hpc, hcm⟩ := hrp.shape
      cases hqv
      obtain ⟨m, hnew, hcase⟩ := few_new (i := i) hrp hpc
      have HN := Lib.hid hnew
      obtain ⟨us, hul, huo, hue⟩ := hF.out
      have HUE := Lib.hid hue
      have hbz := hb.size
      simp only [World.size_alloc] at hbz
      clear hp hnew hrp hF hue
      rcases hcase with ⟨h40, hi1, rfl⟩ | ⟨hno, h300, rfl⟩ | ⟨hno, h300, rfl⟩
      · have a1 : decide ((p.length : Int) > 40) = true := by simp; omega
        have a2 : decide ((i : Int) > 1) = true := by simp; omega
        have a3 : (40 : Int) ≤ (cq : Int) := by omega
        clear h40 hi1
        go_wp2_with (at_builtin; refine wpList_append_lits rfl _ _ 24 rfl (w.heap.size + 2) 45 i0 (.slice none 0 0) 24 Tryz.underlying24 hi hz0 hz1 hz2 rfl (by decide) huo rfl _ rfl rfl rfl (by omega) (by omega) ?_; intro v' w2 ho5 hb5 _ _)
        have hkk := hK.out.below hb5 (by omega)
        have hzz := hZ.out.below hb5 (by omega)
        go_roundw
        case rel => exact ⟨i + 1, by omega, by omega, by go_num, Lib.hid (FewAt.push hul ho5 HUE.out hLp.out HN.out hb5 HGG.out), Lib.hid (DV.foot hD.out (foot_ge hb5) (fun k hk e => by have := HGG.out k hk; omega)), Lib.hid hkk, Lib.hid hzz, hb.trans hb5⟩
        case measure => simp [intOf]; omega
      · by_cases h40 : 40 < p.length
        · have hi1 : ¬ 1 < i := fun e => hno ⟨h40, e⟩
          have a1 : decide ((p.length : Int) > 40) = true := by simp; omega
          have a2 : decide ((i : Int) > 1) = false := by simp; omega
          have a4 : decide ((p.length : Int) > 300) = true := by simp; omega
          have a3 : (300 : Int) ≤ (cq : Int) := by omega
          clear h40 hi1 hno h300
          go_wp2_with (at_builtin; refine wpList_append_lits rfl _ _ 24 rfl (w.heap.size + 2) 45 i0 (.slice none 0 0) 24 Tryz.underlying24 hi hz0 hz1 hz2 rfl (by decide) huo rfl _ rfl rfl rfl (by omega) (by omega) ?_; intro v' w2 ho5 hb5 _ _)
          have hkk := hK.out.below hb5 (by omega)
          have hzz := hZ.out.below hb5 (by omega)
          go_roundw
          case rel => exact ⟨i + 1, by omega, by omega, by go_num, Lib.hid (FewAt.push hul ho5 HUE.out hLp.out HN.out hb5 HGG.out), Lib.hid (DV.foot hD.out (foot_ge hb5) (fun k hk e => by have := HGG.out k hk; omega)), Lib.hid hkk, Lib.hid hzz, hb.trans hb5⟩
          case measure => simp [intOf]; omega
        · omega
      · by_cases h40 : 40 < p.length
        · have hi1 : ¬ 1 < i := fun e => hno ⟨h40, e⟩
          have a1 : decide ((p.length : Int) > 40) = true := by simp; omega
          have a2 : decide ((i : Int) > 1) = false := by simp; omega
          have a4 : decide ((p.length : Int) > 300) = false := by simp; omega
          clear h40 hi1 hno h300
          go_wp2_with (at_builtin; refine wpList_append_lits rfl _ _ 24 rfl (w.heap.size + 2) 45 i0 (.slice none 0 0) 24 Tryz.underlying24 hi hz0 hz1 hz2 rfl (by decide) huo rfl _ rfl rfl rfl (by omega) (by omega) ?_; intro v' w2 ho5 hb5 _ _)
          have hkk := hK.out.below hb5 (by omega)
          have hzz := hZ.out.below hb5 (by omega)
          go_roundw
          case rel => exact ⟨i + 1, by omega, by omega, by go_num, Lib.hid (FewAt.push hul ho5 HUE.out hLp.out HN.out hb5 HGG.out), Lib.hid (DV.foot hD.out (foot_ge hb5) (fun k hk e => by have := HGG.out k hk; omega)), Lib.hid hkk, Lib.hid hzz, hb.trans hb5⟩
          case measure => simp [intOf]; omega
        · have a1 : decide ((p.length : Int) > 40) = false := by simp; omega
          have a4 : decide ((p.length : Int) > 300) = false := by simp; omega
          clear h40 hno h300
          go_wp2_with (at_builtin; refine wpList_append_lits rfl _ _ 24 rfl (w.heap.size + 2) 45 i0 (.slice none 0 0) 24 Tryz.underlying24 hi hz0 hz1 hz2 rfl (by decide) huo rfl _ rfl rfl rfl (by omega) (by omega) ?_; intro v' w2 ho5 hb5 _ _)
          have hkk := hK.out.below hb5 (by omega)
          have hzz := hZ.out.below hb5 (by omega)
          go_roundw
          case rel => exact ⟨i + 1, by omega, by omega, by go_num, Lib.hid (FewAt.push hul ho5 HUE.out hLp.out HN.out hb5 HGG.out), Lib.hid (DV.foot hD.out (foot_ge hb5) (fun k hk e => by have := HGG.out k hk; omega)), Lib.hid hkk, Lib.hid hzz, hb.trans hb5⟩
          case measure => simp [intOf]; omega
    · have hstop : i = L.length := by rw [hLl]; omega
      have hend : (i = d.progs.length) ∨ (i < d.progs.length ∧ i = 66) := by omega
      have hfw := hF.out
      obtain ⟨us, hul, huo, hue⟩ := hfw
      obtain ⟨op, oc, rfl, -⟩ := id (RV.of_own huo)
      have HUE := Lib.hid hue
      have HST := Lib.hid hstop
      have HNL := Lib.hid hlt
      have hKK := hK.out
      have hZZ := hZ.out
      have hDD := hD.out
      have f7 := hKK.frozen 7
      have hk1 := hKK.set 7 (.slice op i oc)
      have hk1' : Blk (wr.setCell ⟨w.heap.size, 7, none⟩ (.slice op i oc)) w.heap.size 27 (d.cells (.slice op i oc) (.slice ps d.starts.length cs)) := hk1
      have hz1' : Blk (wr.setCell ⟨w.heap.size, 7, none⟩ (.slice op i oc)) (w.heap.size + 1) 27 (zeroY.cells (.slice none 0 0) (.slice none 0 0)) := hZZ.far (by simp) _
      obtain ⟨_, _, _, _, _, _, _, r7, r8⟩ := duty_at hk1'
      have g8 := hk1'.frozen 8
      have hf1 : Foot (fun k => k = w.heap.size) wr (wr.setCell ⟨w.heap.size, 7, none⟩ (.slice op i oc)) := foot_cell9 _ _ _ _
      have hprogs : (fewY d).progs = L := by rw [HL.out]; rfl
      have hcells : ∀ a b, (fewY d).cells a b = d.cells a b := fun _ _ => rfl
      have HPR := Lib.hid hprogs
      have HCL := Lib.hid hcells
      have hbb1 : Below w.heap.size w wr := hb1.trans (hb.mono (by omega))
      have t1 : ((i : Int) < (d.progs.length : Int) ∧ ¬ (i : Int) < 66) ∨ ¬ (i : Int) < (d.progs.length : Int) := by omega
      clear hlt hF hk1 hstop hprogs hcells hue hK hZ hD hend
      have fin : ∀ (wf : World) (sp : Option Addr) (m c : Nat), Foot (fun k => k = w.heap.size ∨ k = w.heap.size + 1) wr wf → RSs wr G (.slice sp m c) (d.starts.take 70) → DV wf (fun k => G k ∨ w.heap.size + 2 ≤ k) (.slice op i oc) (.slice sp m c) (fewY d) := fun wf sp m c hf hs => by
        refine ⟨?_, ?_⟩
        · rw [HPR.out]
          refine ⟨us, by rw [hul, HST.out], ?_, fun k u ps hu hl => ?_⟩
          · rw [← HST.out]
            have hq := hf.own huo (fun k hk e => by have := (huo.lt k hk).1; omega)
            exact RV.mono (RV.of_own hq) (fun k _ hk => .inr (hq.lt k hk).1)
          · exact (RV.foot (HUE.out k u ps hu hl) hf (fun j hj e => by have := HGG.out j hj; omega)).mono (fun j _ hj => .inl hj)
        · exact (RV.foot hs hf (fun j hj e => by have := HGG.out j hj; omega)).mono (fun j _ hj => .inl hj)
      have hs0 : RSs wr G (.slice ps d.starts.length cs) d.starts := hDD.starts
      rcases t1 with ⟨u1, u2⟩ | u1
      all_goals
        by_cases h70 : 70 < d.starts.length
        · have c70 : decide ((d.starts.length : Int) > 70) = true := by simp; omega
          have c71 : (70 : Int) ≤ (cs : Int) := by omega
          obtain ⟨_, _, hv7, _, _, hs7⟩ := RSs.first hs0 70 (by omega)
          cases hv7
          have hk2 : Blk ((wr.setCell ⟨w.heap.size, 7, none⟩ (.slice op i oc)).setCell ⟨w.heap.size, 8, none⟩ (.slice ps 70 cs)) w.heap.size 27 (d.cells (.slice op i oc) (.slice ps 70 cs)) := hk1'.set 8 (.slice ps 70 cs)
          have hz2 : Blk ((wr.setCell ⟨w.heap.size, 7, none⟩ (.slice op i oc)).setCell ⟨w.heap.size, 8, none⟩ (.slice ps 70 cs)) (w.heap.size + 1) 27 (zeroY.cells (.slice none 0 0) (.slice none 0 0)) := hz1'.far (by simp) _
          have hf2 : Foot (fun k => k = w.heap.size) wr ((wr.setCell ⟨w.heap.size, 7, none⟩ (.slice op i oc)).setCell ⟨w.heap.size, 8, none⟩ (.slice ps 70 cs)) := hf1.trans (foot_cell9 _ _ _ _)
          have hf3 : Foot (fun k => k = w.heap.size ∨ k = w.heap.size + 1) wr (((wr.setCell ⟨w.heap.size, 7, none⟩ (.slice op i oc)).setCell ⟨w.heap.size, 8, none⟩ (.slice ps 70 cs)).setRow (w.heap.size + 1) (d.cells (.slice op i oc) (.slice ps 70 cs))) := (hf2.mono (fun k _ hk => .inl hk)).then_ (foot_setRow _ _ _) (fun k hk => .inl (.inr hk))
          have hfin := fin _ ps 70 cs hf3 hs7
          have hbf := hbb1.trans (hf3.below (B := w.heap.size) hbb1.size (fun k hk => by omega))
          clear h70 hs7 hf1 hf2 hf3 fin hs0 hDD
          have HF := Lib.hid hfin
          have HB := Lib.hid hbf
          clear hfin hbf
          go_wp2_with (first
            | (refine wpList_load_row rfl 27 _ rfl w.heap.size rfl 27 _ (0, 0) _ hk2 Tryz.underlying27 rfl (sizeY _ _ _) ?_)
            | (refine wpList_store_row rfl 27 _ _ rfl (w.heap.size + 1) (d.cells (.slice op i oc) (.slice ps 70 cs)) rfl rfl 27 _ hz2 (sizeY _ _ _) rfl (oneY _ _ _ _ _ _ _) ?_))
          refine bodyPost_ret (results_row1 rfl _ _ (w.heap.size + 1) 27 (d.cells (.slice op i oc) (.slice ps 70 cs)) (0, 0) _ rfl (hz2.row _) Tryz.underlying27 rfl (sizeY _ _ _)) rfl ?_
          exact ⟨⟨_, _, by rw [HCL.out], HF.out⟩, HB.out⟩
        · have c70 : decide ((d.starts.length : Int) > 70) = false := by simp; omega
          have hs7 : RSs wr G (.slice ps d.starts.length cs) (d.starts.take 70) := by rw [List.take_of_length_le (by omega)]; exact hs0
          have hf3 : Foot (fun k => k = w.heap.size ∨ k = w.heap.size + 1) wr ((wr.setCell ⟨w.heap.size, 7, none⟩ (.slice op i oc)).setRow (w.heap.size + 1) (d.cells (.slice op i oc) (.slice ps d.starts.length cs))) := (hf1.mono (fun k _ hk => .inl hk)).then_ (foot_setRow _ _ _) (fun k hk => .inl (.inr hk))
          have hfin := fin _ ps d.starts.length cs hf3 hs7
          have hbf := hbb1.trans (hf3.below (B := w.heap.size) hbb1.size (fun k hk => by omega))
          clear h70 hs7 hf1 hf3 fin hs0 hDD
          have HF := Lib.hid hfin
          have HB := Lib.hid hbf
          clear hfin hbf
          go_wp2_with (first
            | (refine wpList_load_row rfl 27 _ rfl w.heap.size rfl 27 _ (0, 0) _ hk1' Tryz.underlying27 rfl (sizeY _ _ _) ?_)
            | (refine wpList_store_row rfl 27 _ _ rfl (w.heap.size + 1) (d.cells (.slice op i oc) (.slice ps d.starts.length cs)) rfl rfl 27 _ hz1' (sizeY _ _ _) rfl (oneY _ _ _ _ _ _ _) ?_))
          refine bodyPost_ret (results_row1 rfl _ _ (w.heap.size + 1) 27 (d.cells (.slice op i oc) (.slice ps d.starts.length cs)) (0, 0) _ rfl (hz1'.row _) Tryz.underlying27 rfl (sizeY _ _ _)) rfl ?_
          exact ⟨⟨_, _, by rw [HCL.out], HF.out⟩, HB.out⟩
end Go.Proofs.YtbdimfcdpkldpaaGreatDoor
