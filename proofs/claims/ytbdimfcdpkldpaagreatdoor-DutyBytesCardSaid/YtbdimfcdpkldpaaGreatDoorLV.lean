/- The contract of prog's Put. The contract of the reference's Bytes of programs. The contract of prog's Get. The contract of the reference's Done. The contract of the reference's Get of programs. -/
import Derived.Test.YtbdimfcdpkldpaaGreatDoorQ1
import Derived.Test.YtbdimfcdpkldpaaGreatDoorLT1
import Derived.Test.YtbdimfcdpkldpaaGreatDoorD24
import Derived.Test.YtbdimfcdpkldpaaGreatDoorLM1
import Derived.Test.YtbdimfcdpkldpaaGreatDoorLD9
import Derived.Test.YtbdimfcdpkldpaaGreatDoorLWR
namespace Go.Proofs.YtbdimfcdpkldpaaGreatDoor
open Go.RowKit
open Wire (WrAt WrStep wAdd bV)

theorem dropd {ps : List Deed} {k : Nat} {d : Deed} (hd : ps[k]? = some d) : ps.drop k = d :: ps.drop (k + 1) := by
  obtain ⟨h, rfl⟩ := List.getElem?_eq_some_iff.1 hd
  exact List.drop_eq_getElem_cons h
theorem wrap_len (n : Nat) (h : n ≤ 100000) : IntKind.u64.wrap (n : Int) = (n : Int) := by rw [IntKind.wrap_u64]; omega

set_option maxHeartbeats 400000 in
theorem PPut_bad (p : Option Addr) (c : Nat) (ps : List Deed) (hok : ∀ d ∈ ps, d.ok) (G : Nat → Prop) {B b most : Nat} {v : Value} {l : List UInt8} (w : World) (h : RP w G (.slice p ps.length c) ps) (hW : WrAt w B b most v (some l)) (h0 : ¬ checkN ps = 0) :
    Calls Tryz.prog 44 #[.pointer (some ⟨b, 0, none⟩), .slice p ps.length c] w fun e w' => e = .returned (.tuple #[]) ∧ WrK w w' B b most l := by
  have hck := Check_any p c ps hok G w h
  have ht : ((checkN ps : Int) != 0) = true := by simp; omega
  have HW := Lib.hid hW
  clear hok h h0 hW
  go_enter Tryz.func44, Tryz.ntmps44
  go_wp2_with (go_at_call 85; (with_reducible refine hck.mono ?_); clear hck; rintro e w1 ⟨rfl, hb1⟩)
  refine bodyPost_ret (results_none rfl _ _ _) rfl ?_
  exact ⟨rfl, v, HW.out.below hb1 (Nat.le_refl _), SbF.of_below hb1⟩

set_option maxRecDepth 100000 in
set_option maxHeartbeats 2000000 in
theorem PPut_good (p : Option Addr) (c n : Nat) (ps : List Deed) (hn : ps.length = n) (hok : ∀ d ∈ ps, d.ok) (G : Nat → Prop) {B b most : Nat} {v : Value} {l : List UInt8} (hG : ∀ k, G k → k < B) (hl : l.length ≤ 230000) (hlm : l.length + 3593 ≤ most) (hm : most ≤ maxLen)
    (w : World) (h : RP w G (.slice p n c) ps) (hW : WrAt w B b most v (some l)) (h0 : checkN ps = 0) :
    Calls Tryz.prog 44 #[.pointer (some ⟨b, 0, none⟩), .slice p n c] w fun e w' => e = .returned (.tuple #[]) ∧ WrK w w' B b most (l ++ bytesP ps) := by
  have hck := Check_any p c ps hok G w (by rw [hn]; exact h)
  rw [hn, h0] at hck
  obtain ⟨hl6, hgp⟩ := checkN_zero.1 h0
  rw [hn] at hl6
  obtain ⟨T, hT⟩ : ∃ T, bytesP ps = T := ⟨_, rfl⟩
  rw [hT]
  have HT : Hid (Wire.numB n ++ (ps.drop 0).flatMap bytesD = T) := Lib.hid (by rw [← hT, ← hn]; rfl)
  have h9 := Wire.numB_len n (by omega)
  have hw := wrap_len n (by omega)
  have hnum := fun (W : World) (v : Value) (hW : WrAt W B b most v (some l)) => Wire.WNum_any W n (by omega) (fun l' e => by cases e; omega) hm hW
  have hBb : B ≤ b := hW.1
  have HLM := Lib.hid hlm
  have HM := Lib.hid hm
  have H := Lib.hid h
  have HW := Lib.hid hW
  have HN := Lib.hid hn
  have HGP := Lib.hid hgp
  have HOK := Lib.hid hok
  clear h0 h hgp hn hW hok hT hlm hm
  go_enter Tryz.func44, Tryz.ntmps44
  go_wp2_with (first
    | (go_at_call 85; (with_reducible refine hck.mono ?_); clear hck; rintro e w1 ⟨rfl, hb1⟩; have H1 := Lib.hid (H.out.later hb1); have HW1 := HW.out.below hb1 (Nat.le_refl _))
    | (go_at_call 43; (with_reducible refine (hnum _ _ HW1).mono ?_); clear hnum; rintro e w2 ⟨rfl, hs⟩; obtain ⟨v2, hW2, hf2⟩ := wr_keep HW1 hs (by have := HLM.out; omega); have hF2 := (SbF.of_below hb1).trans hf2; have H2 := Lib.hid (H1.out.sb hf2 hBb hG)))
  have HW2 := Lib.hid hW2
  clear H H1 HW1 hf2 hs hb1 hW2 HW hw
  go_loopw [16] (fun t wr => ∃ (k : Nat) (pre : List UInt8) (vr : Value), k ≤ n ∧ t = .int .i64 k ∧ Hid (pre ++ (ps.drop k).flatMap bytesD = T) ∧ pre.length ≤ 9 + 14 * k ∧ Hid (WrAt wr B b most vr (some (l ++ pre))) ∧ Hid (RP wr G (.slice p n c) ps) ∧ SbF B b w wr) (fun t _ => n - (intOf t).toNat)
  case atStart => exact ⟨0, Wire.numB n, v2, by omega, rfl, HT, by omega, HW2, H2, hF2⟩
  case round =>
    obtain ⟨k, pre, vr, hk, rfl, hp, hpl, hWr, hR, hF⟩ := hrel
    clear HT HW2 H2 hF2
    by_cases hlt : k < n
    · obtain ⟨d, hd⟩ : ∃ d, ps[k]? = some d := ⟨_, List.getElem?_eq_getElem (by rw [HN.out]; exact hlt)⟩
      obtain ⟨b0, off, rfl, _, _, hra, _⟩ := hR.out.at hd
      have hdk := HOK.out d (List.mem_of_getElem? hd)
      have hgd := goodP_mem HGP.out (List.mem_of_getElem? hd)
      have h14 := bytesD_40 d hdk (good_op hgd)
      have hp2 := hp.out
      rw [dropd hd, List.flatMap_cons, ← List.append_assoc] at hp2
      have HP2 := Lib.hid hp2
      have hput := fun (W : World) (v : Value) (hW : WrAt W B b most v (some (l ++ pre))) => Put_good d hdk hgd (by rw [List.length_append]; have := HLM.out; omega) HM.out (by rw [List.length_append]; omega) W hW
      simp only [Deed.val] at hput
      have hb1 := below_alloc1 wr (.cells d.cells 109)
      have hW1 := hWr.out.below hb1 (Nat.le_refl _)
      have hR1 := Lib.hid (hR.out.later hb1)
      have hF1 := hF.trans (SbF.of_below hb1)
      have HPUT := Lib.hid hput
      have h14b : (pre ++ bytesD d).length ≤ 9 + 14 * (k + 1) := by rw [List.length_append]; omega
      have H14 := Lib.hid h14b
      clear hd hp2 hp hdk hgd h14 hput h14b
      go_wp2_with (first
        | (refine wpList_load_deed rfl _ rfl b0 (off + k * 7) rfl d hra ?_)
        | (refine wpList_alloc_agg rfl 109 rfl zeroD.cells zeroR ?_)
        | (refine wpList_store_row rfl 109 _ _ rfl wr.heap.size d.cells rfl rfl 109 _ (heap_alloc_new wr _) (sizeD _) rfl (oneD _) ?_; rw [World.setRow_alloc_new])
        | (refine wpList_load_row rfl 109 _ rfl wr.heap.size rfl 109 _ (0, 0) _ (heap_alloc_new wr _) Tryz.underlying109 rfl (sizeD _) ?_)
        | (go_at_call 86; (with_reducible refine (HPUT.out _ _ hW1).mono ?_); rintro e w3 ⟨rfl, v3, hW3, hF3⟩))
      go_roundw
      case rel => exact ⟨k + 1, pre ++ bytesD d, v3, by omega, by go_num, HP2, H14.out, Lib.hid (by rw [← List.append_assoc]; exact hW3), Lib.hid (hR1.out.sb hF3 hBb hG), hF1.trans hF3⟩
      case measure => simp [intOf]; omega
    · obtain rfl : k = n := by omega
      have hp2 := hp.out
      rw [List.drop_of_length_le (by rw [HN.out]; exact Nat.le_refl _), List.flatMap_nil, List.append_nil] at hp2
      subst hp2
      clear hp
      go_wp2
      first | go_end0 | refine bodyPost_ret (results_none rfl _ _ _) rfl ?_
      exact ⟨rfl, vr, hWr.out, hF⟩
end Go.Proofs.YtbdimfcdpkldpaaGreatDoor

namespace Go.Proofs.YtbdimfcdpkldpaaGreatDoor
open Go.RowKit
open Wire (WrAt WrStep wAdd bV)

set_option maxRecDepth 100000 in
set_option maxHeartbeats 2000000 in
theorem RBytes8_any (p : Option Addr) (c n : Nat) (ps : List Deed) (hn : ps.length = n) (hok : ∀ d ∈ ps, d.ok) (G : Nat → Prop) (w : World) (hG : ∀ k, G k → k < w.heap.size) (h : RP w G (.slice p n c) ps) (h0 : checkN ps = 0) :
    Calls Tryz.prog 51 #[.slice p n c] w fun e w' => ∃ x, e = .returned x ∧ w'.ownsRow w.heap.size 5 1 x (bytesP ps).length ((bytesP ps).map bV) ∧ Below w.heap.size w w' := by
  obtain ⟨i0, hi, hz0, hz1, hz2⟩ := info_parts Wire.infoB
  obtain ⟨hl6, hgp⟩ := checkN_zero.1 h0
  rw [hn] at hl6
  obtain ⟨T, hT⟩ : ∃ T, bytesP ps = T := ⟨_, rfl⟩
  rw [hT]
  have HT : Hid (Wire.numB n ++ (ps.drop 0).flatMap bytesD = T) := Lib.hid (by rw [← hT, ← hn]; rfl)
  have h9 := Wire.numB_len n (by omega)
  have hw := wrap_len n (by omega)
  have hnum := Wire.RNum_any n (by omega) w
  have H := Lib.hid h
  have HN := Lib.hid hn
  have HGP := Lib.hid hgp
  have HOK := Lib.hid hok
  clear h0 h hgp hn hok hT
  go_enter Tryz.func51, Tryz.ntmps51
  go_wp2_with (go_at_call 50; (with_reducible refine hnum.mono ?_); clear hnum; rintro e w1 ⟨v1, rfl, hown1, hb1⟩; have H1 := Lib.hid (H.out.later hb1))
  clear H hw
  go_loopw [3, 4] (fun x t wr => ∃ (k : Nat) (pre : List UInt8), k ≤ n ∧ t = .int .i64 k ∧ Hid (pre ++ (ps.drop k).flatMap bytesD = T) ∧ pre.length ≤ 9 + 14 * k ∧ wr.ownsRow w.heap.size 5 1 x pre.length (pre.map bV) ∧ Hid (RP wr G (.slice p n c) ps) ∧ Below w.heap.size w wr) (fun _ t _ => n - (intOf t).toNat)
  case atStart => exact ⟨0, Wire.numB n, by omega, rfl, HT, by omega, hown1, H1, hb1⟩
  case round =>
    obtain ⟨k, pre, hk, rfl, hp, hpl, hown, hR, hb⟩ := hrel
    clear HT hown1 H1 hb1
    by_cases hlt : k < n
    · obtain ⟨d, hd⟩ : ∃ d, ps[k]? = some d := ⟨_, List.getElem?_eq_getElem (by rw [HN.out]; exact hlt)⟩
      obtain ⟨b0, off, rfl, _, _, hra, _⟩ := hR.out.at hd
      have hdk := HOK.out d (List.mem_of_getElem? hd)
      have hgd := goodP_mem HGP.out (List.mem_of_getElem? hd)
      have h14 := bytesD_40 d hdk (good_op hgd)
      have hp2 := hp.out
      rw [dropd hd, List.flatMap_cons, ← List.append_assoc] at hp2
      have HP2 := Lib.hid hp2
      have hby := RBytes_any d hdk hgd wr
      simp only [Deed.val] at hby
      generalize bytesD d = L at *
      clear hd hp2 hp hdk hgd
      go_wp2_with (first
        | (refine wpList_load_deed rfl _ rfl b0 (off + k * 7) rfl d hra ?_)
        | (go_at_call 96; (with_reducible refine hby.mono ?_); clear hby; rintro e w3 ⟨x3, rfl, hown3, hb3⟩; have hownp := ownsRow_below hown hb3 (Nat.le_refl _); have hbw3 := below_pre hb hb3; have hR3 := Lib.hid (hR.out.later hb3))
        | (at_builtin; refine wpList_append_rv _ rfl _ _ 38 rfl w.heap.size 5 i0 (.int .u8 0) 1 1 Tryz.underlying38 hi hz0 hz1 hz2 rfl (by decide) _ _ _ rfl hownp _ _ _ _ rfl (RV.of_own hown3) (all_one bV Wire.bV_one _) (by unfold maxLen; omega) (by omega) hbw3.size ?_; intro v' w4 hown4 hgrow _))
      have hb4 : Below w.heap.size w w4 := hbw3.grown hgrow hbw3.size (fun j hj => (hownp.lt j hj).1)
      have hR4 : Hid (RP w4 G (.slice (some ⟨b0, off, none⟩) n c) ps) := Lib.hid (RV.below (B := w.heap.size) hR3.out ((Below.refl w.heap.size w3).grown hgrow hbw3.size (fun j hj => (hownp.lt j hj).1)) (fun k _ hk => hG k hk))
      go_roundw
      case rel => exact ⟨k + 1, pre ++ L, by omega, by go_num, HP2, by rw [List.length_append]; omega, by rw [List.length_append, List.map_append]; exact hown4, hR4, hb4⟩
      case measure => simp [intOf]; omega
    · obtain rfl : k = n := by omega
      have hp2 := hp.out
      rw [List.drop_of_length_le (by rw [HN.out]; exact Nat.le_refl _), List.flatMap_nil, List.append_nil] at hp2
      subst hp2
      clear hp
      go_wp2
      go_ret
      exact ⟨_, rfl, hown, hb⟩
end Go.Proofs.YtbdimfcdpkldpaaGreatDoor

namespace Go.Proofs.YtbdimfcdpkldpaaGreatDoor
open Go.RowKit
open Wire (RS rdNum RdAt RdOut bV)

theorem getN_step {n : Nat} {acc : List Deed} {st : RS} {R : RS × List Deed × Nat} (h : getN (n + 1) acc st = R) (h0 : (getD st).2.2 = 0) : getN n (acc ++ [(getD st).2.1]) (getD st).1 = R := by
  rw [← h, getN, if_pos h0]
theorem getN_stop {n : Nat} {acc : List Deed} {st : RS} {R : RS × List Deed × Nat} (h : getN (n + 1) acc st = R) (h0 : ¬ (getD st).2.2 = 0) : R = ((getD st).1, [], (getD st).2.2) := by
  rw [← h, getN, if_neg h0]

/-- What a Get answers at a reader. -/
def GetAt (w w' : World) (r : Nat) (e : Ending) (R : RS × List Deed × Nat) : Prop :=
  (∃ v, e = .returned (.tuple #[v, .int .i64 (R.2.2 : Int)]) ∧ w'.ownsRow w.heap.size 109 7 v R.2.1.length (R.2.1.flatMap dCells)) ∧ RdOut w w' r R.1

set_option maxRecDepth 100000 in
set_option maxHeartbeats 4000000 in
theorem PGet_any (r : Nat) (st : RS) (w : World) (h : RdAt w r st) :
    Calls Tryz.prog 132 #[.pointer (some ⟨r, 0, none⟩)] w fun e w' => GetAt w w' r e (getP st) := by
  have hrl := h.lt
  have hnum := Wire.RdNum_any r st w h
  obtain ⟨R, hR⟩ : ∃ R, getP st = R := ⟨_, rfl⟩
  rw [hR]
  unfold getP at hR
  generalize rdNum st = q at hnum hR
  obtain ⟨S1, n⟩ := q
  simp only at hnum hR
  have HERR := Lib.hid (fun (W : World) (h : RdAt W r S1) => Wire.Err_any r S1 W h)
  clear h
  by_cases hc : S1.code = 0
  · rw [if_pos hc] at hR
    have tc : ((S1.code : Int) != 0) = false := by rw [hc]; rfl
    by_cases hn : 256 < n
    · rw [if_pos hn] at hR
      subst hR
      have tn : decide ((n : Int) > 256) = true := by simp; omega
      clear hn hc
      go_enter Tryz.func132, Tryz.ntmps132
      go_wp2_with (first
        | (go_at_call 130; (with_reducible refine hnum.mono ?_); clear hnum; rintro e w1 ⟨rfl, hrd1⟩; have hra1 := hrd1.1)
        | (go_at_call 92; (with_reducible refine (HERR.out _ hra1).mono ?_); rintro e w2 ⟨rfl, rfl⟩))
      go_ret2
      exact ⟨⟨_, rfl, World.ownsRow_nil _ _ _ _⟩, hrd1⟩
    · rw [if_neg hn] at hR
      have tn : decide ((n : Int) > 256) = false := by simp; omega
      have HR0 : Hid (getN (n - 0) [] S1 = R) := Lib.hid hR
      have hn6 : n ≤ 256 := by omega
      clear hn hc hR
      go_enter Tryz.func132, Tryz.ntmps132
      go_wp2_with (first
        | (go_at_call 130; (with_reducible refine hnum.mono ?_); clear hnum; rintro e w1 ⟨rfl, hrd1⟩; have hra1 := hrd1.1)
        | (go_at_call 92; (with_reducible refine (HERR.out _ hra1).mono ?_); rintro e w2 ⟨rfl, rfl⟩))
      have HRD1 := Lib.hid hrd1
      clear hrd1
      go_loopw [6, 19] (fun v t wr => ∃ (k : Nat) (acc : List Deed) (S : RS), k ≤ n ∧ t = .int .u64 (k : Int) ∧ acc.length = k ∧ Hid (getN (n - k) acc S = R) ∧ wr.ownsRow w.heap.size 109 7 v k (acc.flatMap dCells) ∧ Hid (RdOut w wr r S)) (fun _ t _ => n - (intOf t).toNat)
      case atStart => exact ⟨0, [], S1, by omega, rfl, rfl, HR0, World.ownsRow_nil _ _ _ _, HRD1⟩
      case round =>
        obtain ⟨k, acc, S, hk, rfl, hal, hX, hown, hrd⟩ := hrel
        clear HR0 HRD1
        by_cases hlt : k < n
        · have hg := Get_any r S wr hrd.out.1
          have hx := hX.out
          rw [show n - k = n - (k + 1) + 1 by omega] at hx
          have hst := getN_stop hx
          have hsp := getN_step hx
          generalize getD S = q at hg hst hsp
          obtain ⟨S2, d, y⟩ := q
          simp only [Deed.val] at hg hst hsp
          by_cases hy : y = 0
          · have HX := Lib.hid (hsp hy)
            subst hy
            clear hst hsp hx hX
            go_wp2_with (first
              | (go_at_call 158; (with_reducible refine hg.mono ?_); clear hg; rintro e w2 ⟨rfl, hrd2⟩; have hF2 := hrd.out.2.trans hrd2.2; have hown2 := (hrd2.2.own hown (fun j hj (e : j = r) => by have := (hown.lt j hj).1; omega)).alloc (.cells d.cells 109); have hrd3 := hrd2.1.below (below_alloc1 w2 (.cells d.cells 109)) (Nat.le_refl _); have hF3 := hF2.alloc (.cells d.cells 109))
              | (refine wpList_alloc_agg rfl 109 rfl zeroD.cells zeroR ?_)
              | (refine wpList_store_row rfl 109 _ _ rfl w2.heap.size d.cells rfl rfl 109 _ (heap_alloc_new w2 _) (sizeD _) rfl (oneD _) ?_; rw [World.setRow_alloc_new])
              | (refine wpList_load_row rfl 109 _ rfl w2.heap.size rfl 109 _ (0, 0) _ (heap_alloc_new w2 _) Tryz.underlying109 rfl (sizeD _) ?_)
              | (refine wpList_lit_deed rfl _ rfl d rfl ?_)
              | (at_builtin; refine wpList_append_deed rfl _ _ rfl w.heap.size hown2 rfl rfl d 109 (by omega) hF3.size ?_; intro v' w4 hown4 hb4 hf4))
            have hrd4 : RdOut w w4 r S2 := ⟨hrd3.under hb4 hrl, hF3.then_ hf4 (fun x hx => .inr (hown2.lt x hx).1)⟩
            go_roundw
            case rel => exact ⟨k + 1, acc ++ [d], S2, by omega, by go_num, by simp [hal], HX, hown4, Lib.hid hrd4⟩
            case measure => simp [intOf]; omega
          · have HX := Lib.hid (hst hy)
            have hyy : ((y : Int) != 0) = true := by simp; omega
            clear hst hsp hx hX hy
            go_wp2_with (first
              | (go_at_call 158; (with_reducible refine hg.mono ?_); clear hg; rintro e w2 ⟨rfl, hrd2⟩; have hF2 := hrd.out.2.trans hrd2.2; have hrd3 := hrd2.1.below (below_alloc1 w2 (.cells d.cells 109)) (Nat.le_refl _); have hF3 := hF2.alloc (.cells d.cells 109))
              | (refine wpList_alloc_agg rfl 109 rfl zeroD.cells zeroR ?_)
              | (refine wpList_store_row rfl 109 _ _ rfl w2.heap.size d.cells rfl rfl 109 _ (heap_alloc_new w2 _) (sizeD _) rfl (oneD _) ?_; rw [World.setRow_alloc_new]))
            go_ret2
            rw [HX.out]
            exact ⟨⟨_, rfl, World.ownsRow_nil _ _ _ _⟩, hrd3, hF3⟩
        · obtain rfl : k = n := by omega
          have hx := hX.out
          rw [Nat.sub_self, getN] at hx
          have HX : Hid (R = (S, acc, 0)) := Lib.hid hx.symm
          obtain ⟨pv, cv, rfl, _⟩ := id (RV.of_own hown)
          clear hX hx
          go_wp2
          go_ret2
          rw [HX.out]
          exact ⟨⟨_, rfl, by rw [hal]; exact hown⟩, hrd.out⟩
  · rw [if_neg hc] at hR
    subst hR
    have tc : ((S1.code : Int) != 0) = true := by simp; omega
    clear hc
    go_enter Tryz.func132, Tryz.ntmps132
    go_wp2_with (first
      | (go_at_call 130; (with_reducible refine hnum.mono ?_); clear hnum; rintro e w1 ⟨rfl, hrd1⟩; have hra1 := hrd1.1)
      | (go_at_call 92; (with_reducible refine (HERR.out _ hra1).mono ?_); rintro e w2 ⟨rfl, rfl⟩))
    go_ret2
    exact ⟨⟨_, rfl, World.ownsRow_nil _ _ _ _⟩, hrd1⟩
end Go.Proofs.YtbdimfcdpkldpaaGreatDoor

namespace Go.Proofs.YtbdimfcdpkldpaaGreatDoor.Wire
open Go.RowKit

set_option maxHeartbeats 400000 in
theorem RefDone_any (v : Value) (st : RS) (G : Nat → Prop) (w : World) (h : RsV w G v st) :
    Calls Tryz.prog 57 #[v] w fun e w' => e = .returned (.int .i64 (rdDone st : Int)) ∧ Below w.heap.size w w' := by
  have hb := Lib.hid (below_alloc w)
  match st with
  | .ok [] =>
    obtain ⟨⟨sl, rfl, hr⟩, _⟩ := h
    obtain ⟨p, c, rfl, _⟩ := hr
    simp only [rdDone]
    go_enter Tryz.func57, Tryz.ntmps57
    go_wp2
    go_ret
    exact ⟨rfl, hb.out _⟩
  | .ok (c :: l) =>
    obtain ⟨⟨sl, rfl, hr⟩, _⟩ := h
    obtain ⟨p, c, rfl, _⟩ := hr
    simp only [rdDone]
    go_enter Tryz.func57, Tryz.ntmps57
    go_wp2
    go_ret
    exact ⟨rfl, hb.out _⟩
  | .err e =>
    obtain ⟨rfl, he⟩ := h
    have ht : ((e : Int) == 0) = false := by rw [beq_eq_false_iff_ne]; omega
    simp only [rdDone]
    clear he
    go_enter Tryz.func57, Tryz.ntmps57
    go_wp2
    go_ret
    exact ⟨rfl, hb.out _⟩
end Go.Proofs.YtbdimfcdpkldpaaGreatDoor.Wire

namespace Go.Proofs.YtbdimfcdpkldpaaGreatDoor
open Go.RowKit
open Wire (RS rdNum RsV GetOut bV)

theorem rs_code {w : World} {G : Nat → Prop} {p : Option Addr} {n c : Nat} {y : Int} {st : RS} (h : RsV w G (.agg #[.slice p n c, .int .i64 y]) st) : y = (st.code : Int) := by
  cases st with
  | ok l =>
    obtain ⟨⟨sl, hv, _⟩, _⟩ := h
    simp at hv
    exact hv.2
  | err e =>
    have hv := h.1
    simp at hv
    exact hv.2
theorem bump {w w' : World} {g : Nat} {cs : Array Value} {t : TypeId} (h : Blk w g t cs) (hb : Below w.heap.size w w') : Blk w' g t cs := h.below hb h.lt

/-- What holds between the reference's state and what Get answers in the end. -/
def Mid (R : RS × List Deed × Nat) (n : Nat) (acc : List Deed) (S : RS) : Prop :=
  (S.code = 0 → getN n acc S = R) ∧ (¬ S.code = 0 → R.2.1 = [] ∧ S = .err R.2.2)
theorem mid_step {R : RS × List Deed × Nat} {n : Nat} {acc : List Deed} {S : RS} (h : Mid R (n + 1) acc S) (h0 : S.code = 0) (hcode : (getD S).2.2 = (outS (getD S).2.2 (getD S).1).code) : Mid R n (acc ++ [(getD S).2.1]) (outS (getD S).2.2 (getD S).1) := by
  have hx := h.1 h0
  by_cases hy : (getD S).2.2 = 0
  · have hs := getN_step hx hy
    have e : outS (getD S).2.2 (getD S).1 = (getD S).1 := by unfold outS; rw [if_pos hy]
    rw [e] at hcode ⊢
    exact ⟨fun _ => hs, fun k => absurd (hcode.symm.trans hy) k⟩
  · have hs := getN_stop hx hy
    have e : outS (getD S).2.2 (getD S).1 = .err (getD S).2.2 := by unfold outS; rw [if_neg hy]
    rw [e]
    refine ⟨fun k => absurd k hy, fun _ => ?_⟩
    rw [hs]
    exact ⟨rfl, rfl⟩

set_option maxRecDepth 100000 in
set_option maxHeartbeats 8000000 in
theorem RPGet_any (p : Option Addr) (n0 c : Nat) (y0 : Int) (st : RS) (G : Nat → Prop) (w : World) (hG : ∀ k, G k → k < w.heap.size) (h : RsV w G (.agg #[.slice p n0 c, .int .i64 y0]) st) :
    Calls Tryz.prog 56 #[.agg #[.slice p n0 c, .int .i64 y0]] w fun e w' => (∃ p n c v, e = .returned (.tuple #[.agg #[.slice p n c, .int .i64 ((outS (getP st).2.2 (getP st).1).code : Int)], v]) ∧ RsV w' G (.agg #[.slice p n c, .int .i64 ((outS (getP st).2.2 (getP st).1).code : Int)]) (outS (getP st).2.2 (getP st).1) ∧ w'.ownsRow w.heap.size 109 7 v (getP st).2.1.length ((getP st).2.1.flatMap dCells)) ∧ Below w.heap.size w w' := by
  have g1 : Blk ((w.alloc (.cells #[.slice p n0 c, .int .i64 y0] 94)).alloc (.cells #[.slice none 0 0, .int .i64 0] 94)) w.heap.size 94 #[.slice p n0 c, .int .i64 y0] := (Blk.new w _ _).alloc _
  have g2 : Blk ((w.alloc (.cells #[.slice p n0 c, .int .i64 y0] 94)).alloc (.cells #[.slice none 0 0, .int .i64 0] 94)) (w.heap.size + 1) 94 #[.slice none 0 0, .int .i64 0] := two_new w _ _ _
  have hbb : Below w.heap.size w ((w.alloc (.cells #[.slice p n0 c, .int .i64 y0] 94)).alloc (.cells #[.slice none 0 0, .int .i64 0] 94)) := below_alloc2 w _ _
  have hget := Wire.GetNum_any _ st G _ (fun k hk => Nat.lt_of_lt_of_le (hG k hk) hbb.size) (h.later hbb)
  obtain ⟨R, hR⟩ : ∃ R, getP st = R := ⟨_, rfl⟩
  rw [hR]
  unfold getP at hR
  generalize rdNum st = q at hget hR
  obtain ⟨S1, n⟩ := q
  simp only at hget hR
  have HGG := Lib.hid hG
  have hk1 : n ≤ 256 ∨ 256 < n := by omega
  clear h
  by_cases hlong : S1.code = 0 ∧ 256 < n
  · obtain ⟨hc, hn⟩ := hlong
    rw [if_pos hc, if_pos hn] at hR
    subst hR
    have tn : decide ((n : Int) > 256) = true := by simp; omega
    have HC := Lib.hid hc
    clear hc hn hk1 hG
    go_enter Tryz.func56, Tryz.ntmps56
    go_wp2_with (first
      | (refine wpList_box_agg rfl 94 _ rfl #[.slice p n0 c, .int .i64 y0] rfl ?_)
      | (refine wpList_alloc_agg rfl 94 rfl #[.slice none 0 0, .int .i64 0] zeroRd ?_)
      | (refine wpList_load_row rfl 94 _ rfl w.heap.size rfl 94 _ (0, 0) _ g1 Tryz.underlying94 rfl (sizeRd _ _) ?_)
      | (go_at_call 52; (with_reducible refine hget.mono ?_); clear hget; rintro e w1 ⟨⟨v1, rfl, hv1⟩, hb1⟩; obtain ⟨p1, n1, c1, rfl⟩ := hv1.shape; have x1 := bump g1 hb1; have x2 := bump g2 hb1; have hbw1 := below_pre hbb hb1)
      | (refine wpList_store_row rfl 94 _ _ rfl w.heap.size #[.slice p1 n1 c1, .int .i64 (S1.code : Int)] rfl rfl 94 _ x1 (sizeRd _ _) rfl (oneRd _ trivial) ?_; have z2 := x2.foot (foot_setRow w1 w.heap.size #[.slice p1 n1 c1, .int .i64 (S1.code : Int)]) (by omega); have zc : (w1.setRow w.heap.size #[.slice p1 n1 c1, .int .i64 (S1.code : Int)]).cell? ⟨w.heap.size, 1, none⟩ = some (.int .i64 0) := (by have := (x1.row #[.slice p1 n1 c1, .int .i64 (S1.code : Int)]).cell 1; rw [HC.out] at this ⊢; exact this); have hbw2 := hbw1.trans (foot_row (w := w1) (B := w.heap.size) #[.slice p1 n1 c1, .int .i64 (S1.code : Int)] (Nat.le_refl _)))
      | (refine wpList_store_row rfl 94 _ _ rfl (w.heap.size + 1) #[.slice none 0 0, .int .i64 4] rfl rfl 94 _ z2 (sizeRd _ _) rfl (oneRd _ trivial) ?_; have u2 := z2.row #[.slice none 0 0, .int .i64 4]))
    refine bodyPost_ret (results_row_tmp rfl _ _ (w.heap.size + 1) 94 #[.slice none 0 0, .int .i64 4] (0, 0) _ rfl u2 Tryz.underlying94 rfl (sizeRd _ _)) rfl ?_
    exact ⟨⟨_, _, _, _, rfl, Wire.RsV.nil (e := 4) (by decide), World.ownsRow_nil _ _ _ _⟩, hbw2.trans (foot_row _ (by omega))⟩
  · have hM : Mid R (n - 0) [] S1 ∧ (S1.code = 0 → n ≤ 256) := by
      refine ⟨⟨fun hc => ?_, fun hc => ?_⟩, fun hc => by omega⟩
      · rw [if_pos hc, if_neg (by omega)] at hR
        exact hR
      · rw [if_neg hc] at hR
        subst hR
        refine ⟨rfl, ?_⟩
        cases S1 with
        | ok l => exact absurd rfl hc
        | err e => rfl
    have HM := Lib.hid hM.1
    have HN := Lib.hid hM.2
    have hcase : (S1.code = 0 ∧ decide ((n : Int) > 256) = false) ∨ ¬ S1.code = 0 := by
      by_cases hc : S1.code = 0
      · exact .inl ⟨hc, by simp; omega⟩
      · exact .inr hc
    have hte : ((S1.code : Int) == 0) = true ∧ decide ((n : Int) > 256) = false ∨ ((S1.code : Int) == 0) = false := by
      rcases hcase with ⟨a, b⟩ | a
      · exact .inl ⟨by rw [a]; rfl, b⟩
      · exact .inr (by rw [beq_eq_false_iff_ne]; omega)
    have hn64 : n < 4611686018427387904 ∨ True := .inr trivial
    clear hM hcase hR hlong hk1 hn64
    rcases hte with ⟨te, tn⟩ | te
    all_goals
      go_enter Tryz.func56, Tryz.ntmps56
      go_wp2_with (first
        | (refine wpList_box_agg rfl 94 _ rfl #[.slice p n0 c, .int .i64 y0] rfl ?_)
        | (refine wpList_alloc_agg rfl 94 rfl #[.slice none 0 0, .int .i64 0] zeroRd ?_)
        | (refine wpList_load_row rfl 94 _ rfl w.heap.size rfl 94 _ (0, 0) _ g1 Tryz.underlying94 rfl (sizeRd _ _) ?_)
        | (go_at_call 52; (with_reducible refine hget.mono ?_); clear hget; rintro e w1 ⟨⟨v1, rfl, hv1⟩, hb1⟩; obtain ⟨p1, n1, c1, rfl⟩ := hv1.shape; have x1 := bump g1 hb1; have x2 := bump g2 hb1; have hbw1 := below_pre hbb hb1)
        | (refine wpList_store_row rfl 94 _ _ rfl w.heap.size #[.slice p1 n1 c1, .int .i64 (S1.code : Int)] rfl rfl 94 _ x1 (sizeRd _ _) rfl (oneRd _ trivial) ?_; have z1 := x1.row #[.slice p1 n1 c1, .int .i64 (S1.code : Int)]; have z2 := x2.foot (foot_setRow w1 w.heap.size #[.slice p1 n1 c1, .int .i64 (S1.code : Int)]) (by omega); have zc : (w1.setRow w.heap.size #[.slice p1 n1 c1, .int .i64 (S1.code : Int)]).cell? ⟨w.heap.size, 1, none⟩ = some (.int .i64 (S1.code : Int)) := z1.cell 1; have hbw2 := hbw1.trans (foot_row (w := w1) (B := w.heap.size) #[.slice p1 n1 c1, .int .i64 (S1.code : Int)] (Nat.le_refl _))))
      have HV1 := Lib.hid (Wire.RsV.back hv1 hbb HGG.out)
      clear hv1 zc x1 x2 g1 g2 te
      go_loopw [5, 6] (fun v t wr => ∃ (k : Nat) (acc : List Deed) (S : RS) (pk : Option Addr) (nk ck : Nat), k ≤ n ∧ k ≤ 256 ∧ t = .int .u64 (k : Int) ∧ acc.length = k ∧ Hid (Mid R (n - k) acc S) ∧ wr.ownsRow w.heap.size 109 7 v k (acc.flatMap dCells) ∧ Hid (RsV w G (.agg #[.slice pk nk ck, .int .i64 (S.code : Int)]) S) ∧ Hid (S.code = 0 → n ≤ 256) ∧ Blk wr w.heap.size 94 #[.slice pk nk ck, .int .i64 (S.code : Int)] ∧ Blk wr (w.heap.size + 1) 94 #[.slice none 0 0, .int .i64 0] ∧ Below w.heap.size w wr) (fun _ t _ => n - (intOf t).toNat)
      case atStart => exact ⟨0, [], S1, p1, n1, c1, by omega, by omega, rfl, rfl, HM, World.ownsRow_nil _ _ _ _, HV1, HN, z1, z2, hbw2⟩
      case round =>
        clear HM HV1 HN z1 z2 hbw1 hbw2
        obtain ⟨k, acc, S, pk, nk, ck, hk, hk6, rfl, hal, hX, hown, hv, hN6, b1, b2, hb⟩ := hrel
        by_cases hz : S.code = 0
        · have tz : ((S.code : Int) == 0) = true := by rw [hz]; rfl
          have tz2 : ((S.code : Int) != 0) = false := by rw [hz]; rfl
          have hn6 := hN6.out hz
          have hc1 : wr.cell? ⟨w.heap.size, 1, none⟩ = some (.int .i64 (S.code : Int)) := b1.cell 1
          by_cases hlt : k < n
          · have hx := hX.out
            rw [show n - k = n - (k + 1) + 1 by omega] at hx
            have hst := mid_step hx hz
            have hrg := RGet_any pk nk ck (S.code : Int) S G wr (fun j hj => Nat.lt_of_lt_of_le (HGG.out j hj) hb.size) (hv.out.later hb)
            generalize getD S = q at hst hrg
            obtain ⟨S2, D, y⟩ := q
            simp only at hst hrg
            have HST := Lib.hid hst
            have HZ := Lib.hid hz
            clear hx hX hst hz
            go_wp2_with (first
              | (refine wpList_load_row rfl 94 _ rfl w.heap.size rfl 94 _ (0, 0) _ b1 Tryz.underlying94 rfl (sizeRd _ _) ?_)
              | (go_at_call 99; (with_reducible refine hrg.mono ?_); clear hrg; rintro e w4 ⟨⟨p4, n4, c4, rfl, hv4⟩, hb4⟩; have hbw4 := below_pre hb hb4; have k1 : Blk ((w4.alloc (.cells #[.slice none 0 0, .int .i64 0] 94)).alloc (.cells zeroD.cells 109)) w4.heap.size 94 #[.slice none 0 0, .int .i64 0] := (Blk.new w4 _ _).alloc _; have k2 : Blk ((w4.alloc (.cells #[.slice none 0 0, .int .i64 0] 94)).alloc (.cells zeroD.cells 109)) (w4.heap.size + 1) 109 zeroD.cells := two_new w4 _ _ _)
              | (refine wpList_alloc_agg rfl 109 rfl zeroD.cells zeroR ?_)
              | (refine wpList_alloc_agg rfl 94 rfl #[.slice none 0 0, .int .i64 0] zeroRd ?_)
              | (refine wpList_store_row rfl 94 _ _ rfl w4.heap.size #[.slice p4 n4 c4, .int .i64 (y : Int)] rfl rfl 94 _ k1 (sizeRd _ _) rfl (oneRd _ trivial) ?_; have k3 := k1.row #[.slice p4 n4 c4, .int .i64 (y : Int)]; have k4 := k2.foot (foot_setRow ((w4.alloc (.cells #[.slice none 0 0, .int .i64 0] 94)).alloc (.cells zeroD.cells 109)) w4.heap.size #[.slice p4 n4 c4, .int .i64 (y : Int)]) (by omega); have k5 : Blk (((w4.alloc (.cells #[.slice none 0 0, .int .i64 0] 94)).alloc (.cells zeroD.cells 109)).setRow w4.heap.size #[.slice p4 n4 c4, .int .i64 (y : Int)]) (w4.alloc (.cells #[.slice none 0 0, .int .i64 0] 94)).heap.size 109 zeroD.cells := (by rw [show (w4.alloc (.cells #[.slice none 0 0, .int .i64 0] 94)).heap.size = w4.heap.size + 1 by simp]; exact k4))
              | (refine wpList_store_row rfl 109 _ _ rfl (w4.alloc (.cells #[.slice none 0 0, .int .i64 0] 94)).heap.size D.cells rfl rfl 109 _ k5 (sizeD _) rfl (oneD _) ?_; rw [show (w4.alloc (.cells #[.slice none 0 0, .int .i64 0] 94)).heap.size = w4.heap.size + 1 by simp]; have m1 := k3.foot (foot_setRow _ (w4.heap.size + 1) D.cells) (by omega); have m2 := k4.row D.cells; have hb5 : Below w4.heap.size w4 ((((w4.alloc (.cells #[.slice none 0 0, .int .i64 0] 94)).alloc (.cells zeroD.cells 109)).setRow w4.heap.size #[.slice p4 n4 c4, .int .i64 (y : Int)]).setRow (w4.heap.size + 1) D.cells) := ((below_alloc2 w4 _ _).trans (foot_row _ (Nat.le_refl _))).trans (foot_row _ (by omega)); clear k1 k2 k3 k4 k5; generalize ((((w4.alloc (.cells #[.slice none 0 0, .int .i64 0] 94)).alloc (.cells zeroD.cells 109)).setRow w4.heap.size #[.slice p4 n4 c4, .int .i64 (y : Int)]).setRow (w4.heap.size + 1) D.cells) = w5 at m1 m2 hb5 ⊢; have z1 := bump (bump b1 hb4) hb5; have z2 := bump (bump b2 hb4) hb5; have hown5 := ownsRow_below (ownsRow_below hown hb4 (Nat.le_refl _)) hb5 (Nat.le_refl _); have hbw5 := below_pre hbw4 hb5)
              | (refine wpList_load_row rfl 94 _ rfl w4.heap.size rfl 94 _ (0, 0) _ m1 Tryz.underlying94 rfl (sizeRd _ _) ?_)
              | (refine wpList_store_row rfl 94 _ _ rfl w.heap.size #[.slice p4 n4 c4, .int .i64 (y : Int)] rfl rfl 94 _ z1 (sizeRd _ _) rfl (oneRd _ trivial) ?_; have hf6 := foot_setRow w5 w.heap.size #[.slice p4 n4 c4, .int .i64 (y : Int)]; have y1 := z1.row #[.slice p4 n4 c4, .int .i64 (y : Int)]; have y2 := z2.foot hf6 (by omega); have m6 := m2.foot hf6 (by have := hbw4.size; omega); have hown6 := hf6.own hown5 (fun j hj (e : j = w.heap.size) => own_ne_blk hown5 z1 (by decide) (by rw [hj, e])); have hbw6 := hbw5.trans (foot_row (w := w5) (B := w.heap.size) #[.slice p4 n4 c4, .int .i64 (y : Int)] (Nat.le_refl _)); clear m1 z1 z2 hown5 hf6; generalize w5.setRow w.heap.size #[.slice p4 n4 c4, .int .i64 (y : Int)] = w6 at y1 y2 m6 hown6 hbw6 ⊢)
              | (refine wpList_load_row rfl 109 _ rfl (w4.heap.size + 1) rfl 109 _ (0, 0) _ m6 Tryz.underlying109 rfl (sizeD _) ?_)
              | (refine wpList_lit_deed rfl _ rfl D rfl ?_)
              | (at_builtin; refine wpList_append_deed rfl _ _ rfl w.heap.size hown6 rfl rfl D 109 (by omega) hbw6.size ?_; intro v' w7 hown7 hb7 hf7))
            have q1 := y1.foot hf7 (fun e => own_ne_blk hown6 y1 (by decide) e)
            have q2 := y2.foot hf7 (fun e => own_ne_blk hown6 y2 (by decide) e)
            have hbw7 := hbw6.trans hb7
            have hcd := rs_code hv4
            have hcd2 : y = (outS y S2).code := by omega
            have HV4 := Lib.hid (Wire.RsV.back (Wire.RsV.back hv4 hb4 (fun j hj => Nat.lt_of_lt_of_le (HGG.out j hj) hb.size)) hb HGG.out)
            have HMM := Lib.hid (HST.out hcd2)
            rw [hcd] at HV4 q1
            clear hcd hcd2
            go_roundw
            case rel => exact ⟨k + 1, acc ++ [D], outS y S2, p4, n4, c4, by omega, by omega, by go_num, by simp [hal], HMM, hown7, HV4, Lib.hid (fun _ => hn6), q1, q2, hbw7⟩
            case measure => simp [intOf]; omega
          · obtain rfl : k = n := by omega
            have hx := hX.out.1 hz
            rw [Nat.sub_self, getN] at hx
            have HX : Hid (R = (S, acc, 0)) := Lib.hid hx.symm
            have HZ := Lib.hid hz
            have HV := Lib.hid (fun W (hbW : Below w.heap.size w W) => hv.out.later hbW)
            obtain ⟨pv, cv, rfl, _⟩ := id (RV.of_own hown)
            clear hX hx hz
            go_wp2_with (first
              | (refine wpList_load_row rfl 94 _ rfl w.heap.size rfl 94 _ (0, 0) _ b1 Tryz.underlying94 rfl (sizeRd _ _) ?_)
              | (refine wpList_store_row rfl 94 _ _ rfl (w.heap.size + 1) #[.slice pk nk ck, .int .i64 (S.code : Int)] rfl rfl 94 _ b2 (sizeRd _ _) rfl (oneRd _ trivial) ?_; have u2 := b2.row #[.slice pk nk ck, .int .i64 (S.code : Int)]; have hf6 := foot_setRow wr (w.heap.size + 1) #[.slice pk nk ck, .int .i64 (S.code : Int)]; have hown6 := hf6.own hown (fun j hj (e : j = w.heap.size + 1) => own_ne_blk hown b2 (by decide) (by rw [hj, e])); have hbw6 := hb.trans (foot_row (w := wr) (B := w.heap.size) (r := w.heap.size + 1) #[.slice pk nk ck, .int .i64 (S.code : Int)] (by omega))))
            refine bodyPost_ret (results_row_tmp rfl _ _ (w.heap.size + 1) 94 #[.slice pk nk ck, .int .i64 (S.code : Int)] (0, 0) _ rfl u2 Tryz.underlying94 rfl (sizeRd _ _)) rfl ?_
            rw [HX.out]
            exact ⟨⟨_, _, _, _, rfl, HV.out _ hbw6, by rw [hal]; exact hown6⟩, hbw6⟩
        · have tz : ((S.code : Int) == 0) = false := by rw [beq_eq_false_iff_ne]; omega
          have tz2 : ((S.code : Int) != 0) = true := by simp; omega
          have hc1 : wr.cell? ⟨w.heap.size, 1, none⟩ = some (.int .i64 (S.code : Int)) := b1.cell 1
          obtain ⟨hr1, hr2⟩ := hX.out.2 hz
          have ho : outS R.2.2 R.1 = S := by
            have : ¬ R.2.2 = 0 := by rw [hr2] at hz; exact hz
            unfold outS
            rw [if_neg this, hr2]
          have HO := Lib.hid ho
          have HR1 := Lib.hid hr1
          have HV := Lib.hid (fun W (hbW : Below w.heap.size w W) => hv.out.later hbW)
          clear hX hz hr1 hr2 ho
          by_cases hlt : k < n
          all_goals
            go_wp2_with (first
              | (refine wpList_load_row rfl 94 _ rfl w.heap.size rfl 94 _ (0, 0) _ b1 Tryz.underlying94 rfl (sizeRd _ _) ?_)
              | (refine wpList_store_row rfl 94 _ _ rfl (w.heap.size + 1) #[.slice pk nk ck, .int .i64 (S.code : Int)] rfl rfl 94 _ b2 (sizeRd _ _) rfl (oneRd _ trivial) ?_; have u2 := b2.row #[.slice pk nk ck, .int .i64 (S.code : Int)]; have hbw6 := hb.trans (foot_row (w := wr) (B := w.heap.size) (r := w.heap.size + 1) #[.slice pk nk ck, .int .i64 (S.code : Int)] (by omega))))
            refine bodyPost_ret (results_row_tmp rfl _ _ (w.heap.size + 1) 94 #[.slice pk nk ck, .int .i64 (S.code : Int)] (0, 0) _ rfl u2 Tryz.underlying94 rfl (sizeRd _ _)) rfl ?_
            rw [HO.out, HR1.out]
            exact ⟨⟨_, _, _, _, rfl, HV.out _ hbw6, World.ownsRow_nil _ _ _ _⟩, hbw6⟩
end Go.Proofs.YtbdimfcdpkldpaaGreatDoor
