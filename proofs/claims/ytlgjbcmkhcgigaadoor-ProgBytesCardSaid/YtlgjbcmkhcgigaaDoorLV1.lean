/- The contracts of prog's Put and Encode and of the reference's Bytes. The contracts of prog's Get and Decode. What ProgBytes asks of a program between other bytes: handed. -/
import Derived.Test.YtlgjbcmkhcgigaaDoorQ6
import Derived.Test.YtlgjbcmkhcgigaaDoorLT1
import Derived.Test.YtlgjbcmkhcgigaaDoorLD7
import Derived.Test.YtlgjbcmkhcgigaaDoorLM1
import Derived.Test.YtlgjbcmkhcgigaaDoorLT3
import Derived.Test.YtlgjbcmkhcgigaaDoorLW2
namespace Go.Proofs.YtlgjbcmkhcgigaaDoor
open Go.RowKit
open Wire (WrAt WrStep wAdd bV)

theorem dropd {ps : List Deed} {k : Nat} {d : Deed} (hd : ps[k]? = some d) : ps.drop k = d :: ps.drop (k + 1) := by
  obtain ⟨h, rfl⟩ := List.getElem?_eq_some_iff.1 hd
  exact List.drop_eq_getElem_cons h
theorem wrap_len (n : Nat) (h : n ≤ 100000) : IntKind.u64.wrap (n : Int) = (n : Int) := by rw [IntKind.wrap_u64]; omega

set_option maxHeartbeats 400000 in
theorem PPut_bad (p : Option Addr) (c : Nat) (ps : List Deed) (hok : ∀ d ∈ ps, d.ok) (G : Nat → Prop) {B b most : Nat} {v : Value} {l : List UInt8} (w : World) (h : RP w G (.slice p ps.length c) ps) (hW : WrAt w B b most v (some l)) (h0 : ¬ checkN ps = 0) :
    Calls Tryd.prog 48 #[.pointer (some ⟨b, 0, none⟩), .slice p ps.length c] w fun e w' => e = .returned (.tuple #[]) ∧ WrK w w' B b most l := by
  have hck := Check_any p c ps hok G w h
  have ht : ((checkN ps : Int) != 0) = true := by simp; omega
  have HW := Lib.hid hW
  clear hok h h0 hW
  go_enter Tryd.func48, Tryd.ntmps48
  go_wp2_with (go_at_call 11; (with_reducible refine hck.mono ?_); clear hck; rintro e w1 ⟨rfl, hb1⟩)
  refine bodyPost_ret (results_none rfl _ _ _) rfl ?_
  exact ⟨rfl, v, HW.out.below hb1 (Nat.le_refl _), SbF.of_below hb1⟩

set_option maxRecDepth 100000 in
set_option maxHeartbeats 2000000 in
theorem PPut_good (p : Option Addr) (c n : Nat) (ps : List Deed) (hn : ps.length = n) (hok : ∀ d ∈ ps, d.ok) (G : Nat → Prop) {B b most : Nat} {v : Value} {l : List UInt8} (hG : ∀ k, G k → k < B) (hl : l.length ≤ 1000) (hlm : l.length + 3593 ≤ most) (hm : most ≤ maxLen)
    (w : World) (h : RP w G (.slice p n c) ps) (hW : WrAt w B b most v (some l)) (h0 : checkN ps = 0) :
    Calls Tryd.prog 48 #[.pointer (some ⟨b, 0, none⟩), .slice p n c] w fun e w' => e = .returned (.tuple #[]) ∧ WrK w w' B b most (l ++ bytesP ps) := by
  have hck := Check_any p c ps hok G w (by rw [hn]; exact h)
  rw [hn, h0] at hck
  obtain ⟨hl6, hgp⟩ := checkN_zero.1 h0
  rw [hn] at hl6
  obtain ⟨T, hT⟩ : ∃ T, bytesP ps = T := ⟨_, rfl⟩
  rw [hT]
  have HT : Hid (Wire.numB n ++ (ps.drop 0).flatMap bytesD = T) := Lib.hid (by rw [← hT, ← hn]; rfl)
  have h9 := Wire.numB_len n (by omega)
  have hw := wrap_len n (by omega)
  have hnum := fun (W : World) (v : Value) (hW : WrAt W B b most v (some l)) => Wire.WNum_any W n (by omega) (fun l' e => by cases e; omega) hm hW
  have hBb : B ≤ b := hW.1
  have HLM := Lib.hid hlm
  have HM := Lib.hid hm
  have H := Lib.hid h
  have HW := Lib.hid hW
  have HN := Lib.hid hn
  have HGP := Lib.hid hgp
  have HOK := Lib.hid hok
  clear h0 h hgp hn hW hok hT hlm hm
  go_enter Tryd.func48, Tryd.ntmps48
  go_wp2_with (first
    | (go_at_call 11; (with_reducible refine hck.mono ?_); clear hck; rintro e w1 ⟨rfl, hb1⟩; have H1 := Lib.hid (H.out.later hb1); have HW1 := HW.out.below hb1 (Nat.le_refl _))
    | (go_at_call 85; (with_reducible refine (hnum _ _ HW1).mono ?_); clear hnum; rintro e w2 ⟨rfl, hs⟩; obtain ⟨v2, hW2, hf2⟩ := wr_keep HW1 hs (by have := HLM.out; omega); have hF2 := (SbF.of_below hb1).trans hf2; have H2 := Lib.hid (H1.out.sb hf2 hBb hG)))
  have HW2 := Lib.hid hW2
  clear H H1 HW1 hf2 hs hb1 hW2 HW hw
  go_loopw [16] (fun t wr => ∃ (k : Nat) (pre : List UInt8) (vr : Value), k ≤ n ∧ t = .int .i64 k ∧ Hid (pre ++ (ps.drop k).flatMap bytesD = T) ∧ pre.length ≤ 9 + 14 * k ∧ Hid (WrAt wr B b most vr (some (l ++ pre))) ∧ Hid (RP wr G (.slice p n c) ps) ∧ SbF B b w wr) (fun t _ => n - (intOf t).toNat)
  case atStart => exact ⟨0, Wire.numB n, v2, by omega, rfl, HT, by omega, HW2, H2, hF2⟩
  case round =>
    obtain ⟨k, pre, vr, hk, rfl, hp, hpl, hWr, hR, hF⟩ := hrel
    clear HT HW2 H2 hF2
    by_cases hlt : k < n
    · obtain ⟨d, hd⟩ : ∃ d, ps[k]? = some d := ⟨_, List.getElem?_eq_getElem (by rw [HN.out]; exact hlt)⟩
      obtain ⟨b0, off, rfl, _, _, hra, _⟩ := hR.out.at hd
      have hdk := HOK.out d (List.mem_of_getElem? hd)
      have hgd := goodP_mem HGP.out (List.mem_of_getElem? hd)
      have h14 := bytesD_40 d hdk (good_op hgd)
      have hp2 := hp.out
      rw [dropd hd, List.flatMap_cons, ← List.append_assoc] at hp2
      have HP2 := Lib.hid hp2
      have hput := fun (W : World) (v : Value) (hW : WrAt W B b most v (some (l ++ pre))) => Put_good d hdk hgd (by rw [List.length_append]; have := HLM.out; omega) HM.out (by rw [List.length_append]; omega) W hW
      simp only [Deed.val] at hput
      have hb1 := below_alloc1 wr (.cells d.cells 45)
      have hW1 := hWr.out.below hb1 (Nat.le_refl _)
      have hR1 := Lib.hid (hR.out.later hb1)
      have hF1 := hF.trans (SbF.of_below hb1)
      have HPUT := Lib.hid hput
      have h14b : (pre ++ bytesD d).length ≤ 9 + 14 * (k + 1) := by rw [List.length_append]; omega
      have H14 := Lib.hid h14b
      clear hd hp2 hp hdk hgd h14 hput h14b
      go_wp2_with (first
        | (refine wpList_load_deed rfl _ rfl b0 (off + k * 7) rfl d hra ?_)
        | (refine wpList_alloc_agg rfl 45 rfl zeroD.cells zeroR ?_)
        | (refine wpList_store_row rfl 45 _ _ rfl wr.heap.size d.cells rfl rfl 45 _ (heap_alloc_new wr _) (sizeD _) rfl (oneD _) ?_; rw [World.setRow_alloc_new])
        | (refine wpList_load_row rfl 45 _ rfl wr.heap.size rfl 45 _ (0, 0) _ (heap_alloc_new wr _) Tryd.underlying45 rfl (sizeD _) ?_)
        | (go_at_call 86; (with_reducible refine (HPUT.out _ _ hW1).mono ?_); rintro e w3 ⟨rfl, v3, hW3, hF3⟩))
      go_roundw
      case rel => exact ⟨k + 1, pre ++ bytesD d, v3, by omega, by go_num, HP2, H14.out, Lib.hid (by rw [← List.append_assoc]; exact hW3), Lib.hid (hR1.out.sb hF3 hBb hG), hF1.trans hF3⟩
      case measure => simp [intOf]; omega
    · obtain rfl : k = n := by omega
      have hp2 := hp.out
      rw [List.drop_of_length_le (by rw [HN.out]; exact Nat.le_refl _), List.flatMap_nil, List.append_nil] at hp2
      subst hp2
      clear hp
      go_wp2
      first | go_end0 | refine bodyPost_ret (results_none rfl _ _ _) rfl ?_
      exact ⟨rfl, vr, hWr.out, hF⟩

set_option maxHeartbeats 1000000 in
theorem Encode_bad (p : Option Addr) (c : Nat) (ps : List Deed) (hok : ∀ d ∈ ps, d.ok) (G : Nat → Prop) (w : World) (h : RP w G (.slice p ps.length c) ps) (h0 : ¬ checkN ps = 0) :
    Calls Tryd.prog 23 #[.slice p ps.length c] w fun e w' => e = .returned (.tuple #[.slice none 0 0, .int .i64 (checkN ps : Int)]) ∧ Below w.heap.size w w' := by
  have hck := Check_any p c ps hok G w h
  have ht : ((checkN ps : Int) != 0) = true := by simp; omega
  clear hok h h0
  go_enter Tryd.func23, Tryd.ntmps23
  go_wp2_with (go_at_call 11; (with_reducible refine hck.mono ?_); clear hck; rintro e w1 ⟨rfl, hb1⟩)
  go_ret2
  exact ⟨rfl, hb1⟩
set_option maxHeartbeats 1000000 in
theorem Encode_good (p : Option Addr) (c : Nat) (ps : List Deed) (hok : ∀ d ∈ ps, d.ok) (G : Nat → Prop) (w : World) (hG : ∀ k, G k → k < w.heap.size) (h : RP w G (.slice p ps.length c) ps) (h0 : checkN ps = 0) :
    Calls Tryd.prog 23 #[.slice p ps.length c] w fun e w' => ∃ x, e = .returned (.tuple #[x, .int .i64 0]) ∧ w'.ownsRow w.heap.size 5 1 x (bytesP ps).length ((bytesP ps).map bV) ∧ Below w.heap.size w w' := by
  have hck := Check_any p c ps hok G w h
  rw [h0] at hck
  have hlen := bytesP_len ps hok h0
  have hnew : ∀ W : World, Calls Tryd.prog 47 #[.int .i64 9223372036854775807] W fun e w' => e = .returned (.pointer (some ⟨W.heap.size, 0, none⟩)) ∧ WrAt w' W.heap.size W.heap.size 9223372036854775807 (.slice none 0 0) (some []) ∧ Below W.heap.size W w' := fun W => Wire.New_any 9223372036854775807 W
  have hM : 9223372036854775807 ≤ maxLen := by unfold maxLen; omega
  have hM2 : ([] : List UInt8).length + 3593 ≤ 9223372036854775807 := by simp
  generalize 9223372036854775807 = M at hnew hM hM2
  have hput := fun (W : World) (b : Nat) (hGB : w.heap.size ≤ b) (hW : WrAt W b b M (.slice none 0 0) (some [])) (h : RP W G (.slice p ps.length c) ps) => PPut_good p c _ ps rfl hok G (B := b) (fun k hk => by have := hG k hk; omega) (l := []) (by simp) hM2 hM W h hW h0
  simp only [List.nil_append] at hput
  generalize bytesP ps = T at *
  have H := Lib.hid h
  have HPUT := Lib.hid hput
  clear h0 hok h hG hM hM2 hput
  go_enter Tryd.func23, Tryd.ntmps23
  go_wp2_with (first
    | (go_at_call 11; (with_reducible refine hck.mono ?_); clear hck; rintro e w1 ⟨rfl, hb1⟩; have H1 := Lib.hid (H.out.later hb1))
    | (go_at_call 47; (with_reducible refine (hnew _).mono ?_); clear hnew; rintro e w2 ⟨rfl, hW2, hb2⟩; have H2 := Lib.hid (H1.out.later hb2); have hbw2 := below_pre hb1 hb2)
    | (go_at_call 48; (with_reducible refine (HPUT.out _ _ hb1.size hW2 H2.out).mono ?_); rintro e w3 ⟨rfl, v3, hW3, hF3⟩; have hbw3 : Below w.heap.size w w3 := hbw2.trans ((hF3.below (Nat.le_refl _) (by have := hb2.size; omega)).mono hb1.size))
    | (go_at_call 49; refine (Wire.WDone_some _ T (by omega) hW3).mono ?_; rintro e w4 ⟨x, rfl, hown4, hb4⟩))
  go_ret2
  exact ⟨x, rfl, own_mono hown4 hbw3.size, below_pre hbw3 hb4⟩

set_option maxRecDepth 100000 in
set_option maxHeartbeats 2000000 in
theorem RBytes8_any (p : Option Addr) (c n : Nat) (ps : List Deed) (hn : ps.length = n) (hok : ∀ d ∈ ps, d.ok) (G : Nat → Prop) (w : World) (hG : ∀ k, G k → k < w.heap.size) (h : RP w G (.slice p n c) ps) (h0 : checkN ps = 0) :
    Calls Tryd.prog 26 #[.slice p n c] w fun e w' => ∃ x, e = .returned x ∧ w'.ownsRow w.heap.size 5 1 x (bytesP ps).length ((bytesP ps).map bV) ∧ Below w.heap.size w w' := by
  obtain ⟨i0, hi, hz0, hz1, hz2⟩ := info_parts Wire.infoB
  obtain ⟨hl6, hgp⟩ := checkN_zero.1 h0
  rw [hn] at hl6
  obtain ⟨T, hT⟩ : ∃ T, bytesP ps = T := ⟨_, rfl⟩
  rw [hT]
  have HT : Hid (Wire.numB n ++ (ps.drop 0).flatMap bytesD = T) := Lib.hid (by rw [← hT, ← hn]; rfl)
  have h9 := Wire.numB_len n (by omega)
  have hw := wrap_len n (by omega)
  have hnum := Wire.RNum_any n (by omega) w
  have H := Lib.hid h
  have HN := Lib.hid hn
  have HGP := Lib.hid hgp
  have HOK := Lib.hid hok
  clear h0 h hgp hn hok hT
  go_enter Tryd.func26, Tryd.ntmps26
  go_wp2_with (go_at_call 56; (with_reducible refine hnum.mono ?_); clear hnum; rintro e w1 ⟨v1, rfl, hown1, hb1⟩; have H1 := Lib.hid (H.out.later hb1))
  clear H hw
  go_loopw [3, 4] (fun x t wr => ∃ (k : Nat) (pre : List UInt8), k ≤ n ∧ t = .int .i64 k ∧ Hid (pre ++ (ps.drop k).flatMap bytesD = T) ∧ pre.length ≤ 9 + 14 * k ∧ wr.ownsRow w.heap.size 5 1 x pre.length (pre.map bV) ∧ Hid (RP wr G (.slice p n c) ps) ∧ Below w.heap.size w wr) (fun _ t _ => n - (intOf t).toNat)
  case atStart => exact ⟨0, Wire.numB n, by omega, rfl, HT, by omega, hown1, H1, hb1⟩
  case round =>
    obtain ⟨k, pre, hk, rfl, hp, hpl, hown, hR, hb⟩ := hrel
    clear HT hown1 H1 hb1
    by_cases hlt : k < n
    · obtain ⟨d, hd⟩ : ∃ d, ps[k]? = some d := ⟨_, List.getElem?_eq_getElem (by rw [HN.out]; exact hlt)⟩
      obtain ⟨b0, off, rfl, _, _, hra, _⟩ := hR.out.at hd
      have hdk := HOK.out d (List.mem_of_getElem? hd)
      have hgd := goodP_mem HGP.out (List.mem_of_getElem? hd)
      have h14 := bytesD_40 d hdk (good_op hgd)
      have hp2 := hp.out
      rw [dropd hd, List.flatMap_cons, ← List.append_assoc] at hp2
      have HP2 := Lib.hid hp2
      have hby := RBytes_any d hdk hgd wr
      simp only [Deed.val] at hby
      generalize bytesD d = L at *
      clear hd hp2 hp hdk hgd
      go_wp2_with (first
        | (refine wpList_load_deed rfl _ rfl b0 (off + k * 7) rfl d hra ?_)
        | (go_at_call 57; (with_reducible refine hby.mono ?_); clear hby; rintro e w3 ⟨x3, rfl, hown3, hb3⟩; have hownp := ownsRow_below hown hb3 (Nat.le_refl _); have hbw3 := below_pre hb hb3; have hR3 := Lib.hid (hR.out.later hb3))
        | (at_builtin; refine wpList_append_rv _ rfl _ _ 37 rfl w.heap.size 5 i0 (.int .u8 0) 1 1 Tryd.underlying37 hi hz0 hz1 hz2 rfl (by decide) _ _ _ rfl hownp _ _ _ _ rfl (RV.of_own hown3) (all_one bV Wire.bV_one _) (by unfold maxLen; omega) (by omega) hbw3.size ?_; intro v' w4 hown4 hgrow _))
      have hb4 : Below w.heap.size w w4 := hbw3.grown hgrow hbw3.size (fun j hj => (hownp.lt j hj).1)
      have hR4 : Hid (RP w4 G (.slice (some ⟨b0, off, none⟩) n c) ps) := Lib.hid (RV.below (B := w.heap.size) hR3.out ((Below.refl w.heap.size w3).grown hgrow hbw3.size (fun j hj => (hownp.lt j hj).1)) (fun k _ hk => hG k hk))
      go_roundw
      case rel => exact ⟨k + 1, pre ++ L, by omega, by go_num, HP2, by rw [List.length_append]; omega, by rw [List.length_append, List.map_append]; exact hown4, hR4, hb4⟩
      case measure => simp [intOf]; omega
    · obtain rfl : k = n := by omega
      have hp2 := hp.out
      rw [List.drop_of_length_le (by rw [HN.out]; exact Nat.le_refl _), List.flatMap_nil, List.append_nil] at hp2
      subst hp2
      clear hp
      go_wp2
      go_ret
      exact ⟨_, rfl, hown, hb⟩
end Go.Proofs.YtlgjbcmkhcgigaaDoor

namespace Go.Proofs.YtlgjbcmkhcgigaaDoor
open Go.RowKit
open Wire (RS rdNum RdAt RdOut bV)

theorem doneR_eq (st : RS) : doneR st = Wire.rdDone st := by
  cases st with
  | ok l => cases l <;> rfl
  | err e => rfl
theorem getN_step {n : Nat} {acc : List Deed} {st : RS} {R : RS × List Deed × Nat} (h : getN (n + 1) acc st = R) (h0 : (getD st).2.2 = 0) : getN n (acc ++ [(getD st).2.1]) (getD st).1 = R := by
  rw [← h, getN, if_pos h0]
theorem getN_stop {n : Nat} {acc : List Deed} {st : RS} {R : RS × List Deed × Nat} (h : getN (n + 1) acc st = R) (h0 : ¬ (getD st).2.2 = 0) : R = ((getD st).1, [], (getD st).2.2) := by
  rw [← h, getN, if_neg h0]

/-- What a Get answers at a reader. -/
def GetAt (w w' : World) (r : Nat) (e : Ending) (R : RS × List Deed × Nat) : Prop :=
  (∃ v, e = .returned (.tuple #[v, .int .i64 (R.2.2 : Int)]) ∧ w'.ownsRow w.heap.size 45 7 v R.2.1.length (R.2.1.flatMap dCells)) ∧ RdOut w w' r R.1

set_option maxRecDepth 100000 in
set_option maxHeartbeats 4000000 in
theorem PGet_any (r : Nat) (st : RS) (w : World) (h : RdAt w r st) :
    Calls Tryd.prog 53 #[.pointer (some ⟨r, 0, none⟩)] w fun e w' => GetAt w w' r e (getP st) := by
  have hrl := h.lt
  have hnum := Wire.RdNum_any r st w h
  obtain ⟨R, hR⟩ : ∃ R, getP st = R := ⟨_, rfl⟩
  rw [hR]
  unfold getP at hR
  generalize rdNum st = q at hnum hR
  obtain ⟨S1, n⟩ := q
  simp only at hnum hR
  have HERR := Lib.hid (fun (W : World) (h : RdAt W r S1) => Wire.Err_any r S1 W h)
  clear h
  by_cases hc : S1.code = 0
  · rw [if_pos hc] at hR
    have tc : ((S1.code : Int) != 0) = false := by rw [hc]; rfl
    by_cases hn : 256 < n
    · rw [if_pos hn] at hR
      subst hR
      have tn : decide ((n : Int) > 256) = true := by simp; omega
      clear hn hc
      go_enter Tryd.func53, Tryd.ntmps53
      go_wp2_with (first
        | (go_at_call 91; (with_reducible refine hnum.mono ?_); clear hnum; rintro e w1 ⟨rfl, hrd1⟩; have hra1 := hrd1.1)
        | (go_at_call 92; (with_reducible refine (HERR.out _ hra1).mono ?_); rintro e w2 ⟨rfl, rfl⟩))
      go_ret2
      exact ⟨⟨_, rfl, World.ownsRow_nil _ _ _ _⟩, hrd1⟩
    · rw [if_neg hn] at hR
      have tn : decide ((n : Int) > 256) = false := by simp; omega
      have HR0 : Hid (getN (n - 0) [] S1 = R) := Lib.hid hR
      have hn6 : n ≤ 256 := by omega
      clear hn hc hR
      go_enter Tryd.func53, Tryd.ntmps53
      go_wp2_with (first
        | (go_at_call 91; (with_reducible refine hnum.mono ?_); clear hnum; rintro e w1 ⟨rfl, hrd1⟩; have hra1 := hrd1.1)
        | (go_at_call 92; (with_reducible refine (HERR.out _ hra1).mono ?_); rintro e w2 ⟨rfl, rfl⟩))
      have HRD1 := Lib.hid hrd1
      clear hrd1
      go_loopw [6, 19] (fun v t wr => ∃ (k : Nat) (acc : List Deed) (S : RS), k ≤ n ∧ t = .int .u64 (k : Int) ∧ acc.length = k ∧ Hid (getN (n - k) acc S = R) ∧ wr.ownsRow w.heap.size 45 7 v k (acc.flatMap dCells) ∧ Hid (RdOut w wr r S)) (fun _ t _ => n - (intOf t).toNat)
      case atStart => exact ⟨0, [], S1, by omega, rfl, rfl, HR0, World.ownsRow_nil _ _ _ _, HRD1⟩
      case round =>
        obtain ⟨k, acc, S, hk, rfl, hal, hX, hown, hrd⟩ := hrel
        clear HR0 HRD1
        by_cases hlt : k < n
        · have hg := Get_any r S wr hrd.out.1
          have hx := hX.out
          rw [show n - k = n - (k + 1) + 1 by omega] at hx
          have hst := getN_stop hx
          have hsp := getN_step hx
          generalize getD S = q at hg hst hsp
          obtain ⟨S2, d, y⟩ := q
          simp only [Deed.val] at hg hst hsp
          by_cases hy : y = 0
          · have HX := Lib.hid (hsp hy)
            subst hy
            clear hst hsp hx hX
            go_wp2_with (first
              | (go_at_call 93; (with_reducible refine hg.mono ?_); clear hg; rintro e w2 ⟨rfl, hrd2⟩; have hF2 := hrd.out.2.trans hrd2.2; have hown2 := (hrd2.2.own hown (fun j hj (e : j = r) => by have := (hown.lt j hj).1; omega)).alloc (.cells d.cells 45); have hrd3 := hrd2.1.below (below_alloc1 w2 (.cells d.cells 45)) (Nat.le_refl _); have hF3 := hF2.alloc (.cells d.cells 45))
              | (refine wpList_alloc_agg rfl 45 rfl zeroD.cells zeroR ?_)
              | (refine wpList_store_row rfl 45 _ _ rfl w2.heap.size d.cells rfl rfl 45 _ (heap_alloc_new w2 _) (sizeD _) rfl (oneD _) ?_; rw [World.setRow_alloc_new])
              | (refine wpList_load_row rfl 45 _ rfl w2.heap.size rfl 45 _ (0, 0) _ (heap_alloc_new w2 _) Tryd.underlying45 rfl (sizeD _) ?_)
              | (refine wpList_lit_deed rfl _ rfl d rfl ?_)
              | (at_builtin; refine wpList_append_deed rfl _ _ rfl w.heap.size hown2 rfl rfl d 45 (by omega) hF3.size ?_; intro v' w4 hown4 hb4 hf4))
            have hrd4 : RdOut w w4 r S2 := ⟨hrd3.under hb4 hrl, hF3.then_ hf4 (fun x hx => .inr (hown2.lt x hx).1)⟩
            go_roundw
            case rel => exact ⟨k + 1, acc ++ [d], S2, by omega, by go_num, by simp [hal], HX, hown4, Lib.hid hrd4⟩
            case measure => simp [intOf]; omega
          · have HX := Lib.hid (hst hy)
            have hyy : ((y : Int) != 0) = true := by simp; omega
            clear hst hsp hx hX hy
            go_wp2_with (first
              | (go_at_call 93; (with_reducible refine hg.mono ?_); clear hg; rintro e w2 ⟨rfl, hrd2⟩; have hF2 := hrd.out.2.trans hrd2.2; have hrd3 := hrd2.1.below (below_alloc1 w2 (.cells d.cells 45)) (Nat.le_refl _); have hF3 := hF2.alloc (.cells d.cells 45))
              | (refine wpList_alloc_agg rfl 45 rfl zeroD.cells zeroR ?_)
              | (refine wpList_store_row rfl 45 _ _ rfl w2.heap.size d.cells rfl rfl 45 _ (heap_alloc_new w2 _) (sizeD _) rfl (oneD _) ?_; rw [World.setRow_alloc_new]))
            go_ret2
            rw [HX.out]
            exact ⟨⟨_, rfl, World.ownsRow_nil _ _ _ _⟩, hrd3, hF3⟩
        · obtain rfl : k = n := by omega
          have hx := hX.out
          rw [Nat.sub_self, getN] at hx
          have HX : Hid (R = (S, acc, 0)) := Lib.hid hx.symm
          obtain ⟨pv, cv, rfl, _⟩ := id (RV.of_own hown)
          clear hX hx
          go_wp2
          go_ret2
          rw [HX.out]
          exact ⟨⟨_, rfl, by rw [hal]; exact hown⟩, hrd.out⟩
  · rw [if_neg hc] at hR
    subst hR
    have tc : ((S1.code : Int) != 0) = true := by simp; omega
    clear hc
    go_enter Tryd.func53, Tryd.ntmps53
    go_wp2_with (first
      | (go_at_call 91; (with_reducible refine hnum.mono ?_); clear hnum; rintro e w1 ⟨rfl, hrd1⟩; have hra1 := hrd1.1)
      | (go_at_call 92; (with_reducible refine (HERR.out _ hra1).mono ?_); rintro e w2 ⟨rfl, rfl⟩))
    go_ret2
    exact ⟨⟨_, rfl, World.ownsRow_nil _ _ _ _⟩, hrd1⟩

set_option maxHeartbeats 2000000 in
theorem Decode_any (x : Value) (l : List UInt8) (hl : l.length ≤ 4000) (G : Nat → Prop) (w : World) (hr : RV w G x l.length 1 (l.map bV)) :
    Calls Tryd.prog 25 #[x] w fun e w' => ∃ v, e = .returned (.tuple #[v, .int .i64 ((decP l).2 : Int)]) ∧ w'.ownsRow w.heap.size 45 7 v (decP l).1.length ((decP l).1.flatMap dCells) ∧ Below w.heap.size w w' := by
  have hread := Wire.Read_any w x l hl G hr
  have hget := fun r W h => PGet_any r (.ok l) W h
  obtain ⟨p, c, rfl, _⟩ := hr
  obtain ⟨D, hD⟩ : ∃ D, decP l = D := ⟨_, rfl⟩
  rw [hD]
  unfold decP at hD
  generalize getP (.ok l) = q at hget hD
  obtain ⟨S, ps, y⟩ := q
  simp only at hD
  rw [doneR_eq] at hD
  have HDN := Lib.hid (fun (r : Nat) (W : World) (h : RdAt W r S) => Wire.RDone_any r S W h)
  by_cases hy : y = 0
  · subst hy
    rw [if_pos rfl] at hD
    generalize Wire.rdDone S = f at hD HDN
    by_cases hf : f = 0
    · rw [if_pos hf] at hD
      subst hD
      have tf : ((f : Int) != 0) = false := by rw [hf]; rfl
      clear hf
      go_enter Tryd.func25, Tryd.ntmps25
      go_wp2_with (first
        | (go_at_call 51; (with_reducible refine hread.mono ?_); clear hread; rintro e w1 ⟨⟨r, rfl, hr1, hrd1⟩, hb1⟩)
        | (go_at_call 53; (with_reducible refine (hget _ _ hrd1).mono ?_); clear hget; rintro e w2 ⟨⟨v2, rfl, hown2⟩, hrd2⟩; have hra2 := hrd2.1; obtain ⟨pv, cv, rfl, _⟩ := id (RV.of_own hown2); have hbw2 : Below w.heap.size w w2 := hb1.trans (hrd2.2.below (B := w.heap.size) hb1.size (fun k (hk : k = r) => by omega)))
        | (go_at_call 55; (with_reducible refine (HDN.out _ _ hra2).mono ?_); rintro e w3 ⟨rfl, rfl⟩))
      go_ret2
      exact ⟨_, rfl, own_mono hown2 hb1.size, hbw2⟩
    · rw [if_neg hf] at hD
      subst hD
      have tf : ((f : Int) != 0) = true := by simp; omega
      clear hf
      go_enter Tryd.func25, Tryd.ntmps25
      go_wp2_with (first
        | (go_at_call 51; (with_reducible refine hread.mono ?_); clear hread; rintro e w1 ⟨⟨r, rfl, hr1, hrd1⟩, hb1⟩)
        | (go_at_call 53; (with_reducible refine (hget _ _ hrd1).mono ?_); clear hget; rintro e w2 ⟨⟨v2, rfl, hown2⟩, hrd2⟩; have hra2 := hrd2.1; obtain ⟨pv, cv, rfl, _⟩ := id (RV.of_own hown2); have hbw2 : Below w.heap.size w w2 := hb1.trans (hrd2.2.below (B := w.heap.size) hb1.size (fun k (hk : k = r) => by omega)))
        | (go_at_call 55; (with_reducible refine (HDN.out _ _ hra2).mono ?_); rintro e w3 ⟨rfl, rfl⟩))
      go_ret2
      exact ⟨_, rfl, World.ownsRow_nil _ _ _ _, hbw2⟩
  · rw [if_neg hy] at hD
    subst hD
    have t1 : ((y : Int) == 0) = false := by rw [beq_eq_false_iff_ne]; omega
    have t2 : ((y : Int) != 0) = true := by simp; omega
    clear hy
    go_enter Tryd.func25, Tryd.ntmps25
    go_wp2_with (first
      | (go_at_call 51; (with_reducible refine hread.mono ?_); clear hread; rintro e w1 ⟨⟨r, rfl, hr1, hrd1⟩, hb1⟩)
      | (go_at_call 53; (with_reducible refine (hget _ _ hrd1).mono ?_); clear hget; rintro e w2 ⟨⟨v2, rfl, hown2⟩, hrd2⟩; have hra2 := hrd2.1; obtain ⟨pv, cv, rfl, _⟩ := id (RV.of_own hown2); have hbw2 : Below w.heap.size w w2 := hb1.trans (hrd2.2.below (B := w.heap.size) hb1.size (fun k (hk : k = r) => by omega))))
    go_ret2
    exact ⟨_, rfl, World.ownsRow_nil _ _ _ _, hbw2⟩
end Go.Proofs.YtlgjbcmkhcgigaaDoor

namespace Go.Proofs.YtlgjbcmkhcgigaaDoor
open Go.RowKit
open Wire (RS WrAt RdAt RdOut bV)

theorem RP.foot {w w' : World} {G S : Nat → Prop} {v : Value} {ps : List Deed} (h : RP w G v ps) (hf : Foot S w w') (hd : ∀ k, G k → ¬ S k) : RP w' G v ps := RV.foot h hf hd
theorem byte_step {B b most : Nat} (hm : most ≤ maxLen) (x : UInt8) (l : List UInt8) (hl : l.length ≤ 4900) (hlm : l.length + 1 ≤ most) (v : Value) (W : World) (h : WrAt W B b most v (some l)) :
    Calls Tryd.prog 50 #[.pointer (some ⟨b, 0, none⟩), .int .u8 (x.toNat : Int)] W fun e w' => e = .returned (.tuple #[]) ∧ WrK W w' B b most (l ++ [x]) :=
  (Wire.WByte_any W x (fun l' e => by cases e; omega) hm h).mono fun _ _ hh => ⟨hh.1, wr_keep h hh.2 hlm⟩

set_option maxRecDepth 100000 in
set_option maxHeartbeats 8000000 in
theorem handed_any (p : Option Addr) (c : Nat) (qs : List Deed) (hok : ∀ d ∈ qs, d.ok) (G : Nat → Prop) (w : World) (hG : ∀ k, G k → k < w.heap.size) (h : RP w G (.slice p qs.length c) qs) :
    Calls Tryd.prog 24 #[.slice p qs.length c] w fun e w' => e = .returned (.bool true) ∧ Below w.heap.size w w' := by
  have hnew : ∀ W : World, Calls Tryd.prog 47 #[.int .i64 60000] W fun e w' => e = .returned (.pointer (some ⟨W.heap.size, 0, none⟩)) ∧ WrAt w' W.heap.size W.heap.size 60000 (.slice none 0 0) (some []) ∧ Below W.heap.size W w' := fun W => Wire.New_any 60000 W
  have hM : 60000 ≤ maxLen := by unfold maxLen; omega
  have hrchk := fun W (h : RP W G (.slice p qs.length c) qs) => RCheck_any p c qs G W h
  have HB7 := Lib.hid (fun (b : Nat) (v : Value) (W : World) (h : WrAt W b b 60000 v (some [])) => byte_step (B := b) hM 7 [] (by simp) (by simp) v W h)
  have HGG := Lib.hid hG
  by_cases h0 : checkN qs = 0
  · have hlen := bytesP_len qs hok h0
    have hl256 := (checkN_zero.1 h0).1
    have hgp := getP_bytes qs hok h0 [9]
    rw [h0] at hrchk
    have HPUT := Lib.hid (fun (b : Nat) (v : Value) (W : World) (hb : w.heap.size ≤ b) (hW : WrAt W b b 60000 v (some [7])) (h : RP W G (.slice p qs.length c) qs) => PPut_good p c _ qs rfl hok G (B := b) (fun k hk => Nat.lt_of_lt_of_le (hG k hk) hb) (l := [7]) (by simp) (by simp) hM W h hW h0)
    have HRB := Lib.hid (fun (W : World) (hs : w.heap.size ≤ W.heap.size) (h : RP W G (.slice p qs.length c) qs) => RBytes8_any p c _ qs rfl hok G W (fun k hk => Nat.lt_of_lt_of_le (hG k hk) hs) h h0)
    generalize bytesP qs = T at *
    have HB9 := Lib.hid (fun (b : Nat) (v : Value) (W : World) (h : WrAt W b b 60000 v (some ([7] ++ T))) => byte_step (B := b) hM 9 ([7] ++ T) (by simp; omega) (by simp; omega) v W h)
    have HDN := Lib.hid (fun (b : Nat) (v : Value) (W : World) (h : WrAt W b b 60000 v (some ([7] ++ T ++ [9]))) => Wire.WDone_some W ([7] ++ T ++ [9]) (by simp; omega) h)
    have hLL : ([7] ++ T ++ [9]).length = T.length + 2 := by simp
    have HRD := Lib.hid (fun (x : Value) (G' : Nat → Prop) (W : World) (hr : RV W G' x ([7] ++ T ++ [9]).length 1 (([7] ++ T ++ [9]).map bV)) => Wire.Read_any W x ([7] ++ T ++ [9]) (by simp; omega) G' hr)
    have HF7 := Lib.hid (fun (r : Nat) (W : World) (h : RdAt W r (.ok ([7] ++ T ++ [9]))) => (show Calls Tryd.prog 52 #[.pointer (some ⟨r, 0, none⟩)] W fun e w' => e = .returned (.int .u8 7) ∧ RdOut W w' r (.ok (T ++ [9])) from by
      have := Wire.RByte_any r (.ok ([7] ++ T ++ [9])) W h
      rw [show Wire.rdByte (.ok ([7] ++ T ++ [9])) = (.ok (T ++ [9]), 7) from rfl] at this
      exact this))
    have HGET := Lib.hid (fun (r : Nat) (W : World) (h : RdAt W r (.ok (T ++ [9]))) => (show Calls Tryd.prog 53 #[.pointer (some ⟨r, 0, none⟩)] W fun e w' => GetAt W w' r e (.ok [9], qs, 0) from hgp ▸ PGet_any r (.ok (T ++ [9])) W h))
    have HLF := Lib.hid (fun (r : Nat) (W : World) (h : RdAt W r (.ok [9])) => (show Calls Tryd.prog 54 #[.pointer (some ⟨r, 0, none⟩)] W fun e w' => e = .returned (.int .i64 1) ∧ W = w' from Wire.Left_any r (.ok [9]) W h))
    have HF9 := Lib.hid (fun (r : Nat) (W : World) (h : RdAt W r (.ok [9])) => (show Calls Tryd.prog 52 #[.pointer (some ⟨r, 0, none⟩)] W fun e w' => e = .returned (.int .u8 9) ∧ RdOut W w' r (.ok []) from by
      have := Wire.RByte_any r (.ok [9]) W h
      rw [show Wire.rdByte (.ok [9]) = (.ok [], 9) from rfl] at this
      exact this))
    have HSM : Hid (∀ (p' : Option Addr) (c' : Nat) (W : World), RP W G (.slice p qs.length c) qs → RP W (fun _ => True) (.slice p' qs.length c') qs → Calls Tryd.prog 21 #[.slice p qs.length c, .slice p' qs.length c'] W fun e w' => e = .returned (.bool true) ∧ Below W.heap.size W w') := Lib.hid (fun p' c' W h h' => by
      have := Same_any p p' c c' qs qs (by omega) _ _ W h h'
      rw [(sameP_iff qs qs).2 rfl] at this
      exact this)
    have tl : ((([7] ++ T ++ [9]).length : Int) == (T.length : Int) + 2) = true := by rw [beq_iff_eq, hLL]; omega
    have HP := Lib.hid h
    have hT6 : T.length ≤ 3593 := hlen
    generalize hX : [7] ++ T ++ [9] = X at HDN HRD HF7 tl
    rw [hX] at HB9
    clear h0 h hok hlen hgp hG hM hX hLL
    go_enter Tryd.func24, Tryd.ntmps24
    go_wp2_with (first
      | (go_at_call 47; (with_reducible refine (hnew _).mono ?_); clear hnew; rintro e w1 ⟨rfl, hW1, hb1⟩; have g : Hid (Below w.heap.size w w1) := Lib.hid hb1; replace HP := Lib.hid (HP.out.later hb1))
      | (go_at_call 50; (refine (HB7.out _ _ _ hW1).mono ?_); rintro e w2 ⟨rfl, v2, hW2, hF2⟩; clear hW1; replace HP := Lib.hid (HP.out.sb hF2 (Nat.le_refl _) HGG.out); replace g := Lib.hid (g.out.trans (hF2.below (Nat.le_refl _) g.out.size)); clear hF2)
      | (go_at_call 48; (with_reducible refine (HPUT.out _ _ _ (Nat.le_refl _) hW2 HP.out).mono ?_); rintro e w3 ⟨rfl, v3, hW3, hF3⟩; clear hW2; replace HP := Lib.hid (HP.out.sb hF3 (Nat.le_refl _) HGG.out); replace g := Lib.hid (g.out.trans (hF3.below (Nat.le_refl _) g.out.size)); clear hF3)
      | (go_at_call 50; (refine (HB9.out _ _ _ hW3).mono ?_); rintro e w4 ⟨rfl, v4, hW4, hF4⟩; clear hW3; replace HP := Lib.hid (HP.out.sb hF4 (Nat.le_refl _) HGG.out); replace g := Lib.hid (g.out.trans (hF4.below (Nat.le_refl _) g.out.size)); clear hF4)
      | (go_at_call 49; (with_reducible refine (HDN.out _ _ _ hW4).mono ?_); rintro e w5 ⟨x5, rfl, hown5, hb5⟩; clear hW4; obtain ⟨px, cx, rfl, _⟩ := id (RV.of_own hown5); have HX5 := Lib.hid (RV.of_own hown5); replace HP := Lib.hid (HP.out.later hb5); replace g := Lib.hid (g.out.trans (hb5.mono g.out.size)); clear hown5 hb5)
      | (go_at_call 12; (with_reducible refine (hrchk _ HP.out).mono ?_); clear hrchk; rintro e w6 ⟨rfl, hb6⟩; replace HX5 := Lib.hid (RV.below HX5.out hb6 (fun _ hk _ => hk)); replace HP := Lib.hid (HP.out.later hb6); replace g := Lib.hid (g.out.trans (hb6.mono g.out.size)); clear hb6)
      | (go_at_call 51; (with_reducible refine (HRD.out _ _ _ HX5.out).mono ?_); rintro e w7 ⟨⟨r, rfl, hr7, hrd7⟩, hb7⟩; have hrw : w.heap.size ≤ r := Nat.le_trans g.out.size hr7; replace HP := Lib.hid (HP.out.later hb7); replace g := Lib.hid (g.out.trans (hb7.mono g.out.size)); clear HX5 hb7 hr7)
      | (go_at_call 52; (with_reducible refine (HF7.out _ _ hrd7).mono ?_); rintro e w8 ⟨rfl, hrd8, hf8⟩; clear hrd7; replace HP := Lib.hid (RP.foot HP.out hf8 (fun k hk (e : k = r) => by have := HGG.out k hk; omega)); replace g := Lib.hid (g.out.trans (hf8.below (B := w.heap.size) g.out.size (fun k (hk : k = r) => by omega))); clear hf8)
      | (go_at_call 53; (with_reducible refine (HGET.out _ _ hrd8).mono ?_); rintro e w9 ⟨⟨x9, rfl, hown9⟩, hrd9, hf9⟩; clear hrd8; obtain ⟨p9, c9, rfl, hq9⟩ := rp_own hown9 rfl; have HQ := Lib.hid hq9; replace HP := Lib.hid (RP.foot HP.out hf9 (fun k hk (e : k = r) => by have := HGG.out k hk; omega)); replace g := Lib.hid (g.out.trans (hf9.below (B := w.heap.size) g.out.size (fun k (hk : k = r) => by omega))); clear hf9 hown9 hq9)
      | (go_at_call 26; (with_reducible refine (HRB.out _ g.out.size HP.out).mono ?_); rintro e w10 ⟨x10, rfl, hown10, hb10⟩; obtain ⟨p10, c10, rfl, _⟩ := id (RV.of_own hown10); have hrd10 := hrd9.below hb10 (Nat.le_refl _); replace HQ := Lib.hid (HQ.out.later hb10); replace HP := Lib.hid (HP.out.later hb10); replace g := Lib.hid (g.out.trans (hb10.mono g.out.size)); clear hb10 hown10 hrd9)
      | (go_at_call 21; (with_reducible refine (HSM.out _ _ _ HP.out HQ.out).mono ?_); rintro e w11 ⟨rfl, hb11⟩; have hrd11 := hrd10.below hb11 (Nat.le_refl _); replace g := Lib.hid (g.out.trans (hb11.mono g.out.size)); clear hb11 hrd10)
      | (go_at_call 54; (with_reducible refine (HLF.out _ _ hrd11).mono ?_); rintro e w12 ⟨rfl, rfl⟩)
      | (go_at_call 52; (with_reducible refine (HF9.out _ _ hrd11).mono ?_); rintro e w13 ⟨rfl, hrd13, hf13⟩; replace g := Lib.hid (g.out.trans (hf13.below (B := w.heap.size) g.out.size (fun k (hk : k = r) => by omega)))))
    go_ret
    exact ⟨rfl, g.out⟩
  · have tc : ((checkN qs : Int) != 0) = true := by simp; omega
    have HPUT := Lib.hid (fun (b : Nat) (v : Value) (W : World) (hW : WrAt W b b 60000 v (some [7])) (h : RP W G (.slice p qs.length c) qs) => PPut_bad p c qs hok G W h hW h0)
    have HB9 := Lib.hid (fun (b : Nat) (v : Value) (W : World) (h : WrAt W b b 60000 v (some [7])) => byte_step (B := b) hM 9 [7] (by simp) (by simp) v W h)
    have HDN := Lib.hid (fun (b : Nat) (v : Value) (W : World) (h : WrAt W b b 60000 v (some [7, 9])) => Wire.WDone_some W [7, 9] (by simp) h)
    have HP := Lib.hid h
    clear h0 h hok hG hM
    go_enter Tryd.func24, Tryd.ntmps24
    go_wp2_with (first
      | (go_at_call 47; (with_reducible refine (hnew _).mono ?_); clear hnew; rintro e w1 ⟨rfl, hW1, hb1⟩; have g : Hid (Below w.heap.size w w1) := Lib.hid hb1; replace HP := Lib.hid (HP.out.later hb1))
      | (go_at_call 50; (refine (HB7.out _ _ _ hW1).mono ?_); rintro e w2 ⟨rfl, v2, hW2, hF2⟩; clear hW1; replace HP := Lib.hid (HP.out.sb hF2 (Nat.le_refl _) HGG.out); replace g := Lib.hid (g.out.trans (hF2.below (Nat.le_refl _) g.out.size)); clear hF2)
      | (go_at_call 48; (with_reducible refine (HPUT.out _ _ _ hW2 HP.out).mono ?_); rintro e w3 ⟨rfl, v3, hW3, hF3⟩; clear hW2; replace HP := Lib.hid (HP.out.sb hF3 (Nat.le_refl _) HGG.out); replace g := Lib.hid (g.out.trans (hF3.below (Nat.le_refl _) g.out.size)); clear hF3)
      | (go_at_call 50; (refine (HB9.out _ _ _ hW3).mono ?_); rintro e w4 ⟨rfl, v4, hW4, hF4⟩; clear hW3; replace HP := Lib.hid (HP.out.sb hF4 (Nat.le_refl _) HGG.out); replace g := Lib.hid (g.out.trans (hF4.below (Nat.le_refl _) g.out.size)); clear hF4)
      | (go_at_call 49; (with_reducible refine (HDN.out _ _ _ hW4).mono ?_); rintro e w5 ⟨x5, rfl, hown5, hb5⟩; clear hW4; obtain ⟨px, cx, rfl, _⟩ := id (RV.of_own hown5); replace HP := Lib.hid (HP.out.later hb5); replace g := Lib.hid (g.out.trans (hb5.mono g.out.size)); clear hown5 hb5)
      | (go_at_call 12; (with_reducible refine (hrchk _ HP.out).mono ?_); clear hrchk; rintro e w6 ⟨rfl, hb6⟩; replace g := Lib.hid (g.out.trans (hb6.mono g.out.size)); clear hb6))
    go_ret
    exact ⟨rfl, g.out⟩
end Go.Proofs.YtlgjbcmkhcgigaaDoor
