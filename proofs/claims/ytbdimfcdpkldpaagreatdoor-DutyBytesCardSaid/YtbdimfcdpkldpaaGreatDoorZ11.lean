/- A draft of a duty in memory; the contracts of addHead, addStart and addProg. -/
import Derived.Test.YtbdimfcdpkldpaaGreatDoorZ10
import Derived.Test.YtbdimfcdpkldpaaGreatDoorLY1
namespace Go.Proofs.YtbdimfcdpkldpaaGreatDoor
open Go.RowKit

structure Dr where
  head : List Nat
  progs : List (List Deed)
  starts : List (List Nat)
/-- v is a row of one's own of rows of one's own that read as the numbers xss. -/
def OSS (w : World) (B : Nat) (v : Value) (xss : List (List Nat)) : Prop :=
  ∃ us : List Value, us.length = xss.length ∧ w.ownsRow B 54 1 v xss.length us ∧ ∀ (k : Nat) (u : Value) (xs : List Nat), us[k]? = some u → xss[k]? = some xs → w.ownsRow B 22 1 u xs.length (xs.map uV)
def DrAt (w : World) (B b : Nat) (dr : Dr) : Prop :=
  B ≤ b ∧ ∃ hv pv sv : Value, Blk w b 71 #[hv, pv, sv] ∧ (dr.head = [] → hv = .slice none 0 0) ∧ w.ownsRow B 22 1 hv dr.head.length (dr.head.map uV) ∧ OPP 45 109 w B pv dr.progs ∧ OSS w B sv dr.starts
section
variable {w w' : World} {B : Nat} {v : Value}
theorem OSS.nil (w : World) (B : Nat) : OSS w B (.slice none 0 0) [] := ⟨[], rfl, World.ownsRow_nil w B _ 1, fun k u xs h _ => by simp at h⟩
theorem OSS.below {xss : List (List Nat)} (h : OSS w B v xss) (hb : Below w.heap.size w w') : OSS w' B v xss := by
  obtain ⟨us, hl, ho, he⟩ := h
  exact ⟨us, hl, ownsRow_below ho hb (Nat.le_refl _), fun k u xs hu hx => ownsRow_below (he k u xs hu hx) hb (Nat.le_refl _)⟩
theorem OSS.mono {B' : Nat} {xss : List (List Nat)} (h : OSS w B v xss) (hB : B' ≤ B) : OSS w B' v xss := by
  obtain ⟨us, hl, ho, he⟩ := h
  exact ⟨us, hl, own_mono ho hB, fun k u xs hu hx => own_mono (he k u xs hu hx) hB⟩
/-- Another row's block may turn, of another type. -/
theorem OSS.apart {xss : List (List Nat)} {B' sz n : Nat} {e : TypeId} {u : Value} {cs : List Value} (h : OSS w B v xss) (hu : w.ownsRow B' e sz u n cs) (h1 : 54 ≠ e) (h2 : 22 ≠ e) (hf : Foot (fun k => u.ownBlock = some k) w w') : OSS w' B v xss := by
  obtain ⟨us, hl, ho, he⟩ := h
  exact ⟨us, hl, hf.own ho (own_apart ho hu h1), fun k y xs hy hx => hf.own (he k y xs hy hx) (own_apart (he k y xs hy hx) hu h2)⟩
theorem OSS.far {xss : List (List Nat)} {g : Nat} {t : TypeId} {cs : Array Value} (h : OSS w B v xss) (hg : Blk w g t cs) (h1 : 54 ≠ t) (h2 : 22 ≠ t) (hf : Foot (fun k => k = g) w w') : OSS w' B v xss := by
  obtain ⟨us, hl, ho, he⟩ := h
  exact ⟨us, hl, hf.own ho (fun k hk e => own_ne_blk ho hg h1 (by rw [hk, e])), fun k y xs hy hx => hf.own (he k y xs hy hx) (fun j hj e => own_ne_blk (he k y xs hy hx) hg h2 (by rw [hj, e]))⟩
theorem OSS.push {us : List Value} {xss : List (List Nat)} {xs : List Nat} {v' x : Value} (hl : us.length = xss.length) (ho : w.ownsRow B 54 1 v' (xss.length + 1) (us ++ [x]))
    (he : ∀ (k : Nat) (u : Value) (xs : List Nat), us[k]? = some u → xss[k]? = some xs → w.ownsRow B 22 1 u xs.length (xs.map uV)) (hx : w.ownsRow B 22 1 x xs.length (xs.map uV)) : OSS w B v' (xss ++ [xs]) := by
  refine ⟨us ++ [x], by simp [hl], by simpa using ho, fun k u ys hu hy => ?_⟩
  by_cases hk : k < us.length
  · rw [List.getElem?_append_left hk] at hu
    rw [List.getElem?_append_left (by omega)] at hy
    exact he k u ys hu hy
  · rw [List.getElem?_append_right (by omega)] at hu
    rw [List.getElem?_append_right (by omega), ← hl] at hy
    have h0 : k - us.length = 0 := by
      have := (List.getElem?_eq_some_iff.1 hu).1
      simp at this
      omega
    rw [h0] at hu hy
    simp at hu hy
    subst hu hy
    exact hx
theorem OPP.apart {tS tD : TypeId} {pss : List (List Deed)} {B' sz n : Nat} {e : TypeId} {u : Value} {cs : List Value} (h : OPP tS tD w B v pss) (hu : w.ownsRow B' e sz u n cs) (h1 : tS ≠ e) (h2 : tD ≠ e) (hf : Foot (fun k => u.ownBlock = some k) w w') : OPP tS tD w' B v pss := by
  obtain ⟨us, hl, ho, he, ha⟩ := h
  exact ⟨us, hl, hf.own ho (own_apart ho hu h1), fun k y xs hy hx => hf.own (he k y xs hy hx) (own_apart (he k y xs hy hx) hu h2), ha⟩
theorem OPP.far {tS tD : TypeId} {pss : List (List Deed)} {g : Nat} {t : TypeId} {cs : Array Value} (h : OPP tS tD w B v pss) (hg : Blk w g t cs) (h1 : tS ≠ t) (h2 : tD ≠ t) (hf : Foot (fun k => k = g) w w') : OPP tS tD w' B v pss := by
  obtain ⟨us, hl, ho, he, ha⟩ := h
  exact ⟨us, hl, hf.own ho (fun k hk e => own_ne_blk ho hg h1 (by rw [hk, e])), fun k y xs hy hx => hf.own (he k y xs hy hx) (fun j hj e => own_ne_blk (he k y xs hy hx) hg h2 (by rw [hj, e])), ha⟩
theorem own_far {w w' : World} {B sz n g : Nat} {e t : TypeId} {v : Value} {xs : List Value} {cs : Array Value} (h : w.ownsRow B e sz v n xs) (hg : Blk w g t cs) (h1 : e ≠ t) (hf : Foot (fun k => k = g) w w') : w'.ownsRow B e sz v n xs :=
  hf.own h (fun k hk e => own_ne_blk h hg h1 (by rw [hk, e]))
theorem DrAt.below {b : Nat} {dr : Dr} (h : DrAt w B b dr) (hb : Below w.heap.size w w') : DrAt w' B b dr := by
  obtain ⟨hB, hv, pv, sv, hk, h0, h1, h2, h3⟩ := h
  exact ⟨hB, hv, pv, sv, hk.below hb hk.lt, h0, ownsRow_below h1 hb (Nat.le_refl _), h2.below hb, h3.below hb⟩
end
theorem foot_cell (w : World) (b i : Nat) (u : Value) : Foot (fun k => k = b) w (w.setCell ⟨b, i, none⟩ u) := Foot.setCell (S := fun k => k = b) (Foot.refl _ w) (p := ⟨b, i, none⟩) (.inl rfl) u
theorem own_shape9 {w : World} {B sz n : Nat} {e : TypeId} {v : Value} {xs : List Value} (h : w.ownsRow B e sz v n xs) : ∃ p c, v = .slice p n c := by
  obtain ⟨p, c, hv, _⟩ := RV.of_own h
  exact ⟨p, c, hv⟩
theorem str_is (Z : ByteArray) (z l : List UInt8) (hZ : Z = ⟨z.toArray⟩) (b : Bool) (hb : decide (z = l) = b) : (Z.toList == l) = b := by
  rw [Lib.toList_data, hZ, ← hb, Bool.eq_iff_iff]
  simp
theorem Numbers_at (dI hI : Int) (dec hex : Nat) (e1 : dI = (dec : Int)) (e2 : hI = (hex : Int)) (hdec : dec ≤ 10) (hhex : hex ≤ 10) (ws : List (List UInt8)) (hl : ws.length ≤ 4000) (v : Value) (G : Nat → Prop) (w : World) (hG : ∀ k, G k → k < w.heap.size) (h : RV w G v ws.length 1 (ws.map sV)) :
    Calls Tryz.prog 120 #[v, .int .i64 dI, .int .i64 hI] w fun e w' => ∃ x, e = .returned (.tuple #[x, .int .i64 (codeR (numsR dec hex ws) : Nat)]) ∧ w'.ownsRow w.heap.size 22 1 x ((numsR dec hex ws).getD []).length (((numsR dec hex ws).getD []).map uV) ∧ Below w.heap.size w w' := by
  subst e1 e2
  exact Numbers_any dec hex hdec hhex ws hl v G w hG h
theorem codeR_none {R : Option (List Nat)} (h : ¬ codeR R = 0) : R = none := by cases R with
  | none => rfl
  | some x => exact absurd rfl h

set_option maxRecDepth 100000 in
set_option maxHeartbeats 4000000 in
theorem AddHead_any (B b : Nat) (dr : Dr) (z : List UInt8) (ws : List (List UInt8)) (hwl : ws.length ≤ 3999) (p : Option Addr) (c : Nat) (G : Nat → Prop) (w : World) (hG : ∀ k, G k → k < w.heap.size) (hv : RV w G (.slice p (ws.length + 1) c) (ws.length + 1) 1 ((z :: ws).map sV)) (hB : B ≤ w.heap.size) (h : DrAt w B b dr) :
    Calls Tryz.prog 74 #[.pointer (some ⟨b, 0, none⟩), .slice p (ws.length + 1) c] w fun e w' => e = .returned (.int .i64 ((if z = dutyW then codeR (numsR 5 2 ws) else 15 : Nat) : Int)) ∧ Below B w w' ∧ (z = dutyW → ∀ xs, numsR 5 2 ws = some xs → xs ≠ [] → DrAt w' B b { dr with head := xs }) := by
  obtain ⟨bw, off, rfl, _, _, hcell⟩ := hv.at1 0 (sV z) rfl
  rw [Nat.add_zero] at hcell
  unfold sV at hcell
  obtain ⟨Z, hZ⟩ : ∃ Z : ByteArray, Z = ⟨z.toArray⟩ := ⟨_, rfl⟩
  rw [← hZ] at hcell
  have hcl : ws.length + 1 ≤ c := by
    obtain ⟨_, _, hvv, h1, _⟩ := hv
    cases hvv
    exact h1
  have htl := rv_tail hv
  cases hz : decide (z = dutyW)
  case false =>
    have hz2 := of_decide_eq_false hz
    have tz := str_is Z z dutyW hZ false hz
    rw [if_neg hz2]
    unfold dutyW at tz
    clear hZ hz htl hv
    go_enter Tryz.func74, Tryz.ntmps74
    go_wp2
    go_ret
    exact ⟨rfl, Below.refl _ _, fun h => absurd h hz2⟩
  case true =>
    have hz2 := of_decide_eq_true hz
    have tz := str_is Z z dutyW hZ true hz
    rw [if_pos hz2]
    unfold dutyW at tz
    have hnm := Numbers_at 5 2 5 2 rfl rfl (by decide) (by decide) ws (by omega) _ G w hG htl
    obtain ⟨hBb, ov, pv, sv, hk, h0, h1, h2, h3⟩ := h
    have HZ2 := Lib.hid hz2
    clear hZ hz htl hv hz2
    have hbl := hk.lt
    go_enter Tryz.func74, Tryz.ntmps74
    go_wp2_with (first
      | (go_at_call 120; (with_reducible refine hnm.mono ?_); clear hnm; rintro e w1 ⟨x, rfl, hx, hb1⟩; obtain ⟨xp, xc, rfl⟩ := own_shape9 hx; have hk1 := hk.below hb1 hk.lt; have hf1 := hk1.frozen 0; have hc1 : w1.cell? ⟨b, 0, none⟩ = some ov := hk1.cell 0))
    all_goals
      go_ret
      have hfs := foot_cell w1 b 0 (.slice xp ((numsR 5 2 ws).getD []).length xc)
      refine ⟨rfl, ?_, fun _ xs hxs hne => ?_⟩
      · exact (hb1.mono hB).trans (hfs.below (Nat.le_trans hB hb1.size) (fun k hk => by omega))
      · rw [hxs] at hx ⊢
        refine ⟨hBb, _, pv, sv, hk1.set 0 _, fun e => absurd e hne, ?_, ?_, ?_⟩
        · exact own_far (own_mono hx hB) hk1 (by decide) (foot_cell w1 b 0 _)
        · exact (h2.below hb1).far hk1 (by decide) (by decide) (foot_cell w1 b 0 _)
        · exact (h3.below hb1).far hk1 (by decide) (by decide) (foot_cell w1 b 0 _)

set_option maxRecDepth 100000 in
set_option maxHeartbeats 4000000 in
theorem AddStart_any (B b : Nat) (dr : Dr) (hsm : dr.starts.length ≤ 20000) (z : List UInt8) (ws : List (List UInt8)) (hwl : ws.length ≤ 3999) (p : Option Addr) (c : Nat) (G : Nat → Prop) (w : World) (hG : ∀ k, G k → k < w.heap.size) (hv : RV w G (.slice p (ws.length + 1) c) (ws.length + 1) 1 ((z :: ws).map sV)) (hB : B ≤ w.heap.size) (h : DrAt w B b dr) :
    Calls Tryz.prog 75 #[.pointer (some ⟨b, 0, none⟩), .slice p (ws.length + 1) c] w fun e w' => e = .returned (.int .i64 ((codeR (numsR 2 1 ws) : Nat) : Int)) ∧ Below B w w' ∧ (∀ xs, numsR 2 1 ws = some xs → DrAt w' B b { dr with starts := dr.starts ++ [xs] }) := by
  obtain ⟨i0, hi, hz0, hz1, hz2⟩ := info_parts (show (Tryz.prog.info? 54).map (fun i => (i.zero, i.size, i.bytes)) = some (some (.slice none 0 0), 1, 24) by kernel_rfl)
  obtain ⟨bw, off, rfl, _, _, _⟩ := hv.at1 0 (sV z) rfl
  have hcl : ws.length + 1 ≤ c := by
    obtain ⟨_, _, hvv, h1, _⟩ := hv
    cases hvv
    exact h1
  have htl := rv_tail hv
  have hnm := Numbers_at 2 1 2 1 rfl rfl (by decide) (by decide) ws (by omega) _ G w hG htl
  obtain ⟨hBb, ov, pv, sv, hk, h0, h1, h2, us, hl3, ho3, he3⟩ := h
  clear htl hv
  have hbl := hk.lt
  obtain ⟨sp, sc, rfl⟩ := own_shape9 ho3
  have hne : ∀ k, (Value.slice sp dr.starts.length sc).ownBlock = some k → ¬ k = b := fun k hq e => own_ne_blk ho3 hk (by decide) (by rw [hq, e])
  go_enter Tryz.func75, Tryz.ntmps75
  go_wp2_with (first
    | (go_at_call 120; (with_reducible refine hnm.mono ?_); clear hnm; rintro e w1 ⟨x, rfl, hx, hb1⟩; obtain ⟨xp, xc, rfl⟩ := own_shape9 hx; have hk1 := hk.below hb1 hk.lt; have hc2 : w1.cell? ⟨b, 2, none⟩ = some (.slice sp dr.starts.length sc) := hk1.cell 2; have ho4 := ownsRow_below ho3 hb1 (Nat.le_refl _); have hsz := hb1.size)
    | (at_builtin; refine wpList_append_lits rfl _ _ 69 rfl B 54 i0 (.slice none 0 0) 24 Tryz.underlying69 hi hz0 hz1 hz2 rfl (by decide) ho4 rfl _ rfl rfl rfl (by omega) (by omega) ?_; intro v' w2 ho5 hb2 _ hf2; obtain ⟨vp, vc, rfl⟩ := own_shape9 ho5; have hk2 := hk1.foot hf2 (fun e => hne b e rfl); have hfr := hk2.frozen 2; have hc3 : w2.cell? ⟨b, 2, none⟩ = some (.slice sp dr.starts.length sc) := hk2.cell 2))
  all_goals
    go_ret
    have hfs := foot_cell w2 b 2 (.slice vp (dr.starts.length + 1) vc)
    refine ⟨rfl, ?_, fun xs hxs => ?_⟩
    · exact ((hb1.mono hB).trans hb2).trans (hfs.below (Nat.le_trans (Nat.le_trans hB hb1.size) hb2.size) (fun k hk => by omega))
    · rw [hxs] at hx ho5
      have hx2 := hf2.own hx (own_apart hx ho4 (by decide))
      refine ⟨hBb, ov, pv, _, hk2.set 2 _, h0, ?_, ?_, ?_⟩
      · have q1 := ownsRow_below h1 hb1 (Nat.le_refl _)
        exact own_far (hf2.own q1 (own_apart q1 ho4 (by decide))) hk2 (by decide) hfs
      · exact ((h2.below hb1).apart ho4 (by decide) (by decide) hf2).far hk2 (by decide) (by decide) hfs
      · refine OSS.far (t := 71) (OSS.push (w := w2) hl3 ho5 (fun k u ys hu hy => ?_) (own_mono hx2 hB)) hk2 (by decide) (by decide) hfs
        have q1 := ownsRow_below (he3 k u ys hu hy) hb1 (Nat.le_refl _)
        exact hf2.own q1 (own_apart q1 ho4 (by decide))

set_option maxRecDepth 100000 in
set_option maxHeartbeats 4000000 in
theorem AddProg_any (B b : Nat) (dr : Dr) (hsm : dr.progs.length ≤ 20000) (_z : List UInt8) (ws : List (List UInt8)) (p : Option Addr) (c : Nat) (w : World) (hB : B ≤ w.heap.size) (h : DrAt w B b dr) :
    Calls Tryz.prog 76 #[.pointer (some ⟨b, 0, none⟩), .slice p (ws.length + 1) c] w fun e w' => e = .returned (.int .i64 ((if dr.starts ≠ [] then 15 else if ws = [] then 0 else 3 : Nat) : Int)) ∧ Below B w w' ∧ (dr.starts = [] → ws = [] → DrAt w' B b { dr with progs := dr.progs ++ [[]] }) := by
  obtain ⟨i0, hi, hz0, hz1, hz2⟩ := info_parts (show (Tryz.prog.info? 45).map (fun i => (i.zero, i.size, i.bytes)) = some (some (.slice none 0 0), 1, 24) by kernel_rfl)
  obtain ⟨hBb, ov, pv, sv, hk, h0, h1, h2, h3⟩ := h
  have hbl := hk.lt
  obtain ⟨us, hl2, ho2, hmk⟩ := h2.outer (by decide)
  obtain ⟨sp, sc, rfl⟩ : ∃ p c, sv = .slice p dr.starts.length c := by
    obtain ⟨us, _, ho, _⟩ := h3
    exact own_shape9 ho
  obtain ⟨pp, pc, rfl⟩ := own_shape9 ho2
  have c1 : w.cell? ⟨b, 1, none⟩ = some (.slice pp dr.progs.length pc) := hk.cell 1
  have c2 : w.cell? ⟨b, 2, none⟩ = some (.slice sp dr.starts.length sc) := hk.cell 2
  have hne : ∀ k, (Value.slice pp dr.progs.length pc).ownBlock = some k → ¬ k = b := fun k hq e => own_ne_blk ho2 hk (by decide) (by rw [hq, e])
  by_cases hs : dr.starts = []
  · have t0 : decide (0 < dr.starts.length) = false := by simp [hs]
    rw [if_neg (by simp [hs])]
    by_cases hw : ws = []
    · have t1 : decide (0 < ws.length) = false := by simp [hw]
      have t2 : ¬ (1 : Int) < (ws.length : Int) + 1 := by rw [hw]; decide
      rw [if_pos hw]
      have HS := Lib.hid hs
      have HW := Lib.hid hw
      clear hs hw
      go_enter Tryz.func76, Tryz.ntmps76
      go_wp2_with (first
        | (at_builtin; refine wpList_append_lits rfl _ _ 24 rfl B 45 i0 (.slice none 0 0) 24 Tryz.underlying24 hi hz0 hz1 hz2 rfl (by decide) ho2 rfl _ rfl rfl rfl (by omega) (by omega) ?_; intro v' w2 ho5 hb2 _ hf2; obtain ⟨vp, vc, rfl⟩ := own_shape9 ho5; have hk2 := hk.foot hf2 (fun e => hne b e rfl); have hfr := hk2.frozen 1; have hc3 : w2.cell? ⟨b, 1, none⟩ = some (.slice pp dr.progs.length pc) := hk2.cell 1))
      go_ret
      have hfs := foot_cell w2 b 1 (.slice vp (dr.progs.length + 1) vc)
      refine ⟨rfl, ?_, fun _ _ => ?_⟩
      · exact hb2.trans (hfs.below (Nat.le_trans hB hb2.size) (fun k hk => by omega))
      · refine ⟨hBb, ov, _, _, hk2.set 1 _, h0, ?_, ?_, ?_⟩
        · exact own_far (hf2.own h1 (own_apart h1 ho2 (by decide))) hk2 (by decide) hfs
        · refine OPP.far (t := 71) (hmk _ (.slice none 0 0) [] w2 ho5 hf2 (World.ownsRow_nil _ _ _ _) (fun k hk => by simp [Value.ownBlock] at hk)) hk2 (by decide) (by decide) hfs
        · exact (h3.apart ho2 (by decide) (by decide) hf2).far hk2 (by decide) (by decide) hfs
    · have t1 : decide (0 < ws.length) = true := by
        have := List.length_pos_iff.2 hw
        simpa using this
      have t2 : (1 : Int) < (ws.length : Int) + 1 := by
        have := List.length_pos_iff.2 hw
        omega
      rw [if_neg hw]
      have HS := Lib.hid hs
      have HW := Lib.hid hw
      clear hmk h2 h3 hs hw
      go_enter Tryz.func76, Tryz.ntmps76
      go_wp2
      go_ret
      exact ⟨rfl, Below.refl _ _, fun _ e => absurd e HW.out⟩
  · have t0 : decide (0 < dr.starts.length) = true := by
      have := List.length_pos_iff.2 hs
      simpa using this
    rw [if_pos hs]
    have HS := Lib.hid hs
    clear hmk h2 h3 hs
    go_enter Tryz.func76, Tryz.ntmps76
    go_wp2
    go_ret
    exact ⟨rfl, Below.refl _ _, fun e => absurd e HS.out⟩
end Go.Proofs.YtbdimfcdpkldpaaGreatDoor
