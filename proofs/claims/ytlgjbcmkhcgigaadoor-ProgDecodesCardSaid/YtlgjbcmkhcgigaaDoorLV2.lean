/- The contracts of the reference's Get and Decode. The contracts of the reference's Done and Decode. -/
import Derived.Test.YtlgjbcmkhcgigaaDoorLV1
import Derived.Test.YtlgjbcmkhcgigaaDoorLD8
namespace Go.Proofs.YtlgjbcmkhcgigaaDoor
open Go.RowKit
open Wire (RS rdNum RsV GetOut bV)

theorem rs_code {w : World} {G : Nat → Prop} {p : Option Addr} {n c : Nat} {y : Int} {st : RS} (h : RsV w G (.agg #[.slice p n c, .int .i64 y]) st) : y = (st.code : Int) := by
  cases st with
  | ok l =>
    obtain ⟨⟨sl, hv, _⟩, _⟩ := h
    simp at hv
    exact hv.2
  | err e =>
    have hv := h.1
    simp at hv
    exact hv.2
theorem bump {w w' : World} {g : Nat} {cs : Array Value} {t : TypeId} (h : Blk w g t cs) (hb : Below w.heap.size w w') : Blk w' g t cs := h.below hb h.lt

/-- What holds between the reference's state and what Get answers in the end. -/
def Mid (R : RS × List Deed × Nat) (n : Nat) (acc : List Deed) (S : RS) : Prop :=
  (S.code = 0 → getN n acc S = R) ∧ (¬ S.code = 0 → R.2.1 = [] ∧ S = .err R.2.2)
theorem mid_step {R : RS × List Deed × Nat} {n : Nat} {acc : List Deed} {S : RS} (h : Mid R (n + 1) acc S) (h0 : S.code = 0) (hcode : (getD S).2.2 = (outS (getD S).2.2 (getD S).1).code) : Mid R n (acc ++ [(getD S).2.1]) (outS (getD S).2.2 (getD S).1) := by
  have hx := h.1 h0
  by_cases hy : (getD S).2.2 = 0
  · have hs := getN_step hx hy
    have e : outS (getD S).2.2 (getD S).1 = (getD S).1 := by unfold outS; rw [if_pos hy]
    rw [e] at hcode ⊢
    exact ⟨fun _ => hs, fun k => absurd (hcode.symm.trans hy) k⟩
  · have hs := getN_stop hx hy
    have e : outS (getD S).2.2 (getD S).1 = .err (getD S).2.2 := by unfold outS; rw [if_neg hy]
    rw [e]
    refine ⟨fun k => absurd k hy, fun _ => ?_⟩
    rw [hs]
    exact ⟨rfl, rfl⟩

set_option maxRecDepth 100000 in
set_option maxHeartbeats 8000000 in
theorem RPGet_any (p : Option Addr) (n0 c : Nat) (y0 : Int) (st : RS) (G : Nat → Prop) (w : World) (hG : ∀ k, G k → k < w.heap.size) (h : RsV w G (.agg #[.slice p n0 c, .int .i64 y0]) st) :
    Calls Tryd.prog 58 #[.agg #[.slice p n0 c, .int .i64 y0]] w fun e w' => (∃ p n c v, e = .returned (.tuple #[.agg #[.slice p n c, .int .i64 ((outS (getP st).2.2 (getP st).1).code : Int)], v]) ∧ RsV w' G (.agg #[.slice p n c, .int .i64 ((outS (getP st).2.2 (getP st).1).code : Int)]) (outS (getP st).2.2 (getP st).1) ∧ w'.ownsRow w.heap.size 45 7 v (getP st).2.1.length ((getP st).2.1.flatMap dCells)) ∧ Below w.heap.size w w' := by
  have g1 : Blk ((w.alloc (.cells #[.slice p n0 c, .int .i64 y0] 85)).alloc (.cells #[.slice none 0 0, .int .i64 0] 85)) w.heap.size 85 #[.slice p n0 c, .int .i64 y0] := (Blk.new w _ _).alloc _
  have g2 : Blk ((w.alloc (.cells #[.slice p n0 c, .int .i64 y0] 85)).alloc (.cells #[.slice none 0 0, .int .i64 0] 85)) (w.heap.size + 1) 85 #[.slice none 0 0, .int .i64 0] := two_new w _ _ _
  have hbb : Below w.heap.size w ((w.alloc (.cells #[.slice p n0 c, .int .i64 y0] 85)).alloc (.cells #[.slice none 0 0, .int .i64 0] 85)) := below_alloc2 w _ _
  have hget := Wire.GetNum_any _ st G _ (fun k hk => Nat.lt_of_lt_of_le (hG k hk) hbb.size) (h.later hbb)
  obtain ⟨R, hR⟩ : ∃ R, getP st = R := ⟨_, rfl⟩
  rw [hR]
  unfold getP at hR
  generalize rdNum st = q at hget hR
  obtain ⟨S1, n⟩ := q
  simp only at hget hR
  have HGG := Lib.hid hG
  have hk1 : n ≤ 256 ∨ 256 < n := by omega
  clear h
  by_cases hlong : S1.code = 0 ∧ 256 < n
  · obtain ⟨hc, hn⟩ := hlong
    rw [if_pos hc, if_pos hn] at hR
    subst hR
    have tn : decide ((n : Int) > 256) = true := by simp; omega
    have HC := Lib.hid hc
    clear hc hn hk1 hG
    go_enter Tryd.func58, Tryd.ntmps58
    go_wp2_with (first
      | (refine wpList_box_agg rfl 85 _ rfl #[.slice p n0 c, .int .i64 y0] rfl ?_)
      | (refine wpList_alloc_agg rfl 85 rfl #[.slice none 0 0, .int .i64 0] zeroRd ?_)
      | (refine wpList_load_row rfl 85 _ rfl w.heap.size rfl 85 _ (0, 0) _ g1 Tryd.underlying85 rfl (sizeRd _ _) ?_)
      | (go_at_call 95; (with_reducible refine hget.mono ?_); clear hget; rintro e w1 ⟨⟨v1, rfl, hv1⟩, hb1⟩; obtain ⟨p1, n1, c1, rfl⟩ := hv1.shape; have x1 := bump g1 hb1; have x2 := bump g2 hb1; have hbw1 := below_pre hbb hb1)
      | (refine wpList_store_row rfl 85 _ _ rfl w.heap.size #[.slice p1 n1 c1, .int .i64 (S1.code : Int)] rfl rfl 85 _ x1 (sizeRd _ _) rfl (oneRd _ trivial) ?_; have z2 := x2.foot (foot_setRow w1 w.heap.size #[.slice p1 n1 c1, .int .i64 (S1.code : Int)]) (by omega); have zc : (w1.setRow w.heap.size #[.slice p1 n1 c1, .int .i64 (S1.code : Int)]).cell? ⟨w.heap.size, 1, none⟩ = some (.int .i64 0) := (by have := (x1.row #[.slice p1 n1 c1, .int .i64 (S1.code : Int)]).cell 1; rw [HC.out] at this ⊢; exact this); have hbw2 := hbw1.trans (foot_row (w := w1) (B := w.heap.size) #[.slice p1 n1 c1, .int .i64 (S1.code : Int)] (Nat.le_refl _)))
      | (refine wpList_store_row rfl 85 _ _ rfl (w.heap.size + 1) #[.slice none 0 0, .int .i64 4] rfl rfl 85 _ z2 (sizeRd _ _) rfl (oneRd _ trivial) ?_; have u2 := z2.row #[.slice none 0 0, .int .i64 4]))
    refine bodyPost_ret (results_row_tmp rfl _ _ (w.heap.size + 1) 85 #[.slice none 0 0, .int .i64 4] (0, 0) _ rfl u2 Tryd.underlying85 rfl (sizeRd _ _)) rfl ?_
    exact ⟨⟨_, _, _, _, rfl, Wire.RsV.nil (e := 4) (by decide), World.ownsRow_nil _ _ _ _⟩, hbw2.trans (foot_row _ (by omega))⟩
  · have hM : Mid R (n - 0) [] S1 ∧ (S1.code = 0 → n ≤ 256) := by
      refine ⟨⟨fun hc => ?_, fun hc => ?_⟩, fun hc => by omega⟩
      · rw [if_pos hc, if_neg (by omega)] at hR
        exact hR
      · rw [if_neg hc] at hR
        subst hR
        refine ⟨rfl, ?_⟩
        cases S1 with
        | ok l => exact absurd rfl hc
        | err e => rfl
    have HM := Lib.hid hM.1
    have HN := Lib.hid hM.2
    have hcase : (S1.code = 0 ∧ decide ((n : Int) > 256) = false) ∨ ¬ S1.code = 0 := by
      by_cases hc : S1.code = 0
      · exact .inl ⟨hc, by simp; omega⟩
      · exact .inr hc
    have hte : ((S1.code : Int) == 0) = true ∧ decide ((n : Int) > 256) = false ∨ ((S1.code : Int) == 0) = false := by
      rcases hcase with ⟨a, b⟩ | a
      · exact .inl ⟨by rw [a]; rfl, b⟩
      · exact .inr (by rw [beq_eq_false_iff_ne]; omega)
    have hn64 : n < 4611686018427387904 ∨ True := .inr trivial
    clear hM hcase hR hlong hk1 hn64
    rcases hte with ⟨te, tn⟩ | te
    all_goals
      go_enter Tryd.func58, Tryd.ntmps58
      go_wp2_with (first
        | (refine wpList_box_agg rfl 85 _ rfl #[.slice p n0 c, .int .i64 y0] rfl ?_)
        | (refine wpList_alloc_agg rfl 85 rfl #[.slice none 0 0, .int .i64 0] zeroRd ?_)
        | (refine wpList_load_row rfl 85 _ rfl w.heap.size rfl 85 _ (0, 0) _ g1 Tryd.underlying85 rfl (sizeRd _ _) ?_)
        | (go_at_call 95; (with_reducible refine hget.mono ?_); clear hget; rintro e w1 ⟨⟨v1, rfl, hv1⟩, hb1⟩; obtain ⟨p1, n1, c1, rfl⟩ := hv1.shape; have x1 := bump g1 hb1; have x2 := bump g2 hb1; have hbw1 := below_pre hbb hb1)
        | (refine wpList_store_row rfl 85 _ _ rfl w.heap.size #[.slice p1 n1 c1, .int .i64 (S1.code : Int)] rfl rfl 85 _ x1 (sizeRd _ _) rfl (oneRd _ trivial) ?_; have z1 := x1.row #[.slice p1 n1 c1, .int .i64 (S1.code : Int)]; have z2 := x2.foot (foot_setRow w1 w.heap.size #[.slice p1 n1 c1, .int .i64 (S1.code : Int)]) (by omega); have zc : (w1.setRow w.heap.size #[.slice p1 n1 c1, .int .i64 (S1.code : Int)]).cell? ⟨w.heap.size, 1, none⟩ = some (.int .i64 (S1.code : Int)) := z1.cell 1; have hbw2 := hbw1.trans (foot_row (w := w1) (B := w.heap.size) #[.slice p1 n1 c1, .int .i64 (S1.code : Int)] (Nat.le_refl _))))
      have HV1 := Lib.hid (Wire.RsV.back hv1 hbb HGG.out)
      clear hv1 zc x1 x2 g1 g2 te
      go_loopw [5, 6] (fun v t wr => ∃ (k : Nat) (acc : List Deed) (S : RS) (pk : Option Addr) (nk ck : Nat), k ≤ n ∧ k ≤ 256 ∧ t = .int .u64 (k : Int) ∧ acc.length = k ∧ Hid (Mid R (n - k) acc S) ∧ wr.ownsRow w.heap.size 45 7 v k (acc.flatMap dCells) ∧ Hid (RsV w G (.agg #[.slice pk nk ck, .int .i64 (S.code : Int)]) S) ∧ Hid (S.code = 0 → n ≤ 256) ∧ Blk wr w.heap.size 85 #[.slice pk nk ck, .int .i64 (S.code : Int)] ∧ Blk wr (w.heap.size + 1) 85 #[.slice none 0 0, .int .i64 0] ∧ Below w.heap.size w wr) (fun _ t _ => n - (intOf t).toNat)
      case atStart => exact ⟨0, [], S1, p1, n1, c1, by omega, by omega, rfl, rfl, HM, World.ownsRow_nil _ _ _ _, HV1, HN, z1, z2, hbw2⟩
      case round =>
        clear HM HV1 HN z1 z2 hbw1 hbw2
        obtain ⟨k, acc, S, pk, nk, ck, hk, hk6, rfl, hal, hX, hown, hv, hN6, b1, b2, hb⟩ := hrel
        by_cases hz : S.code = 0
        · have tz : ((S.code : Int) == 0) = true := by rw [hz]; rfl
          have tz2 : ((S.code : Int) != 0) = false := by rw [hz]; rfl
          have hn6 := hN6.out hz
          have hc1 : wr.cell? ⟨w.heap.size, 1, none⟩ = some (.int .i64 (S.code : Int)) := b1.cell 1
          by_cases hlt : k < n
          · have hx := hX.out
            rw [show n - k = n - (k + 1) + 1 by omega] at hx
            have hst := mid_step hx hz
            have hrg := RGet_any pk nk ck (S.code : Int) S G wr (fun j hj => Nat.lt_of_lt_of_le (HGG.out j hj) hb.size) (hv.out.later hb)
            generalize getD S = q at hst hrg
            obtain ⟨S2, D, y⟩ := q
            simp only at hst hrg
            have HST := Lib.hid hst
            have HZ := Lib.hid hz
            clear hx hX hst hz
            go_wp2_with (first
              | (refine wpList_load_row rfl 85 _ rfl w.heap.size rfl 85 _ (0, 0) _ b1 Tryd.underlying85 rfl (sizeRd _ _) ?_)
              | (go_at_call 96; (with_reducible refine hrg.mono ?_); clear hrg; rintro e w4 ⟨⟨p4, n4, c4, rfl, hv4⟩, hb4⟩; have hbw4 := below_pre hb hb4; have k1 : Blk ((w4.alloc (.cells #[.slice none 0 0, .int .i64 0] 85)).alloc (.cells zeroD.cells 45)) w4.heap.size 85 #[.slice none 0 0, .int .i64 0] := (Blk.new w4 _ _).alloc _; have k2 : Blk ((w4.alloc (.cells #[.slice none 0 0, .int .i64 0] 85)).alloc (.cells zeroD.cells 45)) (w4.heap.size + 1) 45 zeroD.cells := two_new w4 _ _ _)
              | (refine wpList_alloc_agg rfl 45 rfl zeroD.cells zeroR ?_)
              | (refine wpList_alloc_agg rfl 85 rfl #[.slice none 0 0, .int .i64 0] zeroRd ?_)
              | (refine wpList_store_row rfl 85 _ _ rfl w4.heap.size #[.slice p4 n4 c4, .int .i64 (y : Int)] rfl rfl 85 _ k1 (sizeRd _ _) rfl (oneRd _ trivial) ?_; have k3 := k1.row #[.slice p4 n4 c4, .int .i64 (y : Int)]; have k4 := k2.foot (foot_setRow ((w4.alloc (.cells #[.slice none 0 0, .int .i64 0] 85)).alloc (.cells zeroD.cells 45)) w4.heap.size #[.slice p4 n4 c4, .int .i64 (y : Int)]) (by omega); have k5 : Blk (((w4.alloc (.cells #[.slice none 0 0, .int .i64 0] 85)).alloc (.cells zeroD.cells 45)).setRow w4.heap.size #[.slice p4 n4 c4, .int .i64 (y : Int)]) (w4.alloc (.cells #[.slice none 0 0, .int .i64 0] 85)).heap.size 45 zeroD.cells := (by rw [show (w4.alloc (.cells #[.slice none 0 0, .int .i64 0] 85)).heap.size = w4.heap.size + 1 by simp]; exact k4))
              | (refine wpList_store_row rfl 45 _ _ rfl (w4.alloc (.cells #[.slice none 0 0, .int .i64 0] 85)).heap.size D.cells rfl rfl 45 _ k5 (sizeD _) rfl (oneD _) ?_; rw [show (w4.alloc (.cells #[.slice none 0 0, .int .i64 0] 85)).heap.size = w4.heap.size + 1 by simp]; have m1 := k3.foot (foot_setRow _ (w4.heap.size + 1) D.cells) (by omega); have m2 := k4.row D.cells; have hb5 : Below w4.heap.size w4 ((((w4.alloc (.cells #[.slice none 0 0, .int .i64 0] 85)).alloc (.cells zeroD.cells 45)).setRow w4.heap.size #[.slice p4 n4 c4, .int .i64 (y : Int)]).setRow (w4.heap.size + 1) D.cells) := ((below_alloc2 w4 _ _).trans (foot_row _ (Nat.le_refl _))).trans (foot_row _ (by omega)); clear k1 k2 k3 k4 k5; generalize ((((w4.alloc (.cells #[.slice none 0 0, .int .i64 0] 85)).alloc (.cells zeroD.cells 45)).setRow w4.heap.size #[.slice p4 n4 c4, .int .i64 (y : Int)]).setRow (w4.heap.size + 1) D.cells) = w5 at m1 m2 hb5 ⊢; have z1 := bump (bump b1 hb4) hb5; have z2 := bump (bump b2 hb4) hb5; have hown5 := ownsRow_below (ownsRow_below hown hb4 (Nat.le_refl _)) hb5 (Nat.le_refl _); have hbw5 := below_pre hbw4 hb5)
              | (refine wpList_load_row rfl 85 _ rfl w4.heap.size rfl 85 _ (0, 0) _ m1 Tryd.underlying85 rfl (sizeRd _ _) ?_)
              | (refine wpList_store_row rfl 85 _ _ rfl w.heap.size #[.slice p4 n4 c4, .int .i64 (y : Int)] rfl rfl 85 _ z1 (sizeRd _ _) rfl (oneRd _ trivial) ?_; have hf6 := foot_setRow w5 w.heap.size #[.slice p4 n4 c4, .int .i64 (y : Int)]; have y1 := z1.row #[.slice p4 n4 c4, .int .i64 (y : Int)]; have y2 := z2.foot hf6 (by omega); have m6 := m2.foot hf6 (by have := hbw4.size; omega); have hown6 := hf6.own hown5 (fun j hj (e : j = w.heap.size) => own_ne_blk hown5 z1 (by decide) (by rw [hj, e])); have hbw6 := hbw5.trans (foot_row (w := w5) (B := w.heap.size) #[.slice p4 n4 c4, .int .i64 (y : Int)] (Nat.le_refl _)); clear m1 z1 z2 hown5 hf6; generalize w5.setRow w.heap.size #[.slice p4 n4 c4, .int .i64 (y : Int)] = w6 at y1 y2 m6 hown6 hbw6 ⊢)
              | (refine wpList_load_row rfl 45 _ rfl (w4.heap.size + 1) rfl 45 _ (0, 0) _ m6 Tryd.underlying45 rfl (sizeD _) ?_)
              | (refine wpList_lit_deed rfl _ rfl D rfl ?_)
              | (at_builtin; refine wpList_append_deed rfl _ _ rfl w.heap.size hown6 rfl rfl D 45 (by omega) hbw6.size ?_; intro v' w7 hown7 hb7 hf7))
            have q1 := y1.foot hf7 (fun e => own_ne_blk hown6 y1 (by decide) e)
            have q2 := y2.foot hf7 (fun e => own_ne_blk hown6 y2 (by decide) e)
            have hbw7 := hbw6.trans hb7
            have hcd := rs_code hv4
            have hcd2 : y = (outS y S2).code := by omega
            have HV4 := Lib.hid (Wire.RsV.back (Wire.RsV.back hv4 hb4 (fun j hj => Nat.lt_of_lt_of_le (HGG.out j hj) hb.size)) hb HGG.out)
            have HMM := Lib.hid (HST.out hcd2)
            rw [hcd] at HV4 q1
            clear hcd hcd2
            go_roundw
            case rel => exact ⟨k + 1, acc ++ [D], outS y S2, p4, n4, c4, by omega, by omega, by go_num, by simp [hal], HMM, hown7, HV4, Lib.hid (fun _ => hn6), q1, q2, hbw7⟩
            case measure => simp [intOf]; omega
          · obtain rfl : k = n := by omega
            have hx := hX.out.1 hz
            rw [Nat.sub_self, getN] at hx
            have HX : Hid (R = (S, acc, 0)) := Lib.hid hx.symm
            have HZ := Lib.hid hz
            have HV := Lib.hid (fun W (hbW : Below w.heap.size w W) => hv.out.later hbW)
            obtain ⟨pv, cv, rfl, _⟩ := id (RV.of_own hown)
            clear hX hx hz
            go_wp2_with (first
              | (refine wpList_load_row rfl 85 _ rfl w.heap.size rfl 85 _ (0, 0) _ b1 Tryd.underlying85 rfl (sizeRd _ _) ?_)
              | (refine wpList_store_row rfl 85 _ _ rfl (w.heap.size + 1) #[.slice pk nk ck, .int .i64 (S.code : Int)] rfl rfl 85 _ b2 (sizeRd _ _) rfl (oneRd _ trivial) ?_; have u2 := b2.row #[.slice pk nk ck, .int .i64 (S.code : Int)]; have hf6 := foot_setRow wr (w.heap.size + 1) #[.slice pk nk ck, .int .i64 (S.code : Int)]; have hown6 := hf6.own hown (fun j hj (e : j = w.heap.size + 1) => own_ne_blk hown b2 (by decide) (by rw [hj, e])); have hbw6 := hb.trans (foot_row (w := wr) (B := w.heap.size) (r := w.heap.size + 1) #[.slice pk nk ck, .int .i64 (S.code : Int)] (by omega))))
            refine bodyPost_ret (results_row_tmp rfl _ _ (w.heap.size + 1) 85 #[.slice pk nk ck, .int .i64 (S.code : Int)] (0, 0) _ rfl u2 Tryd.underlying85 rfl (sizeRd _ _)) rfl ?_
            rw [HX.out]
            exact ⟨⟨_, _, _, _, rfl, HV.out _ hbw6, by rw [hal]; exact hown6⟩, hbw6⟩
        · have tz : ((S.code : Int) == 0) = false := by rw [beq_eq_false_iff_ne]; omega
          have tz2 : ((S.code : Int) != 0) = true := by simp; omega
          have hc1 : wr.cell? ⟨w.heap.size, 1, none⟩ = some (.int .i64 (S.code : Int)) := b1.cell 1
          obtain ⟨hr1, hr2⟩ := hX.out.2 hz
          have ho : outS R.2.2 R.1 = S := by
            have : ¬ R.2.2 = 0 := by rw [hr2] at hz; exact hz
            unfold outS
            rw [if_neg this, hr2]
          have HO := Lib.hid ho
          have HR1 := Lib.hid hr1
          have HV := Lib.hid (fun W (hbW : Below w.heap.size w W) => hv.out.later hbW)
          clear hX hz hr1 hr2 ho
          by_cases hlt : k < n
          all_goals
            go_wp2_with (first
              | (refine wpList_load_row rfl 85 _ rfl w.heap.size rfl 85 _ (0, 0) _ b1 Tryd.underlying85 rfl (sizeRd _ _) ?_)
              | (refine wpList_store_row rfl 85 _ _ rfl (w.heap.size + 1) #[.slice pk nk ck, .int .i64 (S.code : Int)] rfl rfl 85 _ b2 (sizeRd _ _) rfl (oneRd _ trivial) ?_; have u2 := b2.row #[.slice pk nk ck, .int .i64 (S.code : Int)]; have hbw6 := hb.trans (foot_row (w := wr) (B := w.heap.size) (r := w.heap.size + 1) #[.slice pk nk ck, .int .i64 (S.code : Int)] (by omega))))
            refine bodyPost_ret (results_row_tmp rfl _ _ (w.heap.size + 1) 85 #[.slice pk nk ck, .int .i64 (S.code : Int)] (0, 0) _ rfl u2 Tryd.underlying85 rfl (sizeRd _ _)) rfl ?_
            rw [HO.out, HR1.out]
            exact ⟨⟨_, _, _, _, rfl, HV.out _ hbw6, World.ownsRow_nil _ _ _ _⟩, hbw6⟩
end Go.Proofs.YtlgjbcmkhcgigaaDoor

namespace Go.Proofs.YtlgjbcmkhcgigaaDoor.Wire
open Go.RowKit

set_option maxHeartbeats 400000 in
theorem RefDone_any (v : Value) (st : RS) (G : Nat → Prop) (w : World) (h : RsV w G v st) :
    Calls Tryd.prog 59 #[v] w fun e w' => e = .returned (.int .i64 (rdDone st : Int)) ∧ Below w.heap.size w w' := by
  have hb := Lib.hid (below_alloc w)
  match st with
  | .ok [] =>
    obtain ⟨⟨sl, rfl, hr⟩, _⟩ := h
    obtain ⟨p, c, rfl, _⟩ := hr
    simp only [rdDone]
    go_enter Tryd.func59, Tryd.ntmps59
    go_wp2
    go_ret
    exact ⟨rfl, hb.out _⟩
  | .ok (c :: l) =>
    obtain ⟨⟨sl, rfl, hr⟩, _⟩ := h
    obtain ⟨p, c, rfl, _⟩ := hr
    simp only [rdDone]
    go_enter Tryd.func59, Tryd.ntmps59
    go_wp2
    go_ret
    exact ⟨rfl, hb.out _⟩
  | .err e =>
    obtain ⟨rfl, he⟩ := h
    have ht : ((e : Int) == 0) = false := by rw [beq_eq_false_iff_ne]; omega
    simp only [rdDone]
    clear he
    go_enter Tryd.func59, Tryd.ntmps59
    go_wp2
    go_ret
    exact ⟨rfl, hb.out _⟩
end Go.Proofs.YtlgjbcmkhcgigaaDoor.Wire
namespace Go.Proofs.YtlgjbcmkhcgigaaDoor
open Go.RowKit
open Wire (RS rdNum RsV bV)

theorem decP_done (l : List UInt8) : decP l = if Wire.rdDone (outS (getP (.ok l)).2.2 (getP (.ok l)).1) = 0 then ((getP (.ok l)).2.1, 0) else ([], Wire.rdDone (outS (getP (.ok l)).2.2 (getP (.ok l)).1)) := by
  unfold decP
  by_cases hy : (getP (.ok l)).2.2 = 0
  · have e : outS (getP (.ok l)).2.2 (getP (.ok l)).1 = (getP (.ok l)).1 := by unfold outS; rw [if_pos hy]
    rw [if_pos hy, e, doneR_eq]
  · have e : outS (getP (.ok l)).2.2 (getP (.ok l)).1 = .err (getP (.ok l)).2.2 := by unfold outS; rw [if_neg hy]
    rw [if_neg hy, e]
    exact (if_neg hy).symm

set_option maxRecDepth 100000 in
set_option maxHeartbeats 4000000 in
theorem RDecode_any (p : Option Addr) (n c : Nat) (l : List UInt8) (hl : l.length ≤ 4000) (G : Nat → Prop) (w : World) (hG : ∀ k, G k → k < w.heap.size) (hr : RV w G (.slice p n c) l.length 1 (l.map bV)) :
    Calls Tryd.prog 27 #[.slice p n c] w fun e w' => ∃ v, e = .returned (.tuple #[v, .int .i64 ((decP l).2 : Int)]) ∧ w'.ownsRow w.heap.size 45 7 v (decP l).1.length ((decP l).1.flatMap dCells) ∧ Below w.heap.size w w' := by
  have hget := RPGet_any p n c 0 (.ok l) G w hG ⟨⟨_, rfl, hr⟩, hl⟩
  obtain ⟨D, hD⟩ : ∃ D, decP l = D := ⟨_, rfl⟩
  rw [hD]
  rw [decP_done] at hD
  generalize getP (.ok l) = q at hget hD
  obtain ⟨S0, ps, y⟩ := q
  simp only at hget hD
  generalize outS y S0 = S at hget hD
  have hdn := Lib.hid (fun (v : Value) (W : World) (h : RsV W G v S) => Wire.RefDone_any v S G W h)
  generalize Wire.rdDone S = f at hD hdn
  have HDN := hdn
  clear hr hdn
  by_cases hf : f = 0
  · rw [if_pos hf] at hD
    subst hD
    have tf : ((f : Int) != 0) = false := by rw [hf]; rfl
    clear hf
    go_enter Tryd.func27, Tryd.ntmps27
    go_wp2_with (first
      | (go_at_call 58; (with_reducible refine hget.mono ?_); clear hget; rintro e w1 ⟨⟨p1, n1, c1, v1, rfl, hv1, hown1⟩, hb1⟩; obtain ⟨pv, cv, rfl, _⟩ := id (RV.of_own hown1); have hb2 := hb1.alloc hb1.size (.cells #[.slice p1 n1 c1, .int .i64 (S.code : Int)] 85); have hv2 := hv1.later (below_alloc1 w1 (.cells #[.slice p1 n1 c1, .int .i64 (S.code : Int)] 85)); have hown2 := hown1.alloc (.cells #[.slice p1 n1 c1, .int .i64 (S.code : Int)] 85))
      | (refine wpList_alloc_agg rfl 85 rfl #[.slice none 0 0, .int .i64 0] zeroRd ?_)
      | (refine wpList_store_row rfl 85 _ _ rfl w1.heap.size #[.slice p1 n1 c1, .int .i64 (S.code : Int)] rfl rfl 85 _ (heap_alloc_new w1 _) (sizeRd _ _) rfl (oneRd _ trivial) ?_; rw [World.setRow_alloc_new])
      | (refine wpList_load_row rfl 85 _ rfl w1.heap.size rfl 85 _ (0, 0) _ (heap_alloc_new w1 _) Tryd.underlying85 rfl (sizeRd _ _) ?_)
      | (go_at_call 59; (with_reducible refine (HDN.out _ _ hv2).mono ?_); rintro e w3 ⟨rfl, hb3⟩))
    go_ret2
    exact ⟨_, rfl, ownsRow_below hown2 hb3 (Nat.le_refl _), below_pre hb2 hb3⟩
  · rw [if_neg hf] at hD
    subst hD
    have tf : ((f : Int) != 0) = true := by simp; omega
    clear hf
    go_enter Tryd.func27, Tryd.ntmps27
    go_wp2_with (first
      | (go_at_call 58; (with_reducible refine hget.mono ?_); clear hget; rintro e w1 ⟨⟨p1, n1, c1, v1, rfl, hv1, hown1⟩, hb1⟩; obtain ⟨pv, cv, rfl, _⟩ := id (RV.of_own hown1); have hb2 := hb1.alloc hb1.size (.cells #[.slice p1 n1 c1, .int .i64 (S.code : Int)] 85); have hv2 := hv1.later (below_alloc1 w1 (.cells #[.slice p1 n1 c1, .int .i64 (S.code : Int)] 85)); have hblk2 := Blk.new w1 85 #[.slice p1 n1 c1, .int .i64 (S.code : Int)])
      | (refine wpList_alloc_agg rfl 85 rfl #[.slice none 0 0, .int .i64 0] zeroRd ?_)
      | (refine wpList_store_row rfl 85 _ _ rfl w1.heap.size #[.slice p1 n1 c1, .int .i64 (S.code : Int)] rfl rfl 85 _ (heap_alloc_new w1 _) (sizeRd _ _) rfl (oneRd _ trivial) ?_; rw [World.setRow_alloc_new])
      | (refine wpList_load_row rfl 85 _ rfl w1.heap.size rfl 85 _ (0, 0) _ hblk3 Tryd.underlying85 rfl (sizeRd _ _) ?_)
      | (refine wpList_load_row rfl 85 _ rfl w1.heap.size rfl 85 _ (0, 0) _ (heap_alloc_new w1 _) Tryd.underlying85 rfl (sizeRd _ _) ?_)
      | (go_at_call 59; (with_reducible refine (HDN.out _ _ hv3).mono ?_); rintro e w4 ⟨rfl, hb4⟩)
      | (go_at_call 59; (with_reducible refine (HDN.out _ _ hv2).mono ?_); rintro e w3 ⟨rfl, hb3⟩; have hblk3 := bump hblk2 hb3; have hv3 := hv2.later hb3; have hbw3 := below_pre hb2 hb3))
    go_ret2
    exact ⟨_, rfl, World.ownsRow_nil _ _ _ _, below_pre hbw3 hb4⟩
end Go.Proofs.YtlgjbcmkhcgigaaDoor
