/- Words for a region that draws its order, without a number of the program: a call that only computes may be taken first, as an operation that only reads may be. The contract of the reference's small. The contract of the reference's count; what a program that cannot be read leaves. What the reference's Decode of duties holds while it reads; a start that is appended. -/
import Derived.OrdersHeld
import Derived.Deep.RegionHeld
import Derived.Test.YtbdimfcdpkldpaaGreatDoorZ14
import Derived.Test.YtbdimfcdpkldpaaGreatDoorYM9
import Derived.Test.YtbdimfcdpkldpaaGreatDoorLV
namespace Go.Proofs.YtbdimfcdpkldpaaGreatDoor

section
variable {P : Program} {ops : Array Oper} {Q : Exit → Act → World → Prop} {md : Region.Mode} {S : World → Prop}

/-- A call that only computes: in whichever world of S it is made, it answers v and leaves that world. -/
def Computes (P : Program) (ops : Array Oper) (S : World → Prop) (o : Oper) (v : Value) (a : Act) : Prop :=
  Region.wanted o (yielded ops a.tmps) = true ∧ ∀ w, S w → ∃ f args, (execOp a.eval o).run P w = .ok (.enter f args) w ∧ Calls P f args w fun e w' => e = .returned v ∧ w = w'
theorem Computes.same {o : Oper} {v : Value} {a b : Act} (h : Computes P ops S o v a) (h1 : execOp b.eval o = execOp a.eval o) (h2 : Region.wanted o (yielded ops b.tmps) = Region.wanted o (yielded ops a.tmps)) : Computes P ops S o v b := by
  unfold Computes
  rw [h1, h2]
  exact h
theorem Computes.runs {i : Nat} {o : Oper} {v : Value} {a : Act} {w : World} {K : Act → World → Prop} (h : Computes P ops S o v a) (hi : ops[i]? = some o) (hS : S w) (hk : K (a.put o.dst v) w) : wpOp P ops Q i K a w := by
  obtain ⟨f, args, hr, hc⟩ := h.2 w hS
  unfold wpOp
  rw [hi]
  simp only
  rw [if_pos h.1]
  refine .inl ?_
  unfold Oper.wp
  rw [hr]
  refine Calls.mono hc ?_
  rintro e w' ⟨rfl, rfl⟩
  exact hk
/-- What holds of an act whatever is put where an operation writes, holds behind that operation. -/
theorem wpOp_keeps {j : Nat} {o : Oper} {a : Act} {w : World} {K : Act → World → Prop} (hj : ops[j]? = some o) (I : Act → Prop) (hI : ∀ u, I (a.put o.dst u)) (hD : ∀ d u, I (({ a with defers := d :: a.defers } : Act).put o.dst u))
    (h : wpOp P ops Q j K a w) : wpOp P ops Q j (fun b x => I b ∧ K b x) a w := by
  unfold wpOp at h ⊢
  rw [hj] at h ⊢
  simp only at h ⊢
  by_cases hw : Region.wanted o (yielded ops a.tmps) = true
  · rw [if_pos hw] at h ⊢
    rcases h with h | h
    · refine .inl ?_
      unfold Oper.wp at h ⊢
      obtain ⟨r, hr⟩ : ∃ r, (execOp a.eval o).run P w = r := ⟨_, rfl⟩
      rw [hr] at h ⊢
      clear hr
      match r, h with
      | .ok (.value v) x, h => exact ⟨hI v, h⟩
      | .ok .skip x, h => exact ⟨hI undef, h⟩
      | .ok (.defer d) x, h => exact ⟨hD d undef, h⟩
      | .ok (.enter f args) x, h =>
        refine Calls.mono (P := P) (f := f) (args := args) (w := x) h ?_
        intro e y he
        match e, he with
        | .returned v, he => exact ⟨hI v, he⟩
        | .panicked c, he => exact he
        | .outgrown, he => exact he
      | .ok (.row f args) x, h => exact Rows.mono h fun v y he => ⟨hI v, he⟩
      | .halt (.panic v) x, h => exact h
    · exact .inr h
  · rw [if_neg hw] at h ⊢
    exact ⟨hI undef, h⟩
theorem Computes.past {j : Nat} {oi oj : Oper} {v : Value} {a : Act} {w : World} {K : Act → World → Prop} (hy : Computes P ops S oi v a) (hj : ops[j]? = some oj) (hap : oi.apart ops oj = true)
    (hsi : ∀ cs b, oi.op ≠ .select cs b) (hsj : ∀ cs b, oj.op ≠ .select cs b) (hQ : ∀ c a w, Q (.panic c) (a.put oi.dst v) w → Q (.panic c) a w) (h : wpOp P ops Q j K (a.put oi.dst v) w) :
    wpOp P ops Q j (fun b x => Computes P ops S oi v b ∧ K (b.put oi.dst v) x) a w := by
  obtain ⟨_, _, h3⟩ := Oper.apart_spec hap
  have k1 := wpOp_putIf (S := fun _ => False) hj hap hsi hsj hQ (.inl ⟨hy.1, fun _ hf => hf.elim⟩) h
  have k2 := wpOp_keeps hj (fun b => Computes P ops S oi v b) (fun u => hy.same (execOp_put oi hsi a oj.dst u h3) (wanted_put oi a oj.dst u h3))
    (fun d u => (hy.same (b := { a with defers := d :: a.defers }) rfl rfl).same (execOp_put oi hsi { a with defers := d :: a.defers } oj.dst u h3) (wanted_put oi { a with defers := d :: a.defers } oj.dst u h3)) k1
  exact wpOp_mono (fun b x hh => ⟨hh.1, hh.2.2⟩) k2
/-- A call that only computes, taken first. -/
theorem wpAnyH_call {i : Nat} {oi : Oper} {v : Value} (hi : ops[i]? = some oi) (hs : Region.noSelect ops = true) (hQ : ∀ c a w, Q (.panic c) (a.put oi.dst v) w → Q (.panic c) a w) :
    ∀ {fuel : Nat} {listed : Array Bool} {a : Act} {w : World}, Region.free md ops listed i = true → (Region.ready md ops listed).contains i = true → Computes P ops S oi v a → S w →
      wpAnyH P md ops Q S fuel (listed.setIfInBounds i true) (a.put oi.dst v) w → wpAnyH P md ops Q S (fuel + 1) listed a w := by
  have key : ∀ (fuel : Nat) (listed : Array Bool) (a : Act) (w : World),
      (∀ j oj, ops[j]? = some oj → j ≠ i → listed.getD j true = false → (∀ e ∈ oj.after, Region.binds md e = true → e.on ≠ i) → oi.apart ops oj = true) →
      i ∈ Region.ready md ops listed → Computes P ops S oi v a → S w →
      wpAnyH P md ops Q S fuel (listed.setIfInBounds i true) (a.put oi.dst v) w → wpAnyH P md ops Q S (fuel + 1) listed a w := by
    intro fuel
    induction fuel with
    | zero =>
      intro listed a w _ hr hy hS hh
      refine ⟨fun e => (by rw [e] at hr; cases hr), fun j hj => ?_⟩
      rcases Nat.decEq j i with hne | he
      · have := ready_mono hj hne
        rw [hh.1] at this
        cases this
      · subst he
        exact hy.runs hi hS ⟨hS, hh⟩
    | succ n ih =>
      intro listed a w hfree hr hy hS hh
      refine ⟨fun e => (by rw [e] at hr; cases hr), fun j hj => ?_⟩
      rcases Nat.decEq j i with hne | he
      · obtain ⟨hun, oj, hoj, hdeps⟩ := mem_ready.1 hj
        have hno : ∀ e ∈ oj.after, Region.binds md e = true → e.on ≠ i := by
          intro e he hb hon
          have h1 := hdeps e he hb
          have h0 := (mem_ready.1 hr).1
          rw [hon] at h1
          by_cases hlt : i < listed.size
          · simp [hlt] at h0 h1
            rw [h0] at h1
            cases h1
          · simp [Array.getElem?_eq_none (Nat.le_of_not_lt hlt)] at h1
        have hq := hy.past hoj (hfree j oj hoj hne hun hno) (Region.noSelect_spec hs i oi · · hi) (Region.noSelect_spec hs j oj · · hoj) hQ (hh.2 j (ready_mono hj hne))
        refine wpOp_mono (fun b x hb => ⟨hb.2.1, ih (listed.setIfInBounds j true) b x ?_ (ready_mono hr (Ne.symm hne)) hb.1 hb.2.1 ?_⟩) hq
        · intro k ok hk hki hku hkn
          refine hfree k ok hk hki ?_ hkn
          by_cases hjk : j = k
          · subst hjk; exact hun
          · rwa [getD_set_ne true hjk] at hku
        · rw [Array.setIfInBounds_comm _ _ hne]
          exact hb.2.2
      · subst he
        exact hy.runs hi hS ⟨hS, hh⟩
  intro fuel listed a w hf hr hy hS hh
  exact key fuel listed a w (Region.free_spec hi hf) (by simpa using hr) hy hS hh
end
end Go.Proofs.YtbdimfcdpkldpaaGreatDoor

namespace Go.Proofs.YtbdimfcdpkldpaaGreatDoor
open Go.RowKit

theorem Small_any (x : Nat) (hx : x < 18446744073709551616) (w : World) :
    Calls Tryz.prog 53 #[.int .u64 (x : Int)] w fun e w' => e = .returned (.int .i64 ((smallY x : Nat) : Int)) ∧ w = w' := by
  by_cases h : 2147483647 < x
  · have t : decide ((x : Int) > 2147483647) = true := by simp; omega
    have hs : smallY x = 2147483647 := by unfold smallY; rw [if_pos h]
    rw [hs]
    clear h hx hs
    go_enter Tryz.func53, Tryz.ntmps53
    go_wp2
    go_ret
    exact ⟨rfl, rfl⟩
  · have t : decide ((x : Int) > 2147483647) = false := by simp; omega
    have hs : smallY x = x := by unfold smallY; rw [if_neg h]
    have hw : wrap64 (x : Int) = (x : Int) := IntWalk.wrap64_in _ (by omega)
    rw [hs]
    have HW := Lib.hid hw
    clear h hx hs hw
    go_enter Tryz.func53, Tryz.ntmps53
    go_wp2_with (rw [HW.out])
    go_ret
    exact ⟨by first | rfl | exact ret_i9 HW.out, rfl⟩
end Go.Proofs.YtbdimfcdpkldpaaGreatDoor

namespace Go.Proofs.YtbdimfcdpkldpaaGreatDoor
open Go.RowKit
open Wire (RS rdNum RsV bV)

theorem getN_bad : ∀ (n : Nat) (acc : List Deed) (st : RS), ¬ (getN n acc st).2.2 = 0 → (getN n acc st).2.1 = []
  | 0, _, _, h => absurd rfl h
  | n + 1, acc, st, h => by
    rw [getN] at h ⊢
    by_cases h0 : (getD st).2.2 = 0
    · rw [if_pos h0] at h ⊢
      exact getN_bad n _ _ h
    · rw [if_neg h0]
theorem getP_empty {st : RS} (h : ¬ (getP st).2.2 = 0) : (getP st).2.1 = [] := by
  unfold getP at h ⊢
  by_cases h1 : (rdNum st).1.code = 0
  · rw [if_pos h1] at h ⊢
    by_cases h2 : 256 < (rdNum st).2
    · rw [if_pos h2]
    · rw [if_neg h2] at h ⊢
      exact getN_bad _ _ _ h
  · rw [if_neg h1]
theorem getPr_out (st : RS) : getPr st = (outS (getP st).2.2 (getP st).1, (getP st).2.1) := by
  unfold getPr outS
  by_cases h : (getP st).2.2 = 0
  · rw [if_pos h, if_pos h]
  · rw [if_neg h, if_neg h, getP_empty h]

set_option maxHeartbeats 2000000 in
theorem RCountY_any (p : Option Addr) (n0 c : Nat) (y0 : Int) (st : RS) (G : Nat → Prop) (w : World) (hG : ∀ k, G k → k < w.heap.size) (h : RsV w G (.agg #[.slice p n0 c, .int .i64 y0]) st) :
    Calls Tryz.prog 55 #[.agg #[.slice p n0 c, .int .i64 y0]] w fun e w' => (∃ p n c, e = .returned (.tuple #[.agg #[.slice p n c, .int .i64 ((countY st).1.code : Int)], .int .i64 ((countY st).2 : Int)]) ∧ RsV w G (.agg #[.slice p n c, .int .i64 ((countY st).1.code : Int)]) (countY st).1) ∧ Below w.heap.size w w' := by
  have g1 : Blk ((w.alloc (.cells #[.slice p n0 c, .int .i64 y0] 94)).alloc (.cells #[.slice none 0 0, .int .i64 0] 94)) w.heap.size 94 #[.slice p n0 c, .int .i64 y0] := (Blk.new w _ _).alloc _
  have g2 : Blk ((w.alloc (.cells #[.slice p n0 c, .int .i64 y0] 94)).alloc (.cells #[.slice none 0 0, .int .i64 0] 94)) (w.heap.size + 1) 94 #[.slice none 0 0, .int .i64 0] := two_new w _ _ _
  have hbb : Below w.heap.size w ((w.alloc (.cells #[.slice p n0 c, .int .i64 y0] 94)).alloc (.cells #[.slice none 0 0, .int .i64 0] 94)) := below_alloc2 w _ _
  have hget := Wire.GetNum_any _ st G _ (fun k hk => Nat.lt_of_lt_of_le (hG k hk) hbb.size) (h.later hbb)
  obtain ⟨R, hR⟩ : ∃ R, countY st = R := ⟨_, rfl⟩
  rw [hR]
  unfold countY at hR
  have hz : ∀ e, (rdNum st).1 = .err e → (rdNum st).2 = 0 := fun e he => rdNum_zero he
  generalize rdNum st = q at hget hR hz
  obtain ⟨S1, n⟩ := q
  simp only at hget hR hz
  have HGG := Lib.hid hG
  clear h
  by_cases hlong : S1.code = 0 ∧ 64 < n
  · rw [if_pos hlong] at hR
    subst hR
    obtain ⟨hc, hn⟩ := hlong
    have tc : ((S1.code : Int) == 0) = true := by rw [hc]; rfl
    have tn : decide ((n : Int) > 64) = true := by simp; omega
    clear hc hn hG hz
    go_enter Tryz.func55, Tryz.ntmps55
    go_wp2_with (first
      | (refine wpList_box_agg rfl 94 _ rfl #[.slice p n0 c, .int .i64 y0] rfl ?_)
      | (refine wpList_alloc_agg rfl 94 rfl #[.slice none 0 0, .int .i64 0] zeroRd ?_)
      | (refine wpList_load_row rfl 94 _ rfl w.heap.size rfl 94 _ (0, 0) _ g1 Tryz.underlying94 rfl (sizeRd _ _) ?_)
      | (go_at_call 52; (with_reducible refine hget.mono ?_); clear hget; rintro e w1 ⟨⟨v1, rfl, hv1⟩, hb1⟩; obtain ⟨p1, n1, c1, rfl⟩ := hv1.shape; have x1 := bump g1 hb1; have x2 := bump g2 hb1; have hbw1 := below_pre hbb hb1)
      | (refine wpList_store_row rfl 94 _ _ rfl w.heap.size #[.slice p1 n1 c1, .int .i64 (S1.code : Int)] rfl rfl 94 _ x1 (sizeRd _ _) rfl (oneRd _ trivial) ?_; have z1 := x1.row #[.slice p1 n1 c1, .int .i64 (S1.code : Int)]; have z2 := x2.foot (foot_setRow w1 w.heap.size #[.slice p1 n1 c1, .int .i64 (S1.code : Int)]) (by omega); have zc : (w1.setRow w.heap.size #[.slice p1 n1 c1, .int .i64 (S1.code : Int)]).cell? ⟨w.heap.size, 1, none⟩ = some (.int .i64 (S1.code : Int)) := z1.cell 1; have hbw2 := hbw1.trans (foot_row (w := w1) (B := w.heap.size) #[.slice p1 n1 c1, .int .i64 (S1.code : Int)] (Nat.le_refl _)))
      | (refine wpList_store_row rfl 94 _ _ rfl (w.heap.size + 1) #[.slice none 0 0, .int .i64 4] rfl rfl 94 _ z2 (sizeRd _ _) rfl (oneRd _ trivial) ?_; have u2 := z2.row #[.slice none 0 0, .int .i64 4]))
    refine bodyPost_ret (results_row_tmp rfl _ _ (w.heap.size + 1) 94 #[.slice none 0 0, .int .i64 4] (0, 0) _ rfl u2 Tryz.underlying94 rfl (sizeRd _ _)) rfl ?_
    exact ⟨⟨_, _, _, rfl, Wire.RsV.nil (e := 4) (by decide)⟩, hbw2.trans (foot_row _ (by omega))⟩
  · rw [if_neg hlong] at hR
    subst hR
    have hn6 : n ≤ 64 := by
      cases S1 with
      | ok l =>
        have : ¬ 64 < n := fun e => hlong ⟨rfl, e⟩
        omega
      | err e =>
        have := hz e rfl
        omega
    have hcase : (((S1.code : Int) == 0) = true ∧ decide ((n : Int) > 64) = false) ∨ ((S1.code : Int) == 0) = false := by
      by_cases hc : S1.code = 0
      · exact .inl ⟨by rw [hc]; rfl, by simp; omega⟩
      · exact .inr (by rw [beq_eq_false_iff_ne]; omega)
    have hwn : wrap64 (n : Int) = (n : Int) := IntWalk.wrap64_in _ (by omega)
    have HWN := Lib.hid hwn
    clear hlong hz hwn hn6 hG
    rcases hcase with ⟨tc, tn⟩ | tc
    all_goals
      go_enter Tryz.func55, Tryz.ntmps55
      go_wp2_with (first
        | rw [HWN.out]
        | (refine wpList_box_agg rfl 94 _ rfl #[.slice p n0 c, .int .i64 y0] rfl ?_)
        | (refine wpList_alloc_agg rfl 94 rfl #[.slice none 0 0, .int .i64 0] zeroRd ?_)
        | (refine wpList_load_row rfl 94 _ rfl w.heap.size rfl 94 _ (0, 0) _ g1 Tryz.underlying94 rfl (sizeRd _ _) ?_)
        | (go_at_call 52; (with_reducible refine hget.mono ?_); clear hget; rintro e w1 ⟨⟨v1, rfl, hv1⟩, hb1⟩; obtain ⟨p1, n1, c1, rfl⟩ := hv1.shape; have x1 := bump g1 hb1; have x2 := bump g2 hb1; have hbw1 := below_pre hbb hb1)
        | (refine wpList_store_row rfl 94 _ _ rfl w.heap.size #[.slice p1 n1 c1, .int .i64 (S1.code : Int)] rfl rfl 94 _ x1 (sizeRd _ _) rfl (oneRd _ trivial) ?_; have z1 := x1.row #[.slice p1 n1 c1, .int .i64 (S1.code : Int)]; have z2 := x2.foot (foot_setRow w1 w.heap.size #[.slice p1 n1 c1, .int .i64 (S1.code : Int)]) (by omega); have zc : (w1.setRow w.heap.size #[.slice p1 n1 c1, .int .i64 (S1.code : Int)]).cell? ⟨w.heap.size, 1, none⟩ = some (.int .i64 (S1.code : Int)) := z1.cell 1; have hbw2 := hbw1.trans (foot_row (w := w1) (B := w.heap.size) #[.slice p1 n1 c1, .int .i64 (S1.code : Int)] (Nat.le_refl _)))
        | (refine wpList_load_row rfl 94 _ rfl w.heap.size rfl 94 _ (0, 0) _ z1 Tryz.underlying94 rfl (sizeRd _ _) ?_)
        | (refine wpList_store_row rfl 94 _ _ rfl (w.heap.size + 1) #[.slice p1 n1 c1, .int .i64 (S1.code : Int)] rfl rfl 94 _ z2 (sizeRd _ _) rfl (oneRd _ trivial) ?_; have u2 := z2.row #[.slice p1 n1 c1, .int .i64 (S1.code : Int)]))
      refine bodyPost_ret (results_row_tmp rfl _ _ (w.heap.size + 1) 94 #[.slice p1 n1 c1, .int .i64 (S1.code : Int)] (0, 0) _ rfl u2 Tryz.underlying94 rfl (sizeRd _ _)) rfl ?_
      exact ⟨⟨_, _, _, rfl, Wire.RsV.back hv1 hbb HGG.out⟩, hbw2.trans (foot_row _ (by omega))⟩
end Go.Proofs.YtbdimfcdpkldpaaGreatDoor

namespace Go.Proofs.YtbdimfcdpkldpaaGreatDoor
open Go.RowKit
open Wire (RS rdNum)

theorem getP_oks (st : RS) : ∀ x ∈ (getP st).2.1, x.ok := by
  by_cases h : (getP st).2.2 = 0
  · cases st with
    | ok l =>
      obtain ⟨r, hr⟩ := getP_state h
      exact (getP_back (Prod.ext hr (Prod.ext rfl h) : getP (.ok l) = (.ok r, (getP (.ok l)).2.1, 0))).2.1
    | err e =>
      have he : (getP (.err e)).2.1 = [] := by
        unfold getP
        have hz : rdNum (.err e) = (.err e, 0) := rfl
        rw [hz]
        split
        · rw [if_neg (show ¬ 256 < (0 : Nat) by decide)]; rfl
        · rfl
      rw [he]
      exact fun x hx => nomatch hx
  · rw [getP_empty h]
    exact fun x hx => nomatch hx
theorem getPr_oks (st : RS) : ∀ x ∈ (getPr st).2, x.ok := by
  rw [getPr_out]
  exact getP_oks st
theorem oks_snoc {acc : List (List Deed)} {p : List Deed} (h : ∀ q ∈ acc, ∀ x ∈ q, x.ok) (hp : ∀ x ∈ p, x.ok) : ∀ q ∈ acc ++ [p], ∀ x ∈ q, x.ok := by
  intro q hq
  rcases List.mem_append.1 hq with hq | hq
  · exact h q hq
  · simp only [List.mem_cons, List.not_mem_nil, or_false] at hq
    subst hq
    exact hp
theorem progsG_next {n : Nat} {acc : List (List Deed)} {st : RS} {R : RS × List (List Deed)} (h : progsG (n + 1) acc st = R) (h0 : st.code = 0) : progsG n (acc ++ [(getPr st).2]) (getPr st).1 = R := by
  rw [← h, progsG, if_pos h0]
theorem progsG_stop {n : Nat} {acc : List (List Deed)} {st : RS} {R : RS × List (List Deed)} (h : progsG n acc st = R) (h0 : n = 0 ∨ ¬ st.code = 0) : R = (st, acc) := by
  rw [← h]
  rcases h0 with rfl | h0
  · rfl
  · cases n with
    | zero => rfl
    | succ n => rw [progsG, if_neg h0]
theorem startsG_next {n : Nat} {acc : List St} {g : Bool} {st : RS} {R : RS × List St × Bool} (h : startsG (n + 1) acc g st = R) (h0 : st.code = 0) : startsG n (acc ++ [stOf (rdSt st).2]) (g || bigSt (rdSt st).2) (rdSt st).1 = R := by
  rw [← h, startsG, if_pos h0]
theorem startsG_stop {n : Nat} {acc : List St} {g : Bool} {st : RS} {R : RS × List St × Bool} (h : startsG n acc g st = R) (h0 : n = 0 ∨ ¬ st.code = 0) : R = (st, acc, g) := by
  rw [← h]
  rcases h0 with rfl | h0
  · rfl
  · cases n with
    | zero => rfl
    | succ n => rw [startsG, if_neg h0]
theorem stOf_ok (st : RS) : (stOf (rdSt st).2).ok := ⟨smallY_range _, smallY_range _, Wire.rdNum_lt _⟩
theorem st_snoc {acc : List St} {s : St} (h : ∀ q ∈ acc, q.ok) (hs : s.ok) : ∀ q ∈ acc ++ [s], q.ok := by
  intro q hq
  rcases List.mem_append.1 hq with hq | hq
  · exact h q hq
  · simp only [List.mem_cons, List.not_mem_nil, or_false] at hq
    subst hq
    exact hs
theorem countY_le (st : RS) : (countY st).2 ≤ 64 := by
  unfold countY
  split
  · exact Nat.zero_le _
  · rename_i h
    cases hS : (rdNum st).1 with
    | ok l =>
      have : ¬ 64 < (rdNum st).2 := fun e => h ⟨by rw [hS]; rfl, e⟩
      omega
    | err e =>
      rw [rdNum_zero hS]
      exact Nat.zero_le _
theorem headOf_ok {a0 a1 a2 a3 a4 a5 a6 : Nat} {ps : List (List Deed)} {ss : List St} (hx : ∀ x ∈ [a0, a1, a2, a3, a4, a5, a6], x < 18446744073709551616) (hp : ∀ q ∈ ps, ∀ x ∈ q, x.ok) (hs : ∀ q ∈ ss, q.ok) : (headOf [a0, a1, a2, a3, a4, a5, a6] ps ss).ok :=
  ⟨smallY_range a0, smallY_range a1, smallY_range a2, smallY_range a3, hx a4 (by simp), hx a5 (by simp), hx a6 (by simp), hp, hs⟩

theorem sizeSt (s : St) : (Tryz.prog.info? 58).map (·.size) = some (#[.int .i64 s.prog, .int .i64 s.grade, .int .u64 (s.mask : Int)] : Array Value).size := by kernel_rfl
theorem oneSt (s : St) : (#[.int .i64 s.prog, .int .i64 s.grade, .int .u64 (s.mask : Int)] : Array Value).all (·.oneCell') = true := by simp [Value.oneCell']
section
variable {ops : Array Oper} {rest : List Oper} {o : Oper} {a : Act} {W : World} {Q : Exit → Act → World → Prop}
theorem wpList_lit_st (hgd : o.guard = none) (x : Operand) (ho : o.op = .buildSlice 25 1 #[(0, x)]) (s : St) (hx : a.eval x = .agg #[.int .i64 s.prog, .int .i64 s.grade, .int .u64 (s.mask : Int)])
    (h : wpList Tryz.prog ops Q rest (a.put o.dst (.slice (some ⟨W.heap.size, 0, none⟩) 1 1)) (W.alloc (.cells #[.int .i64 s.prog, .int .i64 s.grade, .int .u64 (s.mask : Int)] 58))) : wpList Tryz.prog ops Q (o :: rest) a W := by
  obtain ⟨i0, hi, hz0, hz1, hz2⟩ := info_parts infoSt
  refine wpList_buildSlice hgd 25 58 1 _ ho _ i0 _ Tryz.underlying25 hi hz0 (by rw [hz1]; decide) (by rw [hz1]; decide) ?_ h
  rw [hz1]
  simp only [List.map_toArray, List.map_cons, List.map_nil, hx]
  exact fill_st s
theorem wpList_append_st (hgd : o.guard = none) (s x : Operand) (ho : o.op = .call { callee := .builtin .append, args := #[s, x], argTypes := #[25, 25] })
    (B : Nat) {v : Value} {n : Nat} {ss : List St} (hown : W.ownsRow B 58 3 v n (ss.flatMap stCells)) (hs : a.eval s = v) (hx : a.eval x = .slice (some ⟨W.heap.size, 0, none⟩) 1 1) (t : St) (t' : TypeId)
    (hn : n + 1 ≤ 100000) (hB : B ≤ W.heap.size)
    (h : ∀ v' w', w'.ownsRow B 58 3 v' (n + 1) ((ss ++ [t]).flatMap stCells) → Below B W w' → Foot (fun k => v.ownBlock = some k) W w' → wpList Tryz.prog ops Q rest (a.put o.dst v') w') :
    wpList Tryz.prog ops Q (o :: rest) a (W.alloc (.cells #[.int .i64 t.prog, .int .i64 t.grade, .int .u64 (t.mask : Int)] t')) := by
  obtain ⟨i0, hi, hz0, hz1, hz2⟩ := info_parts infoSt
  have hown1 := hown.alloc (.cells #[.int .i64 t.prog, .int .i64 t.grade, .int .u64 (t.mask : Int)] t')
  have hr : RV (W.alloc (.cells #[.int .i64 t.prog, .int .i64 t.grade, .int .u64 (t.mask : Int)] t')) (fun k => k = W.heap.size) (.slice (some ⟨W.heap.size, 0, none⟩) 1 1) 1 3 (stCells t) := by
    refine ⟨_, _, rfl, Nat.le_refl _, by unfold maxLen; omega, (fun e => by cases e), rfl, .inr ⟨_, 0, rfl, by simp, rfl, fun j u hu => ?_⟩⟩
    rw [Nat.zero_add, cell_of_row _ _ j _ _ _ (heap_alloc_new W _)]
    simpa [stCells] using hu
  refine wpList_append_rv _ hgd s x 25 ho B 58 i0 (.agg #[.int .i64 0, .int .i64 0, .int .u64 0]) 3 24 Tryz.underlying25 hi hz0 hz1 hz2 rfl (by decide) v n (ss.flatMap stCells) hs hown1 _ _ 1 (stCells t) hx hr (fun u hu => ?_) (by unfold maxLen; omega) (by omega) (by simp; omega) fun v' w' h2 h3 h4 => ?_
  · simp [stCells] at hu
    rcases hu with rfl | rfl | rfl <;> rfl
  · refine h v' w' (by rw [flat_snocS]; exact h2) ?_ ?_
    · exact ((Below.refl B W).alloc hB _).grown h3 (by simp; omega) (fun j hj => (hown1.lt j hj).1)
    · exact ((Foot.refl _ W).alloc _).then_ (Foot.of_grown h3) (fun k hk => .inl hk)
end
end Go.Proofs.YtbdimfcdpkldpaaGreatDoor
