/- The contracts of the reference's held and Simple. The contract of the reference's Simple. ProgChecks. -/
import Derived.Test.YtlgjbcmkhcgigaaDoorQ6
import Derived.Test.YtlgjbcmkhcgigaaDoorLQ1
import Derived.Test.YtlgjbcmkhcgigaaDoorLT1
namespace Go.Proofs.YtlgjbcmkhcgigaaDoor
open Go.RowKit

def heldV : Option (Int × Nat × Nat) → Array Value
  | some (l, n, _) => #[.int .i64 l, .int .u64 (n : Int), .bool true]
  | none => #[.int .i64 (-1), .int .u64 0, .bool false]

set_option maxRecDepth 100000 in
set_option maxHeartbeats 4000000 in
theorem held_any (p : Option Addr) (c n : Nat) (ps : List Deed) (hn : ps.length = n) (hn6 : n ≤ 256) (hgp : ∀ d ∈ ps, goodD d = true) (at_ : Nat) (hat : at_ ≤ n) (G : Nat → Prop) (w : World) (h : RP w G (.slice p n c) ps) :
    Calls Tryd.prog 30 #[.slice p n c, .int .i64 (at_ : Int)] w fun e w' => e = .returned (.tuple (heldV (simT (ps.take at_)))) ∧ Below w.heap.size w w' := by
  obtain ⟨R, hR0⟩ : ∃ R, simT (ps.take at_) = R := ⟨_, rfl⟩
  rw [hR0]
  have HR := Lib.hid hR0
  have H := Lib.hid h
  have HN := Lib.hid hn
  have HGP := Lib.hid hgp
  have HZ : Hid (simT (ps.take 0) = some (-1, 0, 0)) := Lib.hid (by simp [simT])
  clear h hn hgp hR0
  go_enter Tryd.func30, Tryd.ntmps30
  go_wp2
  go_loopw [7, 8, 9] (fun vl vn t wr => ∃ (k N m : Nat) (l : Int), k ≤ at_ ∧ t = .int .i64 k ∧ vn = .int .u64 (N : Int) ∧ vl = .int .i64 l ∧ Hid (simT (ps.take k) = some (l, N, m)) ∧ Hid (N ≤ 65536 * k) ∧ Hid (RP wr G (.slice p n c) ps) ∧ Below w.heap.size w wr) (fun _ _ t _ => at_ - (intOf t).toNat)
  case atStart => exact ⟨0, 0, 0, -1, by omega, rfl, rfl, rfl, HZ, Lib.hid (by omega), H, Below.refl _ _⟩
  case round =>
    obtain ⟨k, N, m, l, hk, rfl, rfl, rfl, hX, hN, hR, hb⟩ := hrel
    clear H HZ
    by_cases hlt : k < at_
    · obtain ⟨d, hd⟩ : ∃ d, ps[k]? = some d := ⟨_, List.getElem?_eq_getElem (by rw [HN.out]; omega)⟩
      obtain ⟨b, off, rfl, _, _, hra, hc0, hc1, _⟩ := hR.out.at hd
      have hx := simT_snoc hd
      rw [hX.out] at hx
      have hnone : simT (ps.take (k + 1)) = none → R = none := fun h => by rw [← HR.out]; exact simT_stop h _ hlt
      have hcost := cost_le (HGP.out d (List.mem_of_getElem? hd))
      have hN2 := hN.out
      clear hd
      by_cases hT : isTake d = true
      · have hcase : (d.op == 9) = true ∨ ((d.op == 9) = false ∧ (d.op == 10) = true) := by
          unfold isTake at hT
          cases h9 : (d.op == 9)
          · rw [h9] at hT; exact .inr ⟨rfl, by simpa using hT⟩
          · exact .inl rfl
        by_cases hl : 0 ≤ l
        · have hr : R = none := hnone (by rw [hx]; simp [tstep, hT, hl])
          have HR2 := Lib.hid hr
          clear hx hnone hcost hN2 hT hr
          rcases hcase with ht | ⟨ht, ht2⟩
          all_goals
            go_wp2
            go_ret3
            exact ⟨by rw [HR2.out]; rfl, hb⟩
        · have HX := Lib.hid (show simT (ps.take (k + 1)) = some (d.a, 0, m) by rw [hx]; simp [tstep, hT, hl])
          clear hx hnone hcost hN2 hT
          rcases hcase with ht | ⟨ht, ht2⟩
          all_goals
            go_wp2
            go_roundw
            case rel => exact ⟨k + 1, 0, m, d.a, by omega, by go_num, rfl, rfl, HX, Lib.hid (by omega), hR, hb⟩
            case measure => simp [intOf]; omega
      · have hcase : (d.op == 9) = false ∧ (d.op == 10) = false := by
          unfold isTake at hT
          simpa [Bool.or_eq_true] using hT
        obtain ⟨ht, ht2⟩ := hcase
        by_cases h11 : d.op = 11
        · have ht3 : (d.op == 11) = true := by simp [h11]
          by_cases ha : l = d.a
          · have ht4 : (l != d.a) = false := by simp [ha]
            have HX := Lib.hid (show simT (ps.take (k + 1)) = some (-1, N, max m (N + 1)) by rw [hx]; simp [tstep, hT, h11, ha])
            have HN2 := Lib.hid (show N ≤ 65536 * (k + 1) by omega)
            clear hx hnone hcost hN2 hT h11 ha
            go_wp2
            go_roundw
            case rel => exact ⟨k + 1, N, max m (N + 1), -1, by omega, by go_num, rfl, rfl, HX, HN2, hR, hb⟩
            case measure => simp [intOf]; omega
          · have ht4 : (l != d.a) = true := by simp [ha]
            have hr : R = none := hnone (by rw [hx]; simp [tstep, hT, h11, ha])
            have HR2 := Lib.hid hr
            clear hx hnone hcost hN2 hT hr h11 ha
            go_wp2
            go_ret3
            exact ⟨by rw [HR2.out]; rfl, hb⟩
        · have ht3 : (d.op == 11) = false := by simp [h11]
          have hcst := cost_any d
          simp only [Deed.val] at hcst
          have hadd : ∀ W, Calls Tryd.prog 36 #[.int .u64 (N : Int), .int .u64 (costD d : Nat)] W fun e w' => e = .returned (.int .u64 (N + costD d : Nat)) ∧ W = w' := fun W => radd_small _ _ _ rfl (by omega) W
          have HN2 := Lib.hid (show N + costD d ≤ 65536 * (k + 1) by omega)
          by_cases hl : 0 ≤ l
          · by_cases h1 : d.op = 1
            · have ht4 : (d.op != 1) = false := by simp [h1]
              have HX := Lib.hid (show simT (ps.take (k + 1)) = some (l, N + costD d, m) by rw [hx]; simp [tstep, hT, h1])
              clear hx hnone hcost hN2 hT h11 h1
              go_wp2_with (first
                | (refine wpList_load_deed rfl _ rfl b (off + k * 7) rfl d hra ?_)
                | (go_at_call 37; (with_reducible refine (hcst _).mono ?_); clear hcst; rintro e w3 ⟨rfl, hb3⟩)
                | (go_at_call 36; (with_reducible refine (hadd _).mono ?_); clear hadd; rintro e w2 ⟨rfl, rfl⟩))
              go_roundw
              case rel => exact ⟨k + 1, N + costD d, m, l, by omega, by go_num, rfl, rfl, HX, HN2, Lib.hid (hR.out.later hb3), below_pre hb hb3⟩
              case measure => simp [intOf]; omega
            · have ht4 : (d.op != 1) = true := by simp [h1]
              have hr : R = none := hnone (by rw [hx]; simp [tstep, hT, h11, hl, h1])
              have HR2 := Lib.hid hr
              clear hx hnone hcost hN2 hT hr h11 h1
              go_wp2
              go_ret3
              exact ⟨by rw [HR2.out]; rfl, hb⟩
          · have HX := Lib.hid (show simT (ps.take (k + 1)) = some (l, N + costD d, m) by rw [hx]; simp [tstep, hT, h11, hl])
            clear hx hnone hcost hN2 hT h11
            go_wp2_with (first
              | (refine wpList_load_deed rfl _ rfl b (off + k * 7) rfl d hra ?_)
              | (go_at_call 37; (with_reducible refine (hcst _).mono ?_); clear hcst; rintro e w3 ⟨rfl, hb3⟩)
              | (go_at_call 36; (with_reducible refine (hadd _).mono ?_); clear hadd; rintro e w2 ⟨rfl, rfl⟩))
            go_roundw
            case rel => exact ⟨k + 1, N + costD d, m, l, by omega, by go_num, rfl, rfl, HX, HN2, Lib.hid (hR.out.later hb3), below_pre hb hb3⟩
            case measure => simp [intOf]; omega
    · obtain rfl : k = at_ := by omega
      have hr : R = some (l, N, m) := by rw [← HR.out]; exact hX.out
      have HR2 := Lib.hid hr
      clear hr
      go_wp2
      go_ret3
      exact ⟨by rw [HR2.out]; rfl, hb⟩
end Go.Proofs.YtlgjbcmkhcgigaaDoor

namespace Go.Proofs.YtlgjbcmkhcgigaaDoor
open Go.RowKit

theorem tstep_most {l : Int} {N m : Nat} {d : Deed} {l' : Int} {N' m' : Nat} (h : tstep (some (l, N, m)) d = some (l', N', m')) : m' = if d.op = 11 then max m (N + 1) else m := by
  rw [show tstep (some (l, N, m)) d = if isTake d = true then (if 0 ≤ l then none else some (d.a, 0, m)) else if d.op = 11 then (if l = d.a then some (-1, N, max m (N + 1)) else none) else if 0 ≤ l ∧ ¬ d.op = 1 then none else some (l, N + costD d, m) from rfl] at h
  split at h
  · rename_i ht
    have h11 : ¬ d.op = 11 := by
      intro e
      unfold isTake at ht
      rw [e] at ht
      exact absurd ht (by decide)
    rw [if_neg h11]
    split at h
    · cases h
    · cases h; rfl
  · split at h
    · split at h
      · cases h; rename_i h11 _; rw [if_pos h11]
      · cases h
    · rename_i h11
      rw [if_neg h11]
      split at h
      · cases h
      · cases h; rfl
theorem simT_some {ps : List Deed} {n : Nat} (hn : ps.length = n) (h : simT ps ≠ none) (k : Nat) (hk : k ≤ n) : ∃ l N m, simT (ps.take k) = some (l, N, m) := by
  cases hs : simT (ps.take k) with
  | none =>
    have := simT_stop hs n hk
    rw [← hn, List.take_length] at this
    exact absurd this h
  | some x => obtain ⟨l, N, m⟩ := x; exact ⟨l, N, m, rfl⟩
theorem simT_small {ps : List Deed} (hgp : goodP ps = true) {k : Nat} (hk : k ≤ 256) {l : Int} {N m : Nat} (h : simT (ps.take k) = some (l, N, m)) : N ≤ 16777216 := by
  have h1 := (tstep_le (ps.take k) _ _ _ _ _ _ h).2
  have h2 := sumC_take hgp k hk
  omega

set_option maxHeartbeats 400000 in
theorem RSimple_bad (p : Option Addr) (c : Nat) (ps : List Deed) (G : Nat → Prop) (w : World) (h : RP w G (.slice p ps.length c) ps) (h0 : ¬ checkN ps = 0) :
    Calls Tryd.prog 10 #[.slice p ps.length c] w fun e w' => e = .returned (.tuple (simV (simN ps))) ∧ Below w.heap.size w w' := by
  have hck := RCheck_any p c ps G w h
  have hr : simN ps = (0, false) := by unfold simN; rw [if_neg h0]
  have ht : ((checkN ps : Int) != 0) = true := by simp; omega
  rw [hr]
  clear h h0 hr
  go_enter Tryd.func10, Tryd.ntmps10
  go_wp2_with (go_at_call 12; (with_reducible refine hck.mono ?_); clear hck; rintro e w1 ⟨rfl, hb1⟩)
  go_ret2
  exact ⟨rfl, hb1⟩

set_option maxRecDepth 100000 in
set_option maxHeartbeats 4000000 in
theorem RSimple_good (p : Option Addr) (c n : Nat) (ps : List Deed) (hn : ps.length = n) (G : Nat → Prop) (w : World) (h : RP w G (.slice p n c) ps) (h0 : checkN ps = 0) :
    Calls Tryd.prog 10 #[.slice p n c] w fun e w' => e = .returned (.tuple (simV (simN ps))) ∧ Below w.heap.size w w' := by
  have hck := RCheck_any p c ps G w (by rw [hn]; exact h)
  rw [hn, h0] at hck
  obtain ⟨hl6, hgp⟩ := checkN_zero.1 h0
  have hr : simN ps = match finT (simT ps) with
    | some m => (m, true)
    | none => (0, false) := by unfold simN; rw [if_pos h0]; rfl
  rw [hn] at hl6
  have hheld : ∀ (k : Nat) (W : World), k ≤ n → RP W G (.slice p n c) ps → Calls Tryd.prog 30 #[.slice p n c, .int .i64 (k : Int)] W fun e w' => e = .returned (.tuple (heldV (simT (ps.take k)))) ∧ Below W.heap.size W w' :=
    fun k W hk hW => held_any p c n ps hn hl6 (fun d hd => goodP_mem hgp hd) k hk G W hW
  have hfull : simT (ps.take n) = simT ps := by rw [← hn, List.take_length]
  have hh1 := fun W hW => hheld n W (Nat.le_refl _) hW
  rw [hfull] at hh1
  have HH := Lib.hid hheld
  have HH1 := Lib.hid hh1
  have HF := Lib.hid hfull
  have HR := Lib.hid hr
  have H := Lib.hid h
  have HN := Lib.hid hn
  have HGP := Lib.hid hgp
  have HZ : Hid (simT (ps.take 0) = some (-1, 0, 0)) := Lib.hid (by simp [simT])
  clear h0 hr h hgp hn hheld hh1 hfull
  cases hs : simT ps with
  | none =>
    have hr := HR.out
    rw [hs] at hr
    have HR2 := Lib.hid hr
    have hh1 := HH1.out
    rw [hs] at hh1
    simp only [heldV] at hh1
    clear hr hs
    go_enter Tryd.func10, Tryd.ntmps10
    go_wp2_with (first
      | (go_at_call 12; (with_reducible refine hck.mono ?_); clear hck; rintro e w1 ⟨rfl, hb1⟩; have H1 := Lib.hid (H.out.later hb1))
      | (go_at_call 30; (with_reducible refine (hh1 _ H1.out).mono ?_); clear hh1; rintro e w2 ⟨rfl, hb2⟩))
    go_ret2
    exact ⟨by rw [HR2.out]; rfl, below_pre hb1 hb2⟩
  | some x =>
    obtain ⟨L, NN, M⟩ := x
    have hr := HR.out
    rw [hs] at hr
    have HR2 := Lib.hid hr
    have hh1 := HH1.out
    rw [hs] at hh1
    simp only [heldV] at hh1
    have hne : simT ps ≠ none := by rw [hs]; simp
    have HS := Lib.hid (simT_some HN.out hne)
    have HE : Hid (simT (ps.take n) = some (L, NN, M)) := Lib.hid (by rw [HF.out]; exact hs)
    clear hr hs hne
    by_cases hl : 0 ≤ L
    · have hr2 := HR2.out
      simp only [finT, if_pos hl] at hr2
      have HR3 := Lib.hid hr2
      clear hr2
      go_enter Tryd.func10, Tryd.ntmps10
      go_wp2_with (first
        | (go_at_call 12; (with_reducible refine hck.mono ?_); clear hck; rintro e w1 ⟨rfl, hb1⟩; have H1 := Lib.hid (H.out.later hb1))
        | (go_at_call 30; (with_reducible refine (hh1 _ H1.out).mono ?_); clear hh1; rintro e w2 ⟨rfl, hb2⟩))
      go_ret2
      exact ⟨by rw [HR3.out]; rfl, below_pre hb1 hb2⟩
    · have hr2 := HR2.out
      simp only [finT, if_neg hl] at hr2
      have HR3 := Lib.hid hr2
      clear hr2
      go_enter Tryd.func10, Tryd.ntmps10
      go_wp2_with (first
        | (go_at_call 12; (with_reducible refine hck.mono ?_); clear hck; rintro e w1 ⟨rfl, hb1⟩; have H1 := Lib.hid (H.out.later hb1))
        | (go_at_call 30; (with_reducible refine (hh1 _ H1.out).mono ?_); clear hh1; rintro e w2 ⟨rfl, hb2⟩; have H2 := Lib.hid (H1.out.later hb2); have hb3 := below_pre hb1 hb2))
      clear hl
      go_loopw [7, 8] (fun vm t wr => ∃ (k N m : Nat) (l : Int), k ≤ n ∧ t = .int .i64 k ∧ vm = .int .u64 (m : Int) ∧ Hid (simT (ps.take k) = some (l, N, m)) ∧ Hid (RP wr G (.slice p n c) ps) ∧ Below w.heap.size w wr) (fun _ t _ => n - (intOf t).toNat)
      case atStart => exact ⟨0, 0, 0, -1, by omega, rfl, rfl, HZ, H2, hb3⟩
      case round =>
        obtain ⟨k, N, m, l, hk, rfl, rfl, hX, hR, hb⟩ := hrel
        clear H H1 H2 hb1 hb2 hb3 HZ
        by_cases hlt : k < n
        · obtain ⟨d, hd⟩ : ∃ d, ps[k]? = some d := ⟨_, List.getElem?_eq_getElem (by rw [HN.out]; omega)⟩
          have hhk := HH.out k
          obtain ⟨b, off, rfl, _, _, _, hc0, _⟩ := hR.out.at hd
          have hx := simT_snoc hd
          rw [hX.out] at hx
          obtain ⟨l', N', m', hs'⟩ := HS.out (k + 1) (by omega)
          rw [hs'] at hx
          have hm := tstep_most hx.symm
          have hsm := simT_small HGP.out (by omega) hX.out
          clear hd hx
          by_cases h11 : d.op = 11
          · rw [if_pos h11] at hm
            have ht : (d.op == 11) = true := by simp [h11]
            rw [hX.out] at hhk
            simp only [heldV] at hhk
            have hw : IntKind.u64.wrap ((N : Int) + 1) = ((N + 1 : Nat) : Int) := by rw [IntKind.wrap_u64]; omega
            by_cases hgt : m < N + 1
            · have HX := Lib.hid (show simT (ps.take (k + 1)) = some (l', N', N + 1) by rw [hs', hm]; congr; omega)
              clear hm hs' h11
              go_wp2_with (first
                | (go_at_call 30; (with_reducible refine (hhk _ (by omega) hR.out).mono ?_); clear hhk; rintro e w3 ⟨rfl, hb3⟩))
              go_roundw
              case rel => exact ⟨k + 1, N', N + 1, l', by omega, by go_num, by go_num, HX, Lib.hid (hR.out.later hb3), below_pre hb hb3⟩
              case measure => simp [intOf]; omega
            · have HX := Lib.hid (show simT (ps.take (k + 1)) = some (l', N', m) by rw [hs', hm]; congr; omega)
              clear hm hs' h11
              go_wp2_with (first
                | (go_at_call 30; (with_reducible refine (hhk _ (by omega) hR.out).mono ?_); clear hhk; rintro e w3 ⟨rfl, hb3⟩))
              go_roundw
              case rel => exact ⟨k + 1, N', m, l', by omega, by go_num, rfl, HX, Lib.hid (hR.out.later hb3), below_pre hb hb3⟩
              case measure => simp [intOf]; omega
          · rw [if_neg h11] at hm
            have ht : (d.op == 11) = false := by simp [h11]
            have HX := Lib.hid (show simT (ps.take (k + 1)) = some (l', N', m) by rw [hs', hm])
            clear hm hs' h11 hhk
            go_wp2
            go_roundw
            case rel => exact ⟨k + 1, N', m, l', by omega, by go_num, rfl, HX, hR, hb⟩
            case measure => simp [intOf]; omega
        · obtain rfl : k = n := by omega
          have hm : m = M := by
            have := hX.out.symm.trans HE.out
            simp at this
            exact this.2.2
          have hr := HR3.out
          rw [← hm] at hr
          have HR4 := Lib.hid hr
          clear hm hr
          go_wp2
          go_ret2
          exact ⟨by rw [HR4.out]; rfl, hb⟩
theorem RSimple_any (p : Option Addr) (c : Nat) (ps : List Deed) (G : Nat → Prop) (w : World) (h : RP w G (.slice p ps.length c) ps) :
    Calls Tryd.prog 10 #[.slice p ps.length c] w fun e w' => e = .returned (.tuple (simV (simN ps))) ∧ Below w.heap.size w w' := by
  by_cases h0 : checkN ps = 0
  · exact RSimple_good p c _ ps rfl G w h h0
  · exact RSimple_bad p c ps G w h h0
end Go.Proofs.YtlgjbcmkhcgigaaDoor

namespace Go.Proofs.YtlgjbcmkhcgigaaDoor
open Go.RowKit

set_option maxRecDepth 100000 in
set_option maxHeartbeats 4000000 in
theorem checks_walk (v : Value) (ps : List Deed) (hok : ∀ d ∈ ps, d.ok) (w : World) (hr : RP w (fun k => k < w.heap.size) v ps) (hT : Tabs w) :
    Calls Tryd.prog 3 #[v] w fun e w' => e = .returned (.bool true) ∧ Below w.heap.size w w' := by
  obtain ⟨p, c, M, qs, rfl, hnc, hcm, hqM, hM3, hq, hqok, hcut⟩ := few_reads hr hok
  have hfew := few_any p ps.length c M hnc hcm hcut
  subst hqM
  have hsim : ∀ W, RP W (fun k => k < w.heap.size) (.slice p qs.length c) qs → Calls Tryd.prog 9 #[.slice p qs.length c] W fun e w' => e = .returned (.tuple #[.int .u64 ((simN qs).1 : Int), .bool (simN qs).2]) ∧ Below W.heap.size W w' := fun W h => Simple_any p c qs hqok _ W h
  have hrsim : ∀ W, RP W (fun k => k < w.heap.size) (.slice p qs.length c) qs → Calls Tryd.prog 10 #[.slice p qs.length c] W fun e w' => e = .returned (.tuple #[.int .u64 ((simN qs).1 : Int), .bool (simN qs).2]) ∧ Below W.heap.size W w' := fun W h => RSimple_any p c qs _ W h
  have hchk := fun W (h : RP W (fun k => k < w.heap.size) (.slice p qs.length c) qs) => Check_any p c qs hqok _ W h
  have hrchk := fun W (h : RP W (fun k => k < w.heap.size) (.slice p qs.length c) qs) => RCheck_any p c qs _ W h
  have hloc := fun W (h : RP W (fun k => k < w.heap.size) (.slice p qs.length c) qs) => Locks_any p c qs hqok _ W h
  have hrloc := fun W (h : RP W (fun k => k < w.heap.size) (.slice p qs.length c) qs) => RLocks_any p c qs _ W h
  have hstp := fun W (h : RP W (fun k => k < w.heap.size) (.slice p qs.length c) qs) => Steps_any p c qs hqok _ W h
  have hrstp := fun W (h : RP W (fun k => k < w.heap.size) (.slice p qs.length c) qs) => RSteps_any p c qs _ W h
  have hle := simN_le qs
  generalize simN qs = X at *
  obtain ⟨S, B⟩ := X
  generalize checkN qs = C at *
  generalize locksN qs = L at *
  generalize stepsN qs = T at *
  simp only at hsim hrsim hle
  have t1 : ((S : Int) != (S : Int)) = false := by simp
  have t2 : (B != B) = false := by simp
  have t3 : ((C : Int) != (C : Int)) = false := by simp
  have t4 : ((L : Int) != (L : Int)) = false := by simp
  have t5 : ((T : Int) == (T : Int)) = true := by simp
  have HA := Lib.hid awake_any
  have HT := Lib.hid hT
  have HP := Lib.hid hq
  have g : Hid (Below w.heap.size w w) := Lib.hid (Below.refl _ _)
  clear hr hq hqok hok hT hnc hcm hcut
  go_enter Tryd.func3, Tryd.ntmps3
  go_wp2_with (first
    | (go_at_call 8; (with_reducible refine (hfew _).mono ?_); clear hfew; rintro e w1 ⟨rfl, rfl⟩)
    | (go_at_call 9; (with_reducible refine (hsim _ HP.out).mono ?_); clear hsim; rintro e w1 ⟨rfl, hb1⟩; replace g := Lib.hid (g.out.trans (hb1.mono g.out.size)); replace HP := Lib.hid (HP.out.later hb1); clear hb1)
    | (go_at_call 10; (with_reducible refine (hrsim _ HP.out).mono ?_); clear hrsim; rintro e w1 ⟨rfl, hb1⟩; replace g := Lib.hid (g.out.trans (hb1.mono g.out.size)); replace HP := Lib.hid (HP.out.later hb1); clear hb1)
    | (go_at_call 11; (with_reducible refine (hchk _ HP.out).mono ?_); clear hchk; rintro e w1 ⟨rfl, hb1⟩; replace g := Lib.hid (g.out.trans (hb1.mono g.out.size)); replace HP := Lib.hid (HP.out.later hb1); clear hb1)
    | (go_at_call 12; (with_reducible refine (hrchk _ HP.out).mono ?_); clear hrchk; rintro e w1 ⟨rfl, hb1⟩; replace g := Lib.hid (g.out.trans (hb1.mono g.out.size)); replace HP := Lib.hid (HP.out.later hb1); clear hb1)
    | (go_at_call 13; (with_reducible refine (hloc _ HP.out).mono ?_); clear hloc; rintro e w1 ⟨rfl, hb1⟩; replace g := Lib.hid (g.out.trans (hb1.mono g.out.size)); replace HP := Lib.hid (HP.out.later hb1); clear hb1)
    | (go_at_call 14; (with_reducible refine (hrloc _ HP.out).mono ?_); clear hrloc; rintro e w1 ⟨rfl, hb1⟩; replace g := Lib.hid (g.out.trans (hb1.mono g.out.size)); replace HP := Lib.hid (HP.out.later hb1); clear hb1)
    | (go_at_call 16; (with_reducible refine (hstp _ HP.out).mono ?_); rintro e w1 ⟨rfl, hb1⟩; replace g := Lib.hid (g.out.trans (hb1.mono g.out.size)); replace HP := Lib.hid (HP.out.later hb1); clear hb1)
    | (go_at_call 17; (with_reducible refine (hrstp _ HP.out).mono ?_); clear hrstp; rintro e w1 ⟨rfl, hb1⟩; replace g := Lib.hid (g.out.trans (hb1.mono g.out.size)); replace HP := Lib.hid (HP.out.later hb1); clear hb1)
    | (go_at_call 15; (with_reducible refine (HA.out _ (HT.out.below g.out (Nat.le_refl _))).mono ?_); rintro e w1 ⟨rfl, hb1⟩; replace g := Lib.hid (g.out.trans (hb1.mono g.out.size)); replace HP := Lib.hid (HP.out.later hb1); clear hb1))
  go_ret
  exact ⟨rfl, g.out⟩
end Go.Proofs.YtlgjbcmkhcgigaaDoor
