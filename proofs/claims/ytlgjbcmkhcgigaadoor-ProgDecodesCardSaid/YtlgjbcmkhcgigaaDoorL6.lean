/- ProgDecodes. -/
import Derived.Test.YtlgjbcmkhcgigaaDoorLV1
import Derived.Test.YtlgjbcmkhcgigaaDoorLV2
import Derived.Test.YtlgjbcmkhcgigaaDoorLM1
import Derived.Test.YtlgjbcmkhcgigaaDoorLW2
namespace Go.Proofs.YtlgjbcmkhcgigaaDoor
open Go.RowKit
open Wire (bV)

theorem slice2000 {w : World} {G : Nat → Prop} {x : Value} {l : List UInt8} (hr : RV w G x l.length 1 (l.map bV)) :
    ∃ (p : Option Addr) (c M : Nat) (k : List UInt8), x = .slice p l.length c ∧ l.length ≤ c ∧ c ≤ maxLen ∧ k.length = M ∧ M ≤ 2000 ∧ RV w G (.slice p M c) M 1 (k.map bV) ∧ ((2000 < l.length ∧ M = 2000) ∨ (¬ 2000 < l.length ∧ M = l.length)) := by
  by_cases h : 2000 < l.length
  · obtain ⟨p, c, hv, hc, hm, hr6⟩ := hr.first 2000 (by omega)
    exact ⟨p, c, 2000, l.take 2000, hv, hc, hm, by rw [List.length_take]; omega, by omega, by rw [List.map_take]; exact hr6, .inl ⟨h, rfl⟩⟩
  · obtain ⟨p, c, hv, hc, hm, _⟩ := id hr
    subst hv
    exact ⟨p, c, l.length, l, rfl, hc, hm, rfl, by omega, hr, .inr ⟨h, rfl⟩⟩

set_option maxRecDepth 100000 in
set_option maxHeartbeats 8000000 in
theorem decodes_walk (x : Value) (bl : List UInt8) (w : World) (hr0 : RV w (fun k => k < w.heap.size) x bl.length 1 (bl.map bV)) (hT : Tabs w) :
    Calls Tryd.prog 7 #[x] w fun e w' => e = .returned (.bool true) ∧ Below w.heap.size w w' := by
  have hlb := hr0.len
  obtain ⟨p, c, M, l, rfl, hc, hm, hlM, hl2, hr, hcut⟩ := slice2000 hr0
  unfold maxLen at hm hlb
  have hdec : Calls Tryd.prog 25 #[.slice p M c] w fun e w' => ∃ v, e = .returned (.tuple #[v, .int .i64 ((decP l).2 : Int)]) ∧ w'.ownsRow w.heap.size 45 7 v (decP l).1.length ((decP l).1.flatMap dCells) ∧ Below w.heap.size w w' := Decode_any _ l (by omega) _ w (by rw [hlM]; exact hr)
  have hrdec : ∀ W : World, w.heap.size ≤ W.heap.size → RV W (fun k => k < w.heap.size) (.slice p M c) M 1 (l.map bV) → Calls Tryd.prog 27 #[.slice p M c] W fun e w' => ∃ v, e = .returned (.tuple #[v, .int .i64 ((decP l).2 : Int)]) ∧ w'.ownsRow W.heap.size 45 7 v (decP l).1.length ((decP l).1.flatMap dCells) ∧ Below W.heap.size W w' := fun W hs h => RDecode_any p _ c l (by omega) (fun k => k < w.heap.size) W (fun k hk => Nat.lt_of_lt_of_le hk hs) (by rw [hlM]; exact h)
  have hback := decP_back (l := l)
  have hbad := decP_bad (l := l)
  have hlen : (decP l).1.length ≤ 256 := by
    by_cases hz : (decP l).2 = 0
    · exact (checkN_zero.1 (hback hz).2.2).1
    · rw [hbad hz]; simp
  generalize decP l = Q at *
  obtain ⟨qs, y⟩ := Q
  simp only at hdec hrdec hback hbad hlen
  have HSM : Hid (∀ (p1 p' : Option Addr) (c1 c' : Nat) (W : World), RP W (fun _ => True) (.slice p1 qs.length c1) qs → RP W (fun _ => True) (.slice p' qs.length c') qs → Calls Tryd.prog 21 #[.slice p1 qs.length c1, .slice p' qs.length c'] W fun e w' => e = .returned (.bool true) ∧ Below W.heap.size W w') := Lib.hid (fun p1 p' c1 c' W h h' => by
    have := Same_any p1 p' c1 c' qs qs (by omega) _ _ W h h'
    rw [(sameP_iff qs qs).2 rfl] at this
    exact this)
  have t1 : ((y : Int) != (y : Int)) = false := by simp
  have HA := Lib.hid awake_any
  have HT := Lib.hid hT
  have HR := Lib.hid hr
  have HRD := Lib.hid hrdec
  have HLM := Lib.hid hlM
  obtain ⟨TX, hTX⟩ : ∃ TX : ByteArray, TX = ⟨l.toArray⟩ := ⟨_, rfl⟩
  have t9 : (TX.toList == TX.toList) = true := by simp
  by_cases hy : y = 0
  · obtain ⟨e1, hok, h0⟩ := hback hy
    have HENC := Lib.hid (fun (p1 : Option Addr) (c1 : Nat) (W : World) (h : RP W (fun _ => True) (.slice p1 qs.length c1) qs) => Encode_good p1 c1 qs hok (fun k => k < W.heap.size) W (fun k hk => hk) (RV.mono h (fun k hk _ => hk)) h0)
    have t2 : ((y : Int) != 0) = false := by rw [hy]; rfl
    rw [← e1] at HENC
    have HTX := Lib.hid hTX
    clear hback hbad hlen e1 hok h0 hy hr hr0 hT hrdec hTX hl2 hlM
    rcases hcut with ⟨h3, rfl⟩ | ⟨h3, rfl⟩
    all_goals
      go_enter Tryd.func7, Tryd.ntmps7
      go_wp2_with (first
        | (go_at_call 25; (with_reducible refine hdec.mono ?_); clear hdec; rintro e w1 ⟨v1, rfl, hown1, hb1⟩; obtain ⟨p1, c1, rfl, hq1⟩ := rp_own hown1 rfl; have HP := Lib.hid hq1; clear hq1 hown1; have g : Hid (Below w.heap.size w w1) := Lib.hid hb1; replace HR := Lib.hid (RV.below HR.out hb1 (fun k hk _ => hk)); clear hb1)
        | (go_at_call 27; (with_reducible refine (HRD.out _ g.out.size HR.out).mono ?_); rintro e w2 ⟨v2, rfl, hown2, hb2⟩; obtain ⟨p2, c2, rfl, hq2⟩ := rp_own hown2 rfl; have HQ := Lib.hid hq2; clear hq2 hown2; replace HP := Lib.hid (HP.out.later hb2); replace HR := Lib.hid (RV.below HR.out hb2 (fun k hk _ => hk)); replace g := Lib.hid (g.out.trans (hb2.mono g.out.size)); clear hb2)
        | (go_at_call 21; (with_reducible refine (HSM.out _ _ _ _ _ HP.out HQ.out).mono ?_); rintro e w3 ⟨rfl, hb2⟩; replace HP := Lib.hid (HP.out.later hb2); replace HR := Lib.hid (RV.below HR.out hb2 (fun k hk _ => hk)); replace g := Lib.hid (g.out.trans (hb2.mono g.out.size)); clear hb2 HQ)
        | (go_at_call 15; (with_reducible refine (HA.out _ (HT.out.below g.out (Nat.le_refl _))).mono ?_); rintro e w4 ⟨rfl, hb2⟩; replace HP := Lib.hid (HP.out.later hb2); replace HR := Lib.hid (RV.below HR.out hb2 (fun k hk _ => hk)); replace g := Lib.hid (g.out.trans (hb2.mono g.out.size)); clear hb2)
        | (go_at_call 23; (with_reducible refine (HENC.out _ _ _ HP.out).mono ?_); rintro e w5 ⟨x5, rfl, hown5, hb2⟩; replace HR := Lib.hid (RV.below HR.out hb2 (fun k hk _ => hk)); replace g := Lib.hid (g.out.trans (hb2.mono g.out.size)); have hr5 := RV.of_own hown5; obtain ⟨px, cx, rfl, _⟩ := id hr5; have hr6 := HR.out; rw [← HLM.out] at hr6; have q1 := Wire.text_rv (P := Tryd.prog) 37 5 9 Tryd.underlying37 Tryd.underlying5 Tryd.underlying9 hr5; have q2 := Wire.text_rv (P := Tryd.prog) 37 5 9 Tryd.underlying37 Tryd.underlying5 Tryd.underlying9 hr6; rw [← HTX.out] at q1 q2; rw [HLM.out] at q2; clear hr5 hr6 hown5 hb2))
      go_ret
      exact ⟨rfl, g.out⟩
  · have hq0 := hbad hy
    have tq : ((qs.length : Int) == 0) = true := by rw [hq0]; rfl
    clear hq0
    have t2 : ((y : Int) != 0) = true := by simp; omega
    clear hback hbad hlen hy hr hr0 hT hrdec hTX hl2 hlM
    rcases hcut with ⟨h3, rfl⟩ | ⟨h3, rfl⟩
    all_goals
      go_enter Tryd.func7, Tryd.ntmps7
      go_wp2_with (first
        | (go_at_call 25; (with_reducible refine hdec.mono ?_); clear hdec; rintro e w1 ⟨v1, rfl, hown1, hb1⟩; obtain ⟨p1, c1, rfl, hq1⟩ := rp_own hown1 rfl; have HP := Lib.hid hq1; clear hq1 hown1; have g : Hid (Below w.heap.size w w1) := Lib.hid hb1; replace HR := Lib.hid (RV.below HR.out hb1 (fun k hk _ => hk)); clear hb1)
        | (go_at_call 27; (with_reducible refine (HRD.out _ g.out.size HR.out).mono ?_); rintro e w2 ⟨v2, rfl, hown2, hb2⟩; obtain ⟨p2, c2, rfl, hq2⟩ := rp_own hown2 rfl; have HQ := Lib.hid hq2; clear hq2 hown2; replace HP := Lib.hid (HP.out.later hb2); replace g := Lib.hid (g.out.trans (hb2.mono g.out.size)); clear hb2)
        | (go_at_call 21; (with_reducible refine (HSM.out _ _ _ _ _ HP.out HQ.out).mono ?_); rintro e w3 ⟨rfl, hb2⟩; replace g := Lib.hid (g.out.trans (hb2.mono g.out.size)); clear hb2 HQ)
        | (go_at_call 15; (with_reducible refine (HA.out _ (HT.out.below g.out (Nat.le_refl _))).mono ?_); rintro e w4 ⟨rfl, hb2⟩; replace g := Lib.hid (g.out.trans (hb2.mono g.out.size)); clear hb2))
      go_ret
      exact ⟨rfl, g.out⟩
end Go.Proofs.YtlgjbcmkhcgigaaDoor
