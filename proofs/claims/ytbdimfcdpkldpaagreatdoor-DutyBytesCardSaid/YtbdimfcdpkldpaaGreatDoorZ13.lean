/- The contract of addLine. -/
import Derived.Test.YtbdimfcdpkldpaaGreatDoorZ12
import Derived.Test.YtbdimfcdpkldpaaGreatDoorYM5
namespace Go.Proofs.YtbdimfcdpkldpaaGreatDoor
open Go.RowKit

theorem own_nil_iff {w : World} {B n : Nat} {e : TypeId} {p : Option Addr} {c : Nat} {xs : List Value} (h : w.ownsRow B e 1 (.slice p n c) n xs) (hn : 0 < n) : p.isNone = false := by
  rcases h.2 with ⟨hv, _⟩ | ⟨g, cap, cur, hv, _⟩
  · cases hv
    exact absurd hn (by omega)
  · cases hv
    rfl
/-- What addLine answers: the code, and what the draft then is. -/
def AddsTo (w w' : World) (B b : Nat) (_dr : Dr) (n : Nat) (R : Dut × Nat) : Prop :=
  Below B w w' ∧ (R.2 = 0 → ∃ dr', dr'.ok ∧ dr'.head ≠ [] ∧ dr'.few (n + 1) ∧ DrAt w' B b dr' ∧ drS dr' = R.1)

set_option maxRecDepth 100000 in
set_option maxHeartbeats 8000000 in
theorem AddLine_any (B b : Nat) (dr : Dr) (hok : dr.ok) (n : Nat) (hfew : dr.few n) (hn : n ≤ 19000) (s : ByteArray) (hs : s.size ≤ 4000) (w : World) (hB : B ≤ w.heap.size) (h : DrAt w B b dr) :
    Calls Tryz.prog 36 #[.pointer (some ⟨b, 0, none⟩), .string s] w fun e w' => e = .returned (.int .i64 ((lineY (drS dr) s.data.toList dr.head.isEmpty).2 : Nat)) ∧ AddsTo w w' B b dr n (lineY (drS dr) s.data.toList dr.head.isEmpty) := by
  have hnil : ∀ (W : World) (a : Option Addr) (n c n' c' : Nat), (binOp .eql 54 (.slice a n c) (.slice none n' c')).run Tryz.prog W = .ok (.bool a.isNone) W := fun W a n c n' c' => Lib.run_eql_slice_nil W _ _ a n c n' c' Tryz.underlying54
  have hw := fun W => Words_any s hs W
  have hsm := words_small s.data.toList hs
  cases hD : wordsGo [] s.data.toList with
  | nil =>
    rw [lineY_nil _ hD]
    rw [hD] at hw
    clear hok hfew hnil hsm
    have hb0 := h.1
    go_enter Tryz.func36, Tryz.ntmps36
    go_wp2_with (go_at_call 73; (with_reducible refine (hw _).mono ?_); clear hw; rintro e w1 ⟨v, rfl, hown, hb1⟩; obtain ⟨p, c, rfl⟩ := own_shape9 hown)
    go_ret
    exact ⟨rfl, hb1.mono hB, fun e => by cases e⟩
  | cons z ws =>
    rw [hD] at hw hsm
    have hwl : ws.length ≤ 3999 := by have := hsm.1; simp at this; omega
    by_cases hh : dr.head = []
    · have he : dr.head.isEmpty = true := by rw [hh]; rfl
      rw [he, lineY_first hD]
      obtain ⟨hpe, hse⟩ := hok.first hh
      have hadd := fun (p : Option Addr) (c : Nat) (W : World) (hv : RV W (fun k => k < W.heap.size) (.slice p (ws.length + 1) c) (ws.length + 1) 1 ((z :: ws).map sV)) (hBW : B ≤ W.heap.size) (hd : DrAt W B b dr) => AddHead_any B b dr z ws hwl p c _ W (fun k hk => hk) hv hBW hd
      have hcell : ∀ W, DrAt W B b dr → W.cell? ⟨b, 0, none⟩ = some (.slice none 0 0) := fun W hW => by
        obtain ⟨_, ov, pv, sv, hk, h0, _⟩ := hW
        rw [hk.cell 0, h0 hh]
        rfl
      have HD := Lib.hid h
      have HBI := Lib.hid hB
      clear he hsm hD h hB
      have HPost : ∀ (W : World), Below B w W → (z = dutyW → ∀ xs, numsR 5 2 ws = some xs → xs ≠ [] → DrAt W B b { dr with head := xs }) → AddsTo w W B b dr n (if z = dutyW then headY (drS dr) (readY ws 2) else (drS dr, 15)) := fun W hb hd => by
        refine ⟨hb, fun h0 => ?_⟩
        by_cases hz : z = dutyW
        · rw [if_pos hz] at h0 ⊢
          cases hR : numsR 5 2 ws with
          | none =>
            rw [head_none _ hR] at h0
            cases h0
          | some xs =>
            rw [head_some _ hR]
            have hl := (numsR_len hR).1
            have hne : xs ≠ [] := fun e => by rw [e] at hl; cases hl
            refine ⟨{ dr with head := xs }, ⟨.inr hl, fun e => absurd e hne, ?_, hok.progs, hok.starts⟩, hne, ⟨Nat.le_succ_of_le hfew.1, Nat.le_succ_of_le hfew.2.1, fun p hp => Nat.le_succ_of_le (hfew.2.2 p hp)⟩, hd hz xs hR hne, ?_⟩
            · intro x hx
              have := (numsR_len hR).2
              unfold readY at this
              exact readYGo_lt _ _ _ this x hx
            · unfold drS
              rw [hpe, hse]
        · rw [if_neg hz] at h0
          cases h0
      have hcode : ((if z = dutyW then codeR (numsR 5 2 ws) else 15 : Nat)) = (if z = dutyW then headY (drS dr) (readY ws 2) else (drS dr, 15)).2 := by
        by_cases hz : z = dutyW
        · rw [if_pos hz, if_pos hz]
          cases hR : numsR 5 2 ws with
          | none => rw [head_none _ hR]; rfl
          | some xs => rw [head_some _ hR]; rfl
        · rw [if_neg hz, if_neg hz]
      rw [← hcode]
      have HP := Lib.hid HPost
      generalize (if z = dutyW then headY (drS dr) (readY ws 2) else (drS dr, 15)) = R at *
      clear hok hfew HPost hh hpe hse hcode
      generalize (if z = dutyW then codeR (numsR 5 2 ws) else 15 : Nat) = code at *
      go_enter Tryz.func36, Tryz.ntmps36
      go_wp2_with (first
        | rw [hnil]
        | (go_at_call 73; (with_reducible refine (hw _).mono ?_); clear hw; rintro e w1 ⟨v, rfl, hown, hb1⟩; rw [List.length_cons] at hown; obtain ⟨p, c, rfl⟩ := own_shape9 hown; have hrv := (RV.of_own hown).mono (G' := fun k => k < w1.heap.size) (fun k hk _ => hk); have hd1 := HD.out.below hb1; have hc0 := hcell _ hd1)
        | (go_at_call 74; (with_reducible refine (hadd _ _ _ hrv (Nat.le_trans HBI.out hb1.size) hd1).mono ?_); clear hadd; rintro e w2 ⟨rfl, hb2, hd2⟩))
      go_ret
      exact ⟨rfl, HP.out _ ((hb1.mono HBI.out).trans hb2) hd2⟩
    · have he : dr.head.isEmpty = false := by
        cases hq : dr.head with
        | nil => exact absurd hq hh
        | cons x xs => rfl
      have hl7 : dr.head.length = 7 := hok.head.resolve_left hh
      rw [he]
      have hcell : ∀ W, DrAt W B b dr → ∃ p c, W.cell? ⟨b, 0, none⟩ = some (.slice p 7 c) ∧ p.isNone = false := fun W hW => by
        obtain ⟨_, ov, pv, sv, hk, h0, h1, _⟩ := hW
        rw [hl7] at h1
        obtain ⟨p, c, rfl⟩ := own_shape9 h1
        exact ⟨p, c, hk.cell 0, own_nil_iff h1 (by decide)⟩
      have HD := Lib.hid h
      have HBI := Lib.hid hB
      obtain ⟨Z, hZ⟩ : ∃ Z : ByteArray, Z = ⟨z.toArray⟩ := ⟨_, rfl⟩
      have HZ := Lib.hid hZ
      have hfr : ∀ R : Dut × Nat, R.2 ≠ 0 → ∀ W, Below B w W → AddsTo w W B b dr n R := fun R h0 W hb => ⟨hb, fun e => absurd e h0⟩
      clear he h hB
      by_cases h1 : z = startW
      · subst h1
        rw [lineY_start hD]
        have tz := str_is Z startW startW hZ true (by decide)
        unfold startW at tz
        have hadd := fun (p : Option Addr) (c : Nat) (W : World) (hv : RV W (fun k => k < W.heap.size) (.slice p (ws.length + 1) c) (ws.length + 1) 1 ((startW :: ws).map sV)) (hBW : B ≤ W.heap.size) (hd : DrAt W B b dr) => AddStart_any B b dr (by have := hfew.2.1; omega) startW ws hwl p c _ W (fun k hk => hk) hv hBW hd
        have HPost : ∀ (W : World), Below B w W → (∀ xs, numsR 2 1 ws = some xs → DrAt W B b { dr with starts := dr.starts ++ [xs] }) → AddsTo w W B b dr n (startY (drS dr) (readY ws 1)) := fun W hb hd => by
          refine ⟨hb, fun h0 => ?_⟩
          cases hR : numsR 2 1 ws with
          | none =>
            rw [start_none _ hR] at h0
            cases h0
          | some xs =>
            rw [start_some _ hR]
            refine ⟨{ dr with starts := dr.starts ++ [xs] }, ⟨hok.head, fun e => absurd e hh, hok.big, hok.progs, fun l hl => ?_⟩, hh, ⟨Nat.le_succ_of_le hfew.1, ?_, fun p hp => Nat.le_succ_of_le (hfew.2.2 p hp)⟩, hd xs hR, ?_⟩
            · rcases List.mem_append.1 hl with hl | hl
              · exact hok.starts l hl
              · rw [List.mem_singleton] at hl
                subst hl
                refine ⟨(numsR_len hR).1, fun x hx => ?_⟩
                have := (numsR_len hR).2
                unfold readY at this
                exact readYGo_lt _ _ _ this x hx
            · have := hfew.2.1
              simp
              omega
            · unfold drS
              simp
        have hcode : (codeR (numsR 2 1 ws)) = (startY (drS dr) (readY ws 1)).2 := by
          cases hR : numsR 2 1 ws with
          | none => rw [start_none _ hR]; rfl
          | some xs => rw [start_some _ hR]; rfl
        rw [← hcode]
        have HP := Lib.hid HPost
        generalize startY (drS dr) (readY ws 1) = R at *
        clear hok hfew HPost hh hcode hfr hsm hD
        go_enter Tryz.func36, Tryz.ntmps36
        go_wp2_with (first
          | rw [hnil]
          | (go_at_call 73; (with_reducible refine (hw _).mono ?_); clear hw; rintro e w1 ⟨v, rfl, hown, hb1⟩; rw [List.length_cons] at hown; obtain ⟨p, c, rfl⟩ := own_shape9 hown; obtain ⟨bw, off, rfl, _, _, hcw⟩ := (RV.of_own hown).at1 0 _ rfl; rw [Nat.add_zero] at hcw; replace hcw := hcw.trans (show some (sV startW) = some (.string Z) by rw [HZ.out]; rfl); have hrv := (RV.of_own hown).mono (G' := fun k => k < w1.heap.size) (fun k hk _ => hk); have hd1 := HD.out.below hb1; obtain ⟨hp, hcc, hc0, hnn⟩ := hcell _ hd1)
          | (go_at_call 75; (with_reducible refine (hadd _ _ _ hrv (Nat.le_trans HBI.out hb1.size) hd1).mono ?_); clear hadd; rintro e w2 ⟨rfl, hb2, hd2⟩))
        go_ret
        exact ⟨rfl, HP.out _ ((hb1.mono HBI.out).trans hb2) hd2⟩
      · by_cases h2 : z = progW
        · subst h2
          rw [lineY_prog hD]
          have tz := str_is Z progW startW hZ false (by decide)
          have tz2 := str_is Z progW progW hZ true (by decide)
          unfold startW at tz
          unfold progW at tz2
          have hadd := fun (p : Option Addr) (c : Nat) (W : World) (hBW : B ≤ W.heap.size) (hd : DrAt W B b dr) => AddProg_any B b dr (by have := hfew.1; omega) progW ws p c W hBW hd
          have hse : (drS dr).starts ≠ [] ↔ dr.starts ≠ [] := by unfold drS; simp
          have hcode : ((if dr.starts ≠ [] then 15 else if ws = [] then 0 else 3 : Nat)) = (if (drS dr).starts ≠ [] then (drS dr, 15) else if ws = [] then ({ drS dr with progs := (drS dr).progs ++ [[]] }, 0) else (drS dr, 3)).2 := by
            by_cases hs : dr.starts ≠ []
            · rw [if_pos hs, if_pos (hse.2 hs)]
            · rw [if_neg hs, if_neg (fun e => hs (hse.1 e))]
              by_cases hq : ws = []
              · rw [if_pos hq, if_pos hq]
              · rw [if_neg hq, if_neg hq]
          have HPost : ∀ (W : World), Below B w W → (dr.starts = [] → ws = [] → DrAt W B b { dr with progs := dr.progs ++ [[]] }) → AddsTo w W B b dr n (if (drS dr).starts ≠ [] then (drS dr, 15) else if ws = [] then ({ drS dr with progs := (drS dr).progs ++ [[]] }, 0) else (drS dr, 3)) := fun W hb hd => by
            refine ⟨hb, fun h0 => ?_⟩
            by_cases hs : dr.starts ≠ []
            · rw [if_pos (hse.2 hs)] at h0
              cases h0
            · rw [if_neg (fun e => hs (hse.1 e))] at h0 ⊢
              by_cases hq : ws = []
              · rw [if_pos hq]
                refine ⟨{ dr with progs := dr.progs ++ [[]] }, ⟨hok.head, fun e => absurd e hh, hok.big, fun p hp x hx => ?_, hok.starts⟩, hh, ⟨?_, Nat.le_succ_of_le hfew.2.1, fun p hp => ?_⟩, hd (by simpa using hs) hq, rfl⟩
                · rcases List.mem_append.1 hp with hp | hp
                  · exact hok.progs p hp x hx
                  · rw [List.mem_singleton] at hp
                    subst hp
                    cases hx
                · have := hfew.1
                  simp
                  omega
                · rcases List.mem_append.1 hp with hp | hp
                  · exact Nat.le_succ_of_le (hfew.2.2 p hp)
                  · rw [List.mem_singleton] at hp
                    subst hp
                    simp
              · rw [if_neg hq] at h0
                cases h0
          rw [← hcode]
          have HP := Lib.hid HPost
          generalize (if (drS dr).starts ≠ [] then (drS dr, 15) else if ws = [] then ({ drS dr with progs := (drS dr).progs ++ [[]] }, 0) else (drS dr, 3)) = R at *
          clear hok hfew HPost hh hcode hfr hsm hD hse h1
          generalize (if dr.starts ≠ [] then 15 else if ws = [] then 0 else 3 : Nat) = code at *
          go_enter Tryz.func36, Tryz.ntmps36
          go_wp2_with (first
            | rw [hnil]
            | (go_at_call 73; (with_reducible refine (hw _).mono ?_); clear hw; rintro e w1 ⟨v, rfl, hown, hb1⟩; rw [List.length_cons] at hown; obtain ⟨p, c, rfl⟩ := own_shape9 hown; obtain ⟨bw, off, rfl, _, _, hcw⟩ := (RV.of_own hown).at1 0 _ rfl; rw [Nat.add_zero] at hcw; replace hcw := hcw.trans (show some (sV progW) = some (.string Z) by rw [HZ.out]; rfl); have hd1 := HD.out.below hb1; obtain ⟨hp, hcc, hc0, hnn⟩ := hcell _ hd1)
            | (go_at_call 76; (with_reducible refine (hadd _ _ _ (Nat.le_trans HBI.out hb1.size) hd1).mono ?_); clear hadd; rintro e w2 ⟨rfl, hb2, hd2⟩))
          go_ret
          exact ⟨rfl, HP.out _ ((hb1.mono HBI.out).trans hb2) hd2⟩
        · have tz := str_is Z z startW hZ false (decide_eq_false h1)
          have tz2 := str_is Z z progW hZ false (decide_eq_false h2)
          unfold startW at tz
          unfold progW at tz2
          have hcall : ∀ W, B ≤ W.heap.size → DrAt W B b dr → Calls Tryz.prog 77 #[.pointer (some ⟨b, 0, none⟩), .string s] W fun e w' => e = .returned (.int .i64 ((lineY (drS dr) s.data.toList false).2 : Nat)) ∧ Below B W w' ∧ ((lineY (drS dr) s.data.toList false).2 = 0 → ∃ dr', dr'.ok ∧ dr'.head ≠ [] ∧ dr'.few (n + 1) ∧ DrAt w' B b dr' ∧ drS dr' = (lineY (drS dr) s.data.toList false).1) := fun W hBW hW => by
            have hse : (drS dr).starts ≠ [] ↔ dr.starts ≠ [] := by unfold drS; simp
            by_cases hout : dr.progs = [] ∨ dr.starts ≠ []
            · have hl15 : (lineY (drS dr) s.data.toList false).2 = 15 := by
                by_cases h3 : z = dutyW
                · subst h3
                  rw [lineY_duty hD]
                · rw [lineY_other hD h3 h1 h2]
                  by_cases hs : dr.starts ≠ []
                  · rw [if_pos (hse.2 hs)]
                  · rw [if_neg (fun e => hs (hse.1 e)), if_neg (fun e => e.2 (hout.resolve_right hs))]
              refine (AddDeed_out B b dr s W hout hW (by have := hfew.1; omega)).mono ?_
              rintro e w' ⟨rfl, rfl⟩
              rw [hl15]
              exact ⟨rfl, Below.refl _ _, fun e => by cases e⟩
            · have hpn : dr.progs ≠ [] := fun e => hout (.inl e)
              have hsn : dr.starts = [] := by
                by_cases hs : dr.starts = []
                · exact hs
                · exact absurd (.inr hs) hout
              obtain ⟨qs, p, hpq⟩ : ∃ qs p, dr.progs = qs ++ [p] := ⟨dr.progs.dropLast, dr.progs.getLast hpn, (List.dropLast_concat_getLast hpn).symm⟩
              have hql : qs.length ≤ n := by have := hfew.1; rw [hpq] at this; simp at this; omega
              have hpl : p.length ≤ n := hfew.2.2 p (by rw [hpq]; simp)
              have hcode : (lineY (drS dr) s.data.toList false).2 = (parseD s.data.toList).2 ∧ ((parseD s.data.toList).2 = 0 → (lineY (drS dr) s.data.toList false).1 = drS { dr with progs := qs ++ [p ++ [(parseD s.data.toList).1]] }) := by
                have hsn2 : ¬ (drS dr).starts ≠ [] := fun e => (hse.1 e) hsn
                by_cases h3 : z = dutyW
                · subst h3
                  have h15 := parseD_word hD (by decide)
                  rw [lineY_duty hD, h15]
                  exact ⟨rfl, fun e => by cases e⟩
                · rw [lineY_other hD h3 h1 h2, if_neg hsn2]
                  by_cases h0 : opOf z = 0
                  · have h15 := parseD_word hD h0
                    rw [if_neg (fun e => e.1 h0), h15]
                    exact ⟨rfl, fun e => by cases e⟩
                  · rw [if_pos ⟨h0, hpn⟩]
                    by_cases hp0 : (parseD s.data.toList).2 = 0
                    · rw [if_pos hp0, hp0]
                      refine ⟨rfl, fun _ => ?_⟩
                      show ({ drS dr with progs := addLast (drS dr).progs (parseD s.data.toList).1 } : Dut) = _
                      rw [show (drS dr).progs = qs ++ [p] from hpq, addLast_concat]
                      rfl
                    · rw [if_neg hp0]
                      exact ⟨rfl, fun e => absurd e hp0⟩
              refine (AddDeed_in B b dr s hs qs p hpq hsn (by omega) (by omega) W hBW hW).mono ?_
              rintro e w' ⟨rfl, hb, hd⟩
              rw [hcode.1]
              refine ⟨rfl, hb, fun e0 => ⟨{ dr with progs := qs ++ [p ++ [(parseD s.data.toList).1]] }, ⟨hok.head, fun e => absurd e hh, hok.big, fun q hq x hx => ?_, hok.starts⟩, hh, ⟨?_, Nat.le_succ_of_le hfew.2.1, fun q hq => ?_⟩, hd, (hcode.2 e0).symm⟩⟩
              · rcases List.mem_append.1 hq with hq | hq
                · exact hok.progs q (by rw [hpq]; exact List.mem_append_left _ hq) x hx
                · rw [List.mem_singleton] at hq
                  subst hq
                  rcases List.mem_append.1 hx with hx | hx
                  · exact hok.progs p (by rw [hpq]; simp) x hx
                  · rw [List.mem_singleton] at hx
                    subst hx
                    exact (parseD_ok e0).1
              · simp
                omega
              · rcases List.mem_append.1 hq with hq | hq
                · exact Nat.le_succ_of_le (hfew.2.2 q (by rw [hpq]; exact List.mem_append_left _ hq))
                · rw [List.mem_singleton] at hq
                  subst hq
                  simp
                  omega
          have HC := Lib.hid hcall
          generalize lineY (drS dr) s.data.toList false = R at *
          clear hok hfew hh hfr hsm hD hcall h1 h2 hZ
          go_enter Tryz.func36, Tryz.ntmps36
          go_wp2_with (first
            | rw [hnil]
            | (go_at_call 73; (with_reducible refine (hw _).mono ?_); clear hw; rintro e w1 ⟨v, rfl, hown, hb1⟩; rw [List.length_cons] at hown; obtain ⟨p, c, rfl⟩ := own_shape9 hown; obtain ⟨bw, off, rfl, _, _, hcw⟩ := (RV.of_own hown).at1 0 _ rfl; rw [Nat.add_zero] at hcw; replace hcw := hcw.trans (show some (sV z) = some (.string Z) by rw [HZ.out]; rfl); have hd1 := HD.out.below hb1; obtain ⟨hp, hcc, hc0, hnn⟩ := hcell _ hd1)
            | (go_at_call 77; (with_reducible refine (HC.out _ (Nat.le_trans HBI.out hb1.size) hd1).mono ?_); clear HC; rintro e w2 ⟨rfl, hb2, hd2⟩))
          go_ret
          exact ⟨rfl, (hb1.mono HBI.out).trans hb2, hd2⟩
end Go.Proofs.YtbdimfcdpkldpaaGreatDoor
