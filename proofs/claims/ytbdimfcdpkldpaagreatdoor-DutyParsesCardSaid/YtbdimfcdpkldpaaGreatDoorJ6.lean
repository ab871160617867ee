/- The contract of the reference's line, whole. -/
import Derived.Test.YtbdimfcdpkldpaaGreatDoorJ3
import Derived.Test.YtbdimfcdpkldpaaGreatDoorJ4
import Derived.Test.YtbdimfcdpkldpaaGreatDoorJ5
import Derived.Test.YtbdimfcdpkldpaaGreatDoorZ13
namespace Go.Proofs.YtbdimfcdpkldpaaGreatDoor
open Go.RowKit

def Dut.few (d : Dut) (n : Nat) : Prop := d.progs.length ≤ n ∧ d.starts.length ≤ n ∧ ∀ p ∈ d.progs, p.length ≤ n
theorem Dut.few.up {d : Dut} {n : Nat} (h : d.few n) : d.few (n + 1) := ⟨Nat.le_succ_of_le h.1, Nat.le_succ_of_le h.2.1, fun p hp => Nat.le_succ_of_le (h.2.2 p hp)⟩
theorem addLast_few : ∀ (ps : List (List Deed)) (x : Deed) (n : Nat), (∀ p ∈ ps, p.length ≤ n) → ∀ p ∈ addLast ps x, p.length ≤ n + 1
  | [], _, _, _, p, hp => by simp [addLast] at hp
  | [q], x, n, h, p, hp => by
    simp only [addLast, List.mem_cons, List.not_mem_nil, or_false] at hp
    subst hp
    have := h q (by simp)
    rw [List.length_append]
    simp
    omega
  | q :: r :: ps, x, n, h, p, hp => by
    rw [addLast] at hp
    rcases List.mem_cons.1 hp with rfl | hp
    · exact Nat.le_succ_of_le (h p (by simp))
    · exact addLast_few (r :: ps) x n (fun u hu => h u (List.mem_cons_of_mem _ hu)) p hp
theorem lineY_few {d : Dut} {n : Nat} (hd : d.few n) (l : List UInt8) (b : Bool) : (lineY d l b).1.few (n + 1) := by
  unfold lineY
  split
  · exact hd.up
  · split
    · split
      · unfold headY
        split
        · exact ⟨by simp, by simp, fun p hp => nomatch hp⟩
        · exact hd.up
      · split
        · unfold startY
          split
          · refine ⟨Nat.le_succ_of_le hd.1, ?_, fun p hp => Nat.le_succ_of_le (hd.2.2 p hp)⟩
            have := hd.2.1
            simp
            omega
          · exact hd.up
        · split
          · exact hd.up
          · split
            · split
              · refine ⟨?_, Nat.le_succ_of_le hd.2.1, fun p hp => ?_⟩
                · have := hd.1
                  simp
                  omega
                · rcases List.mem_append.1 hp with hp | hp
                  · exact Nat.le_succ_of_le (hd.2.2 p hp)
                  · simp only [List.mem_cons, List.not_mem_nil, or_false] at hp
                    subst hp
                    simp
              · exact hd.up
            · split
              · split
                · refine ⟨?_, Nat.le_succ_of_le hd.2.1, addLast_few _ _ _ hd.2.2⟩
                  show (addLast d.progs _).length ≤ _
                  rw [addLast_len]
                  exact Nat.le_succ_of_le hd.1
                · exact hd.up
              · exact hd.up
    · exact hd.up
/-- What the reference's line answers. -/
def LinesTo (w w' : World) (B : Nat) (e : Ending) (R : Dut × Nat) : Prop :=
  (∃ pp n c ps m c', e = .returned (.tuple #[.agg (R.1.cells (.slice pp n c) (.slice ps m c')), .int .i64 (R.2 : Int)]) ∧ (R.2 = 0 → DOwn w' B (.slice pp n c) (.slice ps m c') R.1)) ∧ Below B w w' ∧ Keep3 w w'

theorem RLineY_any (B : Nat) (d : Dut) (vp vs : Value) (s : ByteArray) (hs : s.size ≤ 4000) (b : Bool) (w : World) (hB : B ≤ w.heap.size) (hdo : DOwn w B vp vs d) (n : Nat) (hn : n ≤ 19000) (hfew : d.few n) :
    Calls Tryz.prog 40 #[.agg (d.cells vp vs), .string s, .bool b] w fun e w' => LinesTo w w' B e (lineY d s.data.toList b) := by
  obtain ⟨pp, cp, ps, cs, rfl, rfl⟩ := hdo.shape
  have hno : ∀ {e : Ending} {w' : World} {k : Nat}, k ≠ 0 → (e = .returned (.tuple #[.agg (d.cells (.slice pp d.progs.length cp) (.slice ps d.starts.length cs)), .int .i64 (k : Int)]) ∧ Below w.heap.size w w') → LinesTo w w' B e (d, k) := fun hk hh => ⟨⟨_, _, _, _, _, _, hh.1, fun e => absurd e hk⟩, hh.2.mono hB, Keep3.of_below hh.2⟩
  have hsm := words_small s.data.toList hs
  cases hD : wordsGo [] s.data.toList with
  | nil =>
    rw [lineY_nil _ hD]
    exact (RLineY_nil d pp ps cp cs s hs w b hD).mono fun e w' hh => hno (by decide) hh
  | cons z ws =>
    rw [hD] at hsm
    have hwl : ws.length ≤ 3999 := by have := hsm.1; simp at this; omega
    have hws : ∀ x ∈ ws, x.length ≤ 4000 := fun x hx => hsm.2 x (List.mem_cons_of_mem _ hx)
    cases b with
    | true =>
      rw [lineY_first hD]
      by_cases hz : z = dutyW
      · rw [if_pos hz]
        by_cases hl : ((readY ws 2).getD []).length = 7
        · obtain ⟨a0, a1, a2, a3, a4, a5, a6, hR⟩ : ∃ a0 a1 a2 a3 a4 a5 a6, readY ws 2 = some [a0, a1, a2, a3, a4, a5, a6] := by
            cases hR : readY ws 2 with
            | none => rw [hR] at hl; simp at hl
            | some xs =>
              rw [hR] at hl
              match xs, hl with
              | [a0, a1, a2, a3, a4, a5, a6], _ => exact ⟨a0, a1, a2, a3, a4, a5, a6, rfl⟩
          rw [hR]
          refine (RLineY_head d pp ps cp cs s hs w z ws hD hz hwl hws a0 a1 a2 a3 a4 a5 a6 hR).mono ?_
          rintro e w' ⟨he, hb⟩
          exact ⟨⟨_, _, _, _, _, _, he, fun _ => DOwn.zero _ _ _ rfl rfl⟩, hb.mono hB, Keep3.of_below hb⟩
        · have h3 : headY d (readY ws 2) = (d, 3) := by
            unfold headY
            split
            · rename_i e
              rw [e] at hl
              exact absurd rfl hl
            · rfl
          rw [h3]
          exact (RLineY_head_len d pp ps cp cs s hs w z ws hD hz hwl hws hl).mono fun e w' hh => hno (by decide) hh
      · rw [if_neg hz]
        exact (RLineY_first d pp ps cp cs s hs w z ws hD hz).mono fun e w' hh => hno (by decide) hh
    | false =>
      by_cases hz : z = dutyW
      · subst hz
        rw [lineY_duty hD]
        exact (RLineY_later d pp ps cp cs s hs w dutyW ws hD rfl).mono fun e w' hh => hno (by decide) hh
      · by_cases hz2 : z = startW
        · subst hz2
          rw [lineY_start hD]
          by_cases hl : ((readY ws 1).getD []).length = 3
          · obtain ⟨a0, a1, a2, hR⟩ : ∃ a0 a1 a2, readY ws 1 = some [a0, a1, a2] := by
              cases hR : readY ws 1 with
              | none => rw [hR] at hl; simp at hl
              | some xs =>
                rw [hR] at hl
                match xs, hl with
                | [a0, a1, a2], _ => exact ⟨a0, a1, a2, rfl⟩
            rw [hR]
            refine (RLineY_start d pp ps cp cs s hs w B hB hdo (by have := hfew.2.1; omega) startW ws hD rfl hwl hws a0 a1 a2 hR).mono ?_
            rintro e w' ⟨⟨pv, sv, he, hd⟩, hb⟩
            obtain ⟨_, _, _, _, rfl, rfl⟩ := hd.shape
            exact ⟨⟨_, _, _, _, _, _, he, fun _ => hd⟩, hb⟩
          · have h3 : startY d (readY ws 1) = (d, 3) := by
              unfold startY
              split
              · rename_i e
                rw [e] at hl
                exact absurd rfl hl
              · rfl
            rw [h3]
            exact (RLineY_start_len d pp ps cp cs s hs w startW ws hD rfl hwl hws hl).mono fun e w' hh => hno (by decide) hh
        · by_cases hz3 : z = progW
          · subst hz3
            rw [lineY_prog hD]
            by_cases hst : d.starts = []
            · rw [if_neg (fun e => e hst)]
              by_cases hw : ws = []
              · rw [if_pos hw]
                refine (RLineY_prog d pp ps cp cs s hs w progW ws hD rfl hst hw B hB hdo (by have := hfew.1; omega)).mono ?_
                rintro e w' ⟨⟨pv, sv, he, hd⟩, hb⟩
                obtain ⟨_, _, _, _, rfl, rfl⟩ := hd.shape
                exact ⟨⟨_, _, _, _, _, _, he, fun _ => hd⟩, hb⟩
              · rw [if_neg hw]
                exact (RLineY_prog_more d pp ps cp cs s hs w progW ws hD rfl hst hw).mono fun e w' hh => hno (by decide) hh
            · rw [if_pos hst]
              exact (RLineY_out d pp ps cp cs s hs w progW ws hD hz hz2 hst).mono fun e w' hh => hno (by decide) hh
          · rw [lineY_other hD hz hz2 hz3]
            by_cases hst : d.starts = []
            · rw [if_neg (fun e => e hst)]
              by_cases hop : opOf z = 0
              · rw [if_neg (fun e => e.1 hop)]
                exact (RLineY_word d pp ps cp cs s hs w z ws hD hz hz2 hz3 hst hop).mono fun e w' hh => hno (by decide) hh
              · by_cases hpr : d.progs = []
                · rw [if_neg (fun e => e.2 hpr)]
                  exact (RLineY_none d pp ps cp cs s hs w z ws hD hz hz2 hz3 hst hop hpr).mono fun e w' hh => hno (by decide) hh
                · rw [if_pos ⟨hop, hpr⟩]
                  obtain ⟨qs, p, hpq⟩ : ∃ qs p, d.progs = qs ++ [p] := ⟨d.progs.dropLast, d.progs.getLast hpr, (List.dropLast_concat_getLast hpr).symm⟩
                  have hql : qs.length ≤ 20000 := by have := hfew.1; rw [hpq] at this; simp at this; omega
                  have hpl : p.length ≤ 20000 := by have := hfew.2.2 p (by rw [hpq]; simp); omega
                  obtain ⟨D, y, hpd⟩ : ∃ D y, parseD s.data.toList = (D, y) := ⟨_, _, (Prod.eta _).symm⟩
                  rw [hpd]
                  simp only
                  by_cases hp0 : y = 0
                  · have hadd : addLast d.progs D = qs ++ [p ++ [D]] := by rw [hpq, addLast_concat]
                    rw [if_pos hp0, hadd]
                    refine (RLineY_deed d _ ps cs s hs w z ws hD hz hz2 hz3 hst hop D y hpd hp0 B hB qs p hpq hdo hql hpl).mono ?_
                    rintro e w' ⟨⟨pv, sv, he, hd⟩, hb⟩
                    obtain ⟨_, _, _, _, rfl, rfl⟩ := hd.shape
                    exact ⟨⟨_, _, _, _, _, _, he, fun _ => hd⟩, hb⟩
                  · rw [if_neg hp0]
                    refine (RLineY_bad d _ ps cs s hs w z ws hD hz hz2 hz3 hst hop D y hpd hp0 B hB qs p hpq hdo hql hpl).mono ?_
                    rintro e w' ⟨⟨_, _, _, he⟩, hb⟩
                    exact ⟨⟨_, _, _, _, _, _, he, fun e => absurd e hp0⟩, hb⟩
            · rw [if_pos hst]
              exact (RLineY_out d pp ps cp cs s hs w z ws hD hz hz2 hst).mono fun e w' hh => hno (by decide) hh
end Go.Proofs.YtbdimfcdpkldpaaGreatDoor
