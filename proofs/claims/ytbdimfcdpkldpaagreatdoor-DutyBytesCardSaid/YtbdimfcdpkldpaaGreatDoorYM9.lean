/- Plain mathematics of layer 9: the program's way of reading a duty's bytes tells what Decode answers; no run of the program. Plain mathematics of layer 9: what a draft holds that was read; no run of the program. -/
import Derived.Test.YtbdimfcdpkldpaaGreatDoorYM6
import Derived.Test.YtbdimfcdpkldpaaGreatDoorLM1
import Derived.Test.YtbdimfcdpkldpaaGreatDoorLYM
import Derived.Test.YtbdimfcdpkldpaaGreatDoorLWR
namespace Go.Proofs.YtbdimfcdpkldpaaGreatDoor
open Wire (RS rdNum)

def progsP : Nat → List (List Deed) → RS → RS × List (List Deed) × Nat
  | 0, acc, st => (st, acc, 0)
  | n + 1, acc, st => if (getP st).2.2 = 0 then progsP n (acc ++ [(getP st).2.1]) (getP st).1 else ((getP st).1, acc ++ [(getP st).2.1], (getP st).2.2)
/-- What getProgs answers. -/
def getPsY (st : RS) : RS × List (List Deed) × Nat := if 64 < (rdNum st).2 then ((rdNum st).1, [], 4) else progsP (rdNum st).2 [] (rdNum st).1
def startsP : Nat → List (List Nat) → RS → RS × List (List Nat)
  | 0, acc, st => (st, acc)
  | n + 1, acc, st => startsP n (acc ++ [(rdNums 3 st).2]) (rdNums 3 st).1
/-- What getStarts answers. -/
def getSsY (st : RS) : RS × List (List Nat) × Nat := if 64 < (rdNum st).2 then ((rdNum st).1, [], 4) else ((startsP (rdNum st).2 [] (rdNum st).1).1, (startsP (rdNum st).2 [] (rdNum st).1).2, 0)
/-- What getDraft answers. -/
def draftY (st : RS) : RS × Dr × Nat :=
  let p := getPsY (rdNums 7 st).1
  if p.2.2 = 0 then ((getSsY p.1).1, ⟨(rdNums 7 st).2, p.2.1, (getSsY p.1).2.1⟩, (getSsY p.1).2.2) else (p.1, ⟨(rdNums 7 st).2, p.2.1, []⟩, p.2.2)
def bigL (l : List Nat) : Bool := decide (2147483647 < max (l.getD 0 0) (l.getD 1 0))
/-- What the program's Decode answers. -/
def decP9 (l : List UInt8) : Dut × Nat :=
  let q := draftY (.ok l)
  if q.2.2 = 0 then (if doneR q.1 = 0 then (if q.2.1.starts.any bigL = true then (zeroY, 5) else (retD q.2.1, checkY (drS q.2.1))) else (zeroY, doneR q.1)) else (zeroY, q.2.2)

theorem rdNum_zero {st : RS} {e : Nat} (h : (rdNum st).1 = .err e) : (rdNum st).2 = 0 := by
  match st, h with
  | .ok [], _ => rfl
  | .err _, _ => rfl
  | .ok (c :: l), h =>
    simp only [rdNum] at h ⊢
    by_cases h1 : 8 < c.toNat
    · rw [if_pos h1]
    · rw [if_neg h1] at h ⊢
      by_cases h2 : l.length < c.toNat
      · rw [if_pos h2]
      · rw [if_neg h2] at h ⊢
        by_cases h3 : 0 < c.toNat ∧ l.getD 0 0 = 0
        · rw [if_pos h3]
        · rw [if_neg h3] at h
          cases h
theorem rdNums_len : ∀ (n : Nat) (st : RS), (rdNums n st).2.length = n
  | 0, _ => rfl
  | n + 1, st => by rw [rdNums, List.length_cons, rdNums_len n]
theorem pos_nums : ∀ (n : Nat) (st : RS), PosR st → PosR (rdNums n st).1
  | 0, _, h => h
  | n + 1, st, h => by rw [rdNums]; exact pos_nums n _ (pos_num h)
theorem pos_cases {st : RS} (h : PosR st) : (∃ l, st = .ok l) ∨ ∃ e, 0 < e ∧ st = .err e := by
  cases st with
  | ok l => exact .inl ⟨l, rfl⟩
  | err e => exact .inr ⟨e, h e rfl, rfl⟩
theorem progs_same : ∀ (n : Nat) (acc : List (List Deed)) (l : List UInt8),
    ((progsP n acc (.ok l)).2.2 = 0 ∧ (∃ r, (progsP n acc (.ok l)).1 = .ok r) ∧ progsG n acc (.ok l) = ((progsP n acc (.ok l)).1, (progsP n acc (.ok l)).2.1)) ∨ (0 < (progsP n acc (.ok l)).2.2 ∧ (progsG n acc (.ok l)).1 = .err (progsP n acc (.ok l)).2.2)
  | 0, acc, l => .inl ⟨rfl, ⟨l, rfl⟩, rfl⟩
  | n + 1, acc, l => by
    rw [progsP, progsG]
    by_cases h : (getP (.ok l)).2.2 = 0
    · obtain ⟨r, hr⟩ := getP_state h
      have e : getPr (.ok l) = (.ok r, (getP (.ok l)).2.1) := by unfold getPr; rw [if_pos h, hr]
      rw [if_pos h, e, hr]
      simp only [RS.code, if_true]
      exact progs_same n _ r
    · have e : getPr (.ok l) = (.err (getP (.ok l)).2.2, []) := by unfold getPr; rw [if_neg h]
      rw [if_neg h, e]
      simp only [RS.code, if_true]
      refine .inr ⟨by omega, ?_⟩
      cases n with
      | zero => rfl
      | succ n => rw [progsG, if_neg (by simpa [RS.code] using h)]
theorem rdNums_err : ∀ (n e : Nat), (rdNums n (.err e)).1 = .err e
  | 0, _ => rfl
  | n + 1, e => by rw [rdNums]; exact rdNums_err n e
theorem startsP_err : ∀ (n : Nat) (acc : List (List Nat)) (e : Nat), (startsP n acc (.err e)).1 = .err e
  | 0, _, _ => rfl
  | n + 1, acc, e => by rw [startsP, rdNums_err]; exact startsP_err n _ e
theorem rdSt_nums (st : RS) : rdNums 3 st = ((rdSt st).1, [(rdSt st).2.1, (rdSt st).2.2.1, (rdSt st).2.2.2]) := rfl
theorem big_same (a b c : Nat) : bigL [a, b, c] = bigSt (a, b, c) := by
  unfold bigL bigSt
  simp only [List.getD_cons_zero, List.getD_cons_succ]
  rw [Bool.eq_iff_iff]
  simp only [decide_eq_true_eq, Bool.or_eq_true]
  omega
theorem starts_same (g0 : Bool) : ∀ (n : Nat) (acc : List (List Nat)) (st : RS), PosR st →
    (startsG n (acc.map stS) (g0 || acc.any bigL) st).1 = (startsP n acc st).1 ∧ ((startsP n acc st).1.code = 0 → startsG n (acc.map stS) (g0 || acc.any bigL) st = ((startsP n acc st).1, (startsP n acc st).2.map stS, g0 || (startsP n acc st).2.any bigL))
  | 0, acc, st, _ => ⟨rfl, fun _ => rfl⟩
  | n + 1, acc, st, hp => by
    rw [startsG, startsP]
    rcases pos_cases hp with ⟨l, rfl⟩ | ⟨e, he, rfl⟩
    · rw [if_pos (show RS.code (.ok l) = 0 from rfl), rdSt_nums]
      have hp2 : PosR (rdSt (.ok l)).1 := by unfold rdSt; exact pos_num (pos_num (pos_num hp))
      have := starts_same g0 n (acc ++ [[(rdSt (.ok l)).2.1, (rdSt (.ok l)).2.2.1, (rdSt (.ok l)).2.2.2]]) (rdSt (.ok l)).1 hp2
      rw [List.map_append, List.any_append, List.map_singleton, List.any_cons, List.any_nil, Bool.or_false, big_same, ← Bool.or_assoc] at this
      exact this
    · rw [if_neg (show ¬ RS.code (.err e) = 0 by simp [RS.code]; omega), rdNums_err, startsP_err]
      exact ⟨rfl, fun h => by simp [RS.code] at h; omega⟩
theorem head_dr (xs : List Nat) (ps : List (List Deed)) (ls : List (List Nat)) (h : xs.length = 7) : headOf xs ps (ls.map stS) = drS ⟨xs, ps, ls⟩ := by
  match xs, h with
  | [a, b, c, e, f, g, i], _ => rfl
theorem big_head (xs : List Nat) (ps : List (List Deed)) (ls : List (List Nat)) (h : bigY xs = true) : checkY (drS ⟨xs, ps, ls⟩) = 5 := by
  have hr : ¬ rangeY (drS ⟨xs, ps, ls⟩) = true := by
    intro hr
    obtain ⟨h1, h2, h3, h4, _⟩ := rangeY_facts hr
    have g1 : (smallY (xs.getD 0 0) : Int) ≤ 64 := h1.2
    have g2 : (smallY (xs.getD 1 0) : Int) ≤ 64 := h2.2
    have g3 : (smallY (xs.getD 2 0) : Int) ≤ 64 := h3.2
    have g4 : (smallY (xs.getD 3 0) : Int) ≤ 256 := h4.2
    match xs, h with
    | a :: b :: c :: e :: _, h =>
      simp only [bigY, Bool.or_eq_true, decide_eq_true_eq] at h
      simp only [List.getD_cons_zero, List.getD_cons_succ] at g1 g2 g3 g4
      unfold smallY at g1 g2 g3 g4
      split at g1 <;> split at g2 <;> split at g3 <;> split at g4 <;> omega
  unfold checkY
  rw [if_neg hr]
theorem dec_err (xs : List Nat) (p : List (List Deed)) (g : Bool) (e : Nat) (he : 0 < e) :
    endY (startsG (countY (.err e)).2 [] g (countY (.err e)).1).1 (startsG (countY (.err e)).2 [] g (countY (.err e)).1).2.2 (headOf xs p (startsG (countY (.err e)).2 [] g (countY (.err e)).1).2.1) = (zeroY, e) := by
  have h1 : countY (.err e) = (.err e, 0) := by
    unfold countY
    rw [if_neg (by rintro ⟨h, _⟩; simp [rdNum, RS.code] at h; omega)]
    rfl
  rw [h1]
  unfold endY
  rw [startsG, if_neg (show ¬ doneR (.err e) = 0 by simp [doneR]; omega)]
  rfl
theorem decP9_eq (l : List UInt8) : decP9 l = decY l := by
  unfold decP9 decY draftY
  obtain ⟨S1, hS1⟩ : ∃ S1, (rdNums 7 (.ok l)).1 = S1 := ⟨_, rfl⟩
  obtain ⟨xs, hxs⟩ : ∃ xs, (rdNums 7 (.ok l)).2 = xs := ⟨_, rfl⟩
  have hp1 : PosR S1 := hS1 ▸ pos_nums 7 _ (pos_ok l)
  have hlen : xs.length = 7 := hxs ▸ rdNums_len 7 _
  simp only [hS1, hxs]
  clear hS1 hxs
  have hp2 := pos_num hp1
  unfold decGo
  simp only
  rcases pos_cases hp2 with ⟨r2, h2⟩ | ⟨e, he, h2⟩
  · by_cases hn : 64 < (rdNum S1).2
    · have c1 : countY S1 = (.err 4, 0) := by unfold countY; rw [if_pos ⟨by rw [h2]; rfl, hn⟩]
      have g1 : getPsY S1 = ((rdNum S1).1, [], 4) := by unfold getPsY; rw [if_pos hn]
      rw [c1, g1]
      simp only [progsG]
      rw [if_neg (show ¬ (4 : Nat) = 0 by decide), dec_err xs [] _ 4 (by decide)]
      rw [if_neg (show ¬ (4 : Nat) = 0 by decide)]
    · have c1 : countY S1 = (.ok r2, (rdNum S1).2) := by unfold countY; rw [if_neg (fun h => hn h.2), ← h2]
      have g1 : getPsY S1 = progsP (rdNum S1).2 [] (.ok r2) := by unfold getPsY; rw [if_neg hn, h2]
      rw [c1, g1]
      simp only
      generalize (rdNum S1).2 = n at *
      rcases progs_same n [] r2 with ⟨hc, ⟨r3, hr3⟩, hg⟩ | ⟨hc, hg⟩
      · rw [hg, hc, hr3]
        simp only [if_true]
        generalize (progsP n [] (.ok r2)).2.1 = ps at *
        have hp4 := pos_num (pos_ok r3)
        rcases pos_cases hp4 with ⟨r4, h4⟩ | ⟨e, he, h4⟩
        · by_cases hm : 64 < (rdNum (.ok r3)).2
          · have c2 : countY (.ok r3) = (.err 4, 0) := by unfold countY; rw [if_pos ⟨by rw [h4]; rfl, hm⟩]
            have g2 : getSsY (.ok r3) = ((rdNum (.ok r3)).1, [], 4) := by unfold getSsY; rw [if_pos hm]
            rw [c2, g2]
            simp only [startsG]
            rw [if_neg (show ¬ (4 : Nat) = 0 by decide)]
            unfold endY
            rw [if_neg (show ¬ doneR (RS.err 4) = 0 by decide)]
            rfl
          · have c2 : countY (.ok r3) = (.ok r4, (rdNum (.ok r3)).2) := by unfold countY; rw [if_neg (fun h => hm h.2), ← h4]
            have g2 : getSsY (.ok r3) = ((startsP (rdNum (.ok r3)).2 [] (.ok r4)).1, (startsP (rdNum (.ok r3)).2 [] (.ok r4)).2, 0) := by unfold getSsY; rw [if_neg hm, h4]
            rw [c2, g2]
            simp only [if_true]
            generalize (rdNum (.ok r3)).2 = m at *
            obtain ⟨k1, k2⟩ := starts_same (bigY xs) m [] (.ok r4) (pos_ok r4)
            simp only [List.map_nil, List.any_nil, Bool.or_false] at k1 k2
            have hpS : PosR (startsP m [] (.ok r4)).1 := by
              have : ∀ (m : Nat) (acc : List (List Nat)) (st : RS), PosR st → PosR (startsP m acc st).1 := by
                intro m
                induction m with
                | zero => intro acc st h; exact h
                | succ m ih => intro acc st h; rw [startsP]; exact ih _ _ (pos_nums 3 _ h)
              exact this m [] _ (pos_ok r4)
            by_cases hd : doneR (startsP m [] (.ok r4)).1 = 0
            · have hcode : (startsP m [] (.ok r4)).1.code = 0 := by
                rcases pos_cases hpS with ⟨r, e⟩ | ⟨e', he', e⟩
                · rw [e]; rfl
                · rw [e] at hd; simp [doneR] at hd; omega
              rw [k2 hcode]
              simp only
              generalize (startsP m [] (.ok r4)).2 = ls at *
              rw [if_pos hd]
              unfold endY
              rw [if_pos hd]
              by_cases hb : ls.any bigL = true
              · rw [if_pos hb, if_pos (by rw [hb, Bool.or_true])]
              · rw [if_neg hb]
                by_cases hx : bigY xs = true
                · rw [if_pos (by rw [hx, Bool.true_or]), big_head xs ps ls hx]
                  unfold retD
                  rw [big_head xs ps ls hx, if_neg (by decide)]
                · rw [if_neg (by rw [Bool.or_eq_true]; rintro (h | h); exact hx h; exact hb h), head_dr xs ps ls hlen]
                  unfold retD
                  split
                  · rename_i h; rw [h]
                  · rfl
            · rw [if_neg hd]
              unfold endY
              rw [k1, if_neg hd]
        · have hz := rdNum_zero h4
          have c2 : countY (.ok r3) = (.err e, 0) := by unfold countY; rw [if_neg (by rw [hz]; omega), ← h4, ← hz]
          have g2 : getSsY (.ok r3) = (.err e, [], 0) := by unfold getSsY; rw [if_neg (by rw [hz]; omega), h4, hz]; rfl
          rw [c2, g2]
          simp only [startsG, if_true]
          unfold endY
          rw [if_neg (show ¬ doneR (RS.err e) = 0 by simp [doneR]; omega), if_neg (show ¬ doneR (RS.err e) = 0 by simp [doneR]; omega)]
      · rw [if_neg (show ¬ (progsP n [] (.ok r2)).2.2 = 0 by omega)]
        simp only
        rw [if_neg (show ¬ (progsP n [] (.ok r2)).2.2 = 0 by omega), hg, dec_err xs _ _ _ hc]
  · have hz := rdNum_zero h2
    have c1 : countY S1 = (.err e, 0) := by unfold countY; rw [if_neg (by rw [hz]; omega), ← h2, ← hz]
    have g1 : getPsY S1 = (.err e, [], 0) := by unfold getPsY; rw [if_neg (by rw [hz]; omega), h2, hz]; rfl
    have g2 : getSsY (.err e) = (.err e, [], 0) := by unfold getSsY; rw [if_neg (by simp [rdNum])]; rfl
    rw [c1, g1]
    simp only [progsG, if_true]
    rw [g2]
    simp only [if_true]
    rw [if_neg (show ¬ doneR (RS.err e) = 0 by simp [doneR]; omega), dec_err xs [] _ e he]
    rfl
end Go.Proofs.YtbdimfcdpkldpaaGreatDoor

namespace Go.Proofs.YtbdimfcdpkldpaaGreatDoor
open Wire (RS rdNum)

theorem progsP_ok : ∀ (n : Nat) (acc : List (List Deed)) (l : List UInt8), (∀ p ∈ acc, ∀ x ∈ p, x.ok) → (progsP n acc (.ok l)).2.2 = 0 → ∀ p ∈ (progsP n acc (.ok l)).2.1, ∀ x ∈ p, x.ok
  | 0, _, _, h, _ => h
  | n + 1, acc, l, h, h0 => by
    rw [progsP] at h0 ⊢
    by_cases hc : (getP (.ok l)).2.2 = 0
    · rw [if_pos hc] at h0 ⊢
      obtain ⟨r, hr⟩ := getP_state hc
      have hb : getP (.ok l) = (.ok r, (getP (.ok l)).2.1, 0) := Prod.ext hr (Prod.ext rfl hc)
      obtain ⟨_, hok, _⟩ := getP_back hb
      rw [hr] at h0 ⊢
      refine progsP_ok n _ r (fun p hp => ?_) h0
      rcases List.mem_append.1 hp with hp | hp
      · exact h p hp
      · simp only [List.mem_cons, List.not_mem_nil, or_false] at hp
        subst hp
        exact hok
    · rw [if_neg hc] at h0
      exact absurd h0 hc
theorem getPsY_ok {st : RS} (h : (getPsY st).2.2 = 0) : ∀ p ∈ (getPsY st).2.1, ∀ x ∈ p, x.ok := by
  unfold getPsY at h ⊢
  by_cases hn : 64 < (rdNum st).2
  · rw [if_pos hn] at h
    cases h
  · rw [if_neg hn] at h ⊢
    cases hS : (rdNum st).1 with
    | ok r =>
      rw [hS] at h
      exact progsP_ok _ [] r (fun p hp => nomatch hp) h
    | err e =>
      rw [rdNum_zero hS, progsP]
      exact fun p hp => nomatch hp
theorem progsP_len : ∀ (n : Nat) (acc : List (List Deed)) (st : RS), (progsP n acc st).2.1.length ≤ acc.length + n
  | 0, acc, _ => Nat.le_refl _
  | n + 1, acc, st => by
    rw [progsP]
    split
    · have := progsP_len n (acc ++ [(getP st).2.1]) (getP st).1
      rw [List.length_append] at this
      simp at this
      omega
    · simp
theorem startsP_ok : ∀ (n : Nat) (acc : List (List Nat)) (st : RS), (∀ l ∈ acc, l.length = 3 ∧ ∀ x ∈ l, x < 18446744073709551616) → (∀ l ∈ (startsP n acc st).2, l.length = 3 ∧ ∀ x ∈ l, x < 18446744073709551616) ∧ (startsP n acc st).2.length = acc.length + n
  | 0, _, _, h => ⟨h, rfl⟩
  | n + 1, acc, st, h => by
    rw [startsP]
    obtain ⟨h1, h2⟩ := startsP_ok n (acc ++ [(rdNums 3 st).2]) (rdNums 3 st).1 (fun l hl => by
      rcases List.mem_append.1 hl with hl | hl
      · exact h l hl
      · simp only [List.mem_cons, List.not_mem_nil, or_false] at hl
        subst hl
        refine ⟨rdNums_len 3 st, fun x hx => ?_⟩
        have : ∀ (n : Nat) (st : RS), ∀ x ∈ (rdNums n st).2, x < 18446744073709551616 := by
          intro n
          induction n with
          | zero => intro st x h; simp [rdNums] at h
          | succ n ih =>
            intro st x h
            rw [rdNums] at h
            rcases List.mem_cons.1 h with rfl | h
            · exact Wire.rdNum_lt st
            · exact ih _ x h
        exact this 3 st x hx)
    refine ⟨h1, ?_⟩
    rw [h2, List.length_append]
    simp
    omega
theorem getSsY_ok (st : RS) : (∀ l ∈ (getSsY st).2.1, l.length = 3 ∧ ∀ x ∈ l, x < 18446744073709551616) ∧ (getSsY st).2.1.length ≤ 64 := by
  unfold getSsY
  by_cases hn : 64 < (rdNum st).2
  · rw [if_pos hn]
    exact ⟨(fun l hl => nomatch hl), by simp⟩
  · rw [if_neg hn]
    obtain ⟨h1, h2⟩ := startsP_ok (rdNum st).2 [] (rdNum st).1 (fun l hl => nomatch hl)
    refine ⟨h1, ?_⟩
    simp only at h2 ⊢
    simp at h2
    omega
theorem nums_lt7 : ∀ (n : Nat) (st : RS), ∀ x ∈ (rdNums n st).2, x < 18446744073709551616
  | 0, _, x, h => by simp [rdNums] at h
  | n + 1, st, x, h => by
    rw [rdNums] at h
    rcases List.mem_cons.1 h with rfl | h
    · exact Wire.rdNum_lt st
    · exact nums_lt7 n _ x h
theorem draftY_ok {st : RS} (h : (draftY st).2.2 = 0) : (draftY st).2.1.ok ∧ (draftY st).2.1.head.length = 7 ∧ (draftY st).2.1.starts.length ≤ 64 := by
  unfold draftY at h ⊢
  simp only at h ⊢
  by_cases hp : (getPsY (rdNums 7 st).1).2.2 = 0
  · rw [if_pos hp]
    have hl := rdNums_len 7 st
    obtain ⟨h1, h2⟩ := getSsY_ok (getPsY (rdNums 7 st).1).1
    refine ⟨⟨.inr hl, fun e => ?_, nums_lt7 7 st, getPsY_ok hp, h1⟩, hl, h2⟩
    simp only at e
    rw [e] at hl
    cases hl
  · rw [if_neg hp] at h
    exact absurd h hp
end Go.Proofs.YtbdimfcdpkldpaaGreatDoor
