/- ProgParses. -/
import Derived.Test.YtlgjbcmkhcgigaaDoorLT3
namespace Go.Proofs.YtlgjbcmkhcgigaaDoor
open Go.RowKit

set_option maxRecDepth 100000 in
set_option maxHeartbeats 4000000 in
theorem parses_walk (s0 : ByteArray) (w : World) (hT : Tabs w) :
    Calls Tryd.prog 5 #[.string s0] w fun e w' => e = .returned (.bool true) ∧ Below w.heap.size w w' := by
  obtain ⟨S, hS⟩ : ∃ S : ByteArray, S = if 3000 < s0.size then s0.extract 0 3000 else s0 := ⟨_, rfl⟩
  have hSs : S.size ≤ 3000 := by
    rw [hS]
    split
    · rw [ByteArray.size_extract]; omega
    · omega
  have hz : ∀ z ∈ linesL S.data.toList, z.length ≤ 4000 := fun z hz => by
    have := (linesL_short S.data.toList).2 z hz
    rw [list_size] at this
    omega
  have hp1 : ∀ W, Calls Tryd.prog 20 #[.string S] W fun e w' => (∃ p' c', e = .returned (.tuple #[.slice p' (prsP S.data.toList).1.length c', .int .i64 ((prsP S.data.toList).2.1 : Int), .int .i64 ((prsP S.data.toList).2.2 : Int)]) ∧ RP w' (fun _ => True) (.slice p' (prsP S.data.toList).1.length c') (prsP S.data.toList).1) ∧ Below W.heap.size W w' := fun W => by
    refine (Parse8_any S (by omega) hz W).mono ?_
    rintro e w' ⟨v, rfl, h, hb⟩
    obtain ⟨p', c', rfl, hrp⟩ := rp_own h rfl
    exact ⟨⟨p', c', rfl, hrp⟩, hb⟩
  have hp2 : ∀ W, Calls Tryd.prog 22 #[.string S] W fun e w' => (∃ p' c', e = .returned (.tuple #[.slice p' (prsP S.data.toList).1.length c', .int .i64 ((prsP S.data.toList).2.1 : Int), .int .i64 ((prsP S.data.toList).2.2 : Int)]) ∧ RP w' (fun _ => True) (.slice p' (prsP S.data.toList).1.length c') (prsP S.data.toList).1) ∧ Below W.heap.size W w' := fun W => by
    refine (RParse8_any S (by omega) hz W).mono ?_
    rintro e w' ⟨v, rfl, h, hb⟩
    obtain ⟨p', c', rfl, hrp⟩ := rp_own h rfl
    exact ⟨⟨p', c', rfl, hrp⟩, hb⟩
  have hlen : (prsP S.data.toList).1.length ≤ 100000 := by
    have key : ∀ (ls : List (List UInt8)) (i : Nat) (acc : List Deed), (prsGo i acc ls).1.length ≤ acc.length + ls.length := by
      intro ls
      induction ls with
      | nil => intro i acc; simp [prsGo]
      | cons l ls ih =>
        intro i acc
        unfold prsGo
        split
        · have := ih (i + 1) (acc ++ [(parseD l).1])
          rw [List.length_append] at this
          simp at this ⊢
          omega
        · simp
    unfold prsP
    split
    · simp
    · have := key (linesL S.data.toList) 0 []
      simp at this
      omega
  clear hz
  generalize prsP S.data.toList = R at *
  obtain ⟨qs, i, y⟩ := R
  simp only at hp1 hp2 hlen
  have hsame : ∀ (p p' : Option Addr) (c c' : Nat) (W : World), RP W (fun _ => True) (.slice p qs.length c) qs → RP W (fun _ => True) (.slice p' qs.length c') qs → Calls Tryd.prog 21 #[.slice p qs.length c, .slice p' qs.length c'] W fun e w' => e = .returned (.bool true) ∧ Below W.heap.size W w' := fun p p' c c' W h h' => by
    have := Same_any p p' c c' qs qs hlen _ _ W h h'
    rw [(sameP_iff qs qs).2 rfl] at this
    exact this
  have t2 : ((i : Int) == (i : Int)) = true := by simp
  have t3 : ((y : Int) == (y : Int)) = true := by simp
  have HA := Lib.hid awake_any
  have HT := Lib.hid hT
  have g : Hid (Below w.heap.size w w) := Lib.hid (Below.refl _ _)
  clear hlen hSs hT
  by_cases h3 : 3000 < s0.size
  all_goals
    first | rw [if_pos h3] at hS | rw [if_neg h3] at hS
    subst hS
    go_enter Tryd.func5, Tryd.ntmps5
    go_wp2_with (first
      | (go_at_call 20; (with_reducible refine (hp1 _).mono ?_); clear hp1; rintro e w1 ⟨⟨p1, c1, rfl, hrp1⟩, hb1⟩; have HP1 := Lib.hid hrp1; clear hrp1; replace g := Lib.hid (g.out.trans (hb1.mono g.out.size)); clear hb1)
      | (go_at_call 22; (with_reducible refine (hp2 _).mono ?_); clear hp2; rintro e w2 ⟨⟨p2, c2, rfl, hrp2⟩, hb1⟩; have HP2 := Lib.hid hrp2; clear hrp2; replace g := Lib.hid (g.out.trans (hb1.mono g.out.size)); replace HP1 := Lib.hid (HP1.out.later hb1); clear hb1)
      | (go_at_call 21; (with_reducible refine (hsame _ _ _ _ _ HP1.out HP2.out).mono ?_); clear hsame; rintro e w3 ⟨rfl, hb1⟩; replace g := Lib.hid (g.out.trans (hb1.mono g.out.size)); clear hb1)
      | (go_at_call 15; (with_reducible refine (HA.out _ (HT.out.below g.out (Nat.le_refl _))).mono ?_); rintro e w4 ⟨rfl, hb1⟩; replace g := Lib.hid (g.out.trans (hb1.mono g.out.size)); clear hb1))
    go_ret
    exact ⟨rfl, g.out⟩
end Go.Proofs.YtlgjbcmkhcgigaaDoor
