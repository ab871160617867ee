/- What the statements over programs share: how many are looked at, slices of one's own that read, a byte written. -/
import Derived.Test.YtbdimfcdpkldpaaGreatDoorLT1
import Derived.Test.YtbdimfcdpkldpaaGreatDoorD24
import Derived.Test.YtbdimfcdpkldpaaGreatDoorLM1
namespace Go.Proofs.YtbdimfcdpkldpaaGreatDoor
open Go.RowKit
open Wire (RS WrAt RdAt RdOut bV)

/-- The programs that the statements look at. -/
theorem few_reads {w : World} {G : Nat → Prop} {v : Value} {ps : List Deed} (h : RP w G v ps) (hok : ∀ d ∈ ps, d.ok) :
    ∃ (p : Option Addr) (c M : Nat) (qs : List Deed), v = .slice p ps.length c ∧ ps.length ≤ c ∧ c ≤ maxLen ∧ qs.length = M ∧ M ≤ 300 ∧ RP w G (.slice p M c) qs ∧ (∀ d ∈ qs, d.ok) ∧ ((300 < ps.length ∧ M = 300) ∨ (¬ 300 < ps.length ∧ M = ps.length)) := by
  by_cases h3 : 300 < ps.length
  · obtain ⟨p, c, hv, hc, hm, hr⟩ := RV.first h 300 (by omega)
    refine ⟨p, c, 300, ps.take 300, hv, hc, hm, by rw [List.length_take]; omega, by omega, ?_, fun d hd => hok d (List.mem_of_mem_take hd), .inl ⟨h3, rfl⟩⟩
    have e : (ps.flatMap dCells).take (300 * 7) = (ps.take 300).flatMap dCells := by
      have key : ∀ (k : Nat) (l : List Deed), (l.flatMap dCells).take (k * 7) = (l.take k).flatMap dCells := by
        intro k
        induction k with
        | zero => intro l; simp
        | succ k ih =>
          intro l
          cases l with
          | nil => simp
          | cons d l =>
            rw [List.flatMap_cons, List.take_succ_cons, List.flatMap_cons, ← ih l, show (k + 1) * 7 = (dCells d).length + k * 7 by rw [dCells_len]; omega, List.take_length_add_append]
      exact key 300 ps
    rw [e] at hr
    unfold RP
    rw [show (ps.take 300).length = 300 by rw [List.length_take]; omega]
    exact hr
  · obtain ⟨p, c, hv, hc, hm⟩ := h.shape
    subst hv
    exact ⟨p, c, ps.length, ps, rfl, hc, hm, rfl, by omega, h, hok, .inr ⟨h3, rfl⟩⟩


theorem drop_last (s : ByteArray) : (s.extract 0 (s.size - 1)).data.toList = s.data.toList.dropLast := by
  rw [extract_list, List.drop_zero, List.dropLast_eq_take, show s.data.toList.length = s.size from rfl]; rfl
theorem rp_own {w : World} {B n : Nat} {v : Value} {qs : List Deed} (h : w.ownsRow B 109 7 v n (qs.flatMap dCells)) (hn : n = qs.length) : ∃ p c, v = .slice p qs.length c ∧ RP w (fun _ => True) (.slice p qs.length c) qs := by
  subst hn
  have h1 := RV.of_own h
  obtain ⟨p, c, rfl, _⟩ := id h1
  exact ⟨p, c, rfl, RV.mono h1 (fun _ _ _ => trivial)⟩
theorem lines_small {qs : List Deed} (hok : ∀ d ∈ qs, d.ok) {D : List (List UInt8)} (h : D = qs.map lineD) : ∀ z ∈ D, z.length ≤ 4000 := by
  subst h
  intro z hz
  obtain ⟨d, hd, rfl⟩ := List.mem_map.1 hz
  have := lineD_len d (hok d hd)
  omega
theorem textP_pos {qs : List Deed} (h : qs ≠ []) : textP qs ≠ [] := by
  cases qs with
  | nil => exact absurd rfl h
  | cons d qs => rw [textP_cons]; simp


theorem RP.foot {w w' : World} {G S : Nat → Prop} {v : Value} {ps : List Deed} (h : RP w G v ps) (hf : Foot S w w') (hd : ∀ k, G k → ¬ S k) : RP w' G v ps := RV.foot h hf hd
theorem byte_step {B b most : Nat} (hm : most ≤ maxLen) (x : UInt8) (l : List UInt8) (hl : l.length ≤ 240000) (hlm : l.length + 1 ≤ most) (v : Value) (W : World) (h : WrAt W B b most v (some l)) :
    Calls Tryz.prog 128 #[.pointer (some ⟨b, 0, none⟩), .int .u8 (x.toNat : Int)] W fun e w' => e = .returned (.tuple #[]) ∧ WrK W w' B b most (l ++ [x]) :=
  (Wire.WByte_any W x (fun l' e => by cases e; omega) hm h).mono fun _ _ hh => ⟨hh.1, wr_keep h hh.2 hlm⟩
end Go.Proofs.YtbdimfcdpkldpaaGreatDoor
