/- The reference's small and name; a duty whose rows are one's own. -/
import Derived.Test.YtbdimfcdpkldpaaGreatDoorZ15
namespace Go.Proofs.YtbdimfcdpkldpaaGreatDoor
open Go.RowKit


theorem Small_any (x : Nat) (hx : x < 18446744073709551616) (w : World) :
    Calls Tryz.prog 53 #[.int .u64 (x : Int)] w fun e w' => e = .returned (.int .i64 ((smallY x : Nat) : Int)) ∧ w = w' := by
  by_cases h : 2147483647 < x
  · have t : decide ((x : Int) > 2147483647) = true := by simp; omega
    have hs : smallY x = 2147483647 := by unfold smallY; rw [if_pos h]
    rw [hs]
    clear h hx hs
    go_enter Tryz.func53, Tryz.ntmps53
    go_wp2
    go_ret
    exact ⟨rfl, rfl⟩
  · have t : decide ((x : Int) > 2147483647) = false := by simp; omega
    have hs : smallY x = x := by unfold smallY; rw [if_neg h]
    have hw : wrap64 (x : Int) = (x : Int) := IntWalk.wrap64_in _ (by omega)
    rw [hs]
    have HW := Lib.hid hw
    clear h hx hs hw
    go_enter Tryz.func53, Tryz.ntmps53
    go_wp2_with (rw [HW.out])
    go_ret
    exact ⟨by first | rfl | exact ret_i9 HW.out, rfl⟩

set_option maxHeartbeats 1000000 in
theorem NameY_any (s : ByteArray) (w : World) :
    Calls Tryz.prog 81 #[.string s] w fun e w' => e = .returned (.bool (decide (opOf s.data.toList ≠ 0))) ∧ Below w.heap.size w w' := by
  obtain ⟨R9, hR9⟩ : ∃ R9, R9 = decide (opOf s.data.toList ≠ 0) := ⟨_, rfl⟩
  rw [← hR9]
  obtain ⟨R, hR⟩ : ∃ R, opOf s.data.toList = R := ⟨_, rfl⟩
  rw [hR] at hR9
  have HR : Hid (opFrom s.data.toList 1 11 = R) := Lib.hid hR
  have HR9 := Lib.hid hR9
  clear hR hR9
  go_enter Tryz.func81, Tryz.ntmps81
  go_wp2
  go_loopw [3] (fun t wr => ∃ k : Nat, 1 ≤ k ∧ k ≤ 12 ∧ t = .int .i64 k ∧ Hid (opFrom s.data.toList k (12 - k) = R) ∧ Below w.heap.size w wr) (fun t _ => 12 - (intOf t).toNat)
  case atStart => exact ⟨1, by omega, by omega, rfl, HR, Below.refl _ _⟩
  case round =>
    obtain ⟨k, hk1, hk2, rfl, hc, hb⟩ := hrel
    by_cases hlt : k ≤ 11
    · have hnm := RName_any (k : Int) wr
      rw [nameD_nat k hk1 hlt, sV] at hnm
      have hc2 := hc.out
      rw [show 12 - k = (11 - k) + 1 by omega, opFrom] at hc2
      by_cases he : nameN k = s.data.toList
      · rw [if_pos he] at hc2
        have hR9 : R9 = true := by rw [HR9.out, ← hc2]; exact decide_eq_true (by omega)
        have HT := Lib.hid hR9
        have ht := str_eq (nameN k) s
        rw [decide_eq_true he] at ht
        generalize (ByteArray.mk (nameN k).toArray) = nm at hnm ht
        clear hc he hc2 hR9
        go_wp2_with (go_at_call 113; with_reducible refine hnm.mono ?_; clear hnm; rintro e w2 ⟨rfl, hb2⟩)
        go_ret
        rw [HT.out]
        exact ⟨rfl, hb.trans (hb2.mono hb.size)⟩
      · rw [if_neg he] at hc2
        have ht := str_eq (nameN k) s
        rw [decide_eq_false he] at ht
        generalize (ByteArray.mk (nameN k).toArray) = nm at hnm ht
        rw [show 11 - k = 12 - (k + 1) by omega] at hc2
        have HC2 := Lib.hid hc2
        clear hc he hc2
        go_wp2_with (go_at_call 113; with_reducible refine hnm.mono ?_; clear hnm; rintro e w2 ⟨rfl, hb2⟩)
        go_roundw
        case rel => exact ⟨k + 1, by omega, by omega, by go_num, HC2, hb.trans (hb2.mono hb.size)⟩
        case measure => simp [intOf]; omega
    · obtain rfl : k = 12 := by omega
      have hR0 : Hid (R9 = false) := Lib.hid (by rw [HR9.out, ← hc.out]; rfl)
      clear hc
      go_wp2
      go_ret
      rw [hR0.out]
      exact ⟨rfl, hb⟩

/-- A duty whose two rows are one's own. -/
structure DOwn (w : World) (B : Nat) (vp vs : Value) (d : Dut) : Prop where
  progs : OPP 45 109 w B vp d.progs
  starts : w.ownsRow B 58 3 vs d.starts.length (d.starts.flatMap stCells)
section
variable {w w' : World} {B : Nat} {vp vs : Value} {d : Dut}
theorem DOwn.dv (h : DOwn w B vp vs d) : DV w (fun k => B ≤ k) vp vs d := ⟨h.progs.reads, (RV.of_own h.starts).mono fun k _ hk => (h.starts.lt k hk).1⟩
theorem DOwn.later (h : DOwn w B vp vs d) (hb : Below w.heap.size w w') : DOwn w' B vp vs d := ⟨h.progs.below hb, ownsRow_below h.starts hb (Nat.le_refl _)⟩
theorem DOwn.mono {B' : Nat} (h : DOwn w B vp vs d) (hB : B' ≤ B) : DOwn w B' vp vs d := ⟨h.progs.mono hB, own_mono h.starts hB⟩
theorem DOwn.far {g : Nat} {t : TypeId} {cs : Array Value} (h : DOwn w B vp vs d) (hg : Blk w g t cs) (h1 : 45 ≠ t) (h2 : 109 ≠ t) (h3 : 58 ≠ t) (hf : Foot (fun k => k = g) w w') : DOwn w' B vp vs d :=
  ⟨h.progs.far hg h1 h2 hf, own_far h.starts hg h3 hf⟩
theorem DOwn.zero (w : World) (B : Nat) (d : Dut) (hp : d.progs = []) (hs : d.starts = []) : DOwn w B (.slice none 0 0) (.slice none 0 0) d := ⟨by rw [hp]; exact OPP.nil _ _, by rw [hs]; exact World.ownsRow_nil w B _ 3⟩
theorem DOwn.shape (h : DOwn w B vp vs d) : ∃ pp cp ps cs, vp = .slice pp d.progs.length cp ∧ vs = .slice ps d.starts.length cs := by
  obtain ⟨us, _, ho, _⟩ := h.progs
  obtain ⟨pp, cp, e1⟩ := own_shape9 ho
  obtain ⟨ps, cs, e2⟩ := own_shape9 h.starts
  exact ⟨pp, cp, ps, cs, e1, e2⟩
end
/-- Old blocks of other types than those of a duty's rows stay as they were. -/
def Keep3 (w w' : World) : Prop := ∀ g t cs, Blk w g t cs → 45 ≠ t → 109 ≠ t → 58 ≠ t → Blk w' g t cs
section
variable {w W W' : World} {B sz n g : Nat} {e : TypeId} {v : Value} {xs : List Value}
theorem Keep3.of_below (hb : Below w.heap.size w W) : Keep3 w W := fun _ _ _ h _ _ _ => h.below hb h.lt
theorem Keep3.own (h : Keep3 w W) (ho : W.ownsRow B e sz v n xs) (he : e = 45 ∨ e = 109 ∨ e = 58) (hf : Foot (fun k => v.ownBlock = some k) W W') : Keep3 w W' := fun b t cs hb h1 h2 h3 =>
  (h b t cs hb h1 h2 h3).foot hf (own_ne_blk ho (h b t cs hb h1 h2 h3) (by rcases he with rfl | rfl | rfl <;> assumption))
theorem Keep3.far (h : Keep3 w W) (hf : Foot (fun k => k = g) W W') (hg : w.heap.size ≤ g) : Keep3 w W' := fun b t cs hb h1 h2 h3 =>
  (h b t cs hb h1 h2 h3).foot hf (fun e => by have := hb.lt; omega)
end
end Go.Proofs.YtbdimfcdpkldpaaGreatDoor
