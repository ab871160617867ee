/- The contracts of duty's Plain and line. -/
import Derived.Test.YtbdimfcdpkldpaaGreatDoorZ5
import Derived.Test.YtbdimfcdpkldpaaGreatDoorLYM
import Derived.Test.YtbdimfcdpkldpaaGreatDoorLT1
namespace Go.Proofs.YtbdimfcdpkldpaaGreatDoor
open Go.RowKit

set_option maxHeartbeats 2000000 in
theorem PlainY_any (c t : Int) (w : World) :
    Calls Tryz.prog 30 #[.int .i64 c, .int .i64 t] w fun e w' => e = .returned (.agg ((plainY c t).cells (.slice none 0 0) (.slice none 0 0))) ∧ Below w.heap.size w w' := by
  have hr := RoundUp_any (heldN t) (by have := heldN_range t; omega)
  have hcap := capU_cap (heldN_range t).2
  rw [hcap] at hr
  have e1 : min (max c 1) 64 = heldN c := rfl
  have e2 : min (max t 1) 64 = heldN t := rfl
  have hk := Blk.new w 27 (zeroY.cells (.slice none 0 0) (.slice none 0 0))
  clear hcap
  go_enter Tryz.func30, Tryz.ntmps30
  go_wp2_with (first
    | (refine wpList_alloc_agg rfl 27 rfl (zeroY.cells (.slice none 0 0) (.slice none 0 0)) zeroYR ?_)
    | rw [e1]
    | rw [e2]
    | (go_at_call 69; (with_reducible refine (hr _).mono ?_); clear hr; rintro e w1 ⟨rfl, rfl⟩)
    | (refine wpList_store_row rfl 27 _ _ rfl w.heap.size ((plainY c t).cells (.slice none 0 0) (.slice none 0 0)) rfl rfl 27 _ hk (sizeY _ _ _) rfl (oneY _ _ _ _ _ _ _) ?_))
  refine bodyPost_ret (results_row1 rfl _ _ w.heap.size 27 ((plainY c t).cells (.slice none 0 0) (.slice none 0 0)) (0, 0) _ rfl (hk.row _) Tryz.underlying27 rfl (sizeY _ _ _)) rfl ?_
  exact ⟨rfl, (below_alloc1 _ _).trans (foot_row _ (Nat.le_refl _))⟩

/-! ### a line of numbers -/
def lnGo (dec : Nat) : Nat → List Nat → List UInt8
  | _, [] => []
  | k, x :: xs => (32 :: (if k < dec then Lib.decDigits x else hexN 16 x)) ++ lnGo dec (k + 1) xs
theorem line_headL (d : Dut) : dutyW ++ lnGo 5 0 (numsY d) ++ [10] = headL d ++ [10] := by
  unfold headL headW numsY
  simp [lnGo, joinL, joinT]
theorem line_startL (s : St) : startW ++ lnGo 2 0 [wrapN s.prog, wrapN s.grade, s.mask] ++ [10] = startL s ++ [10] := by
  unfold startL startsW
  simp [lnGo, joinL, joinT]
theorem RV.atU {w : World} {G : Nat → Prop} {p : Option Addr} {n c : Nat} {xs : List Nat} (h : RV w G (.slice p n c) n 1 (xs.map uV)) {k x : Nat} (hx : xs[k]? = some x) :
    ∃ b off, p = some ⟨b, off, none⟩ ∧ b < w.heap.size ∧ G b ∧ w.cell? ⟨b, off + k, none⟩ = some (.int .u64 (x : Int)) := by
  obtain ⟨p', c', hv, h1, h2, h3, h4, h5⟩ := h
  cases hv
  have hk := (List.getElem?_eq_some_iff.1 hx).1
  rw [List.length_map] at h4
  obtain ⟨b, off, hp, hb, hG, hc⟩ := h5.resolve_left (by omega)
  exact ⟨b, off, hp, hb, hG, hc k _ (by rw [List.getElem?_map, hx]; rfl)⟩
theorem RV.sb {w w' : World} {G : Nat → Prop} {v : Value} {n sz : Nat} {xs : List Value} {B b : Nat} (h : RV w G v n sz xs) (hf : SbF B b w w') (hB : B ≤ b) (hG : ∀ k, G k → k < B) : RV w' G v n sz xs :=
  RV.foot h hf (fun k hk hs => by have := hG k hk; rcases hs with e | ⟨e, _⟩ <;> omega)
theorem drop_at9 {α : Type} {l : List α} {k : Nat} {x : α} (h : l[k]? = some x) : l.drop k = x :: l.drop (k + 1) := by
  obtain ⟨hh, rfl⟩ := List.getElem?_eq_some_iff.1 h
  exact List.drop_eq_getElem_cons hh

set_option maxRecDepth 100000 in
set_option maxHeartbeats 4000000 in
theorem LineY_any (Wd : ByteArray) (hWd : Wd.size ≤ 10) (dec n : Nat) (hdec : dec ≤ 10) (hn : n ≤ 10) (xs : List Nat) (hl : xs.length = n) (hx : ∀ x ∈ xs, x < 18446744073709551616) (v : Value) (G : Nat → Prop) (w : World) (hG : ∀ k, G k → k < w.heap.size) (h : RV w G v n 1 (xs.map uV)) (hT : Tabs w) :
    Calls Tryz.prog 21 #[.string Wd, .int .i64 (dec : Int), v] w fun e w' => e = .returned (sV (Wd.data.toList ++ lnGo dec 0 xs ++ [10])) ∧ Below w.heap.size w w' := by
  obtain ⟨p, c, rfl⟩ : ∃ p c, v = .slice p n c := by
    obtain ⟨p, c, hv, _⟩ := id h
    exact ⟨p, c, hv⟩
  obtain ⟨T, hT0⟩ : ∃ T, Wd.data.toList ++ lnGo dec 0 xs = T := ⟨_, rfl⟩
  rw [hT0]
  have HT0 : Hid (Wd.data.toList ++ lnGo dec 0 (xs.drop 0) = T) := Lib.hid (by simpa using hT0)
  have H := Lib.hid h
  have HN := Lib.hid hl
  have HOK := Lib.hid hx
  have HTB := Lib.hid hT
  clear h hl hx hT0 hT
  have hsb0 := SbAt.new w
  have hb0 := below_alloc1 w (.cells #[.pointer none, .slice none 0 0] 48)
  have hR0 := Lib.hid (RV.below H.out hb0 (fun _ hk _ => hk))
  go_enter Tryz.func21, Tryz.ntmps21
  go_wp2_with (first
    | (refine wpList_alloc_agg rfl 48 rfl _ zeroS ?_)
    | (go_at_call 20; refine (WriteS_any _ _ _ Wd _ hsb0 (by simp; omega) hb0.size).mono ?_; rintro e w1 ⟨rfl, hsb1, hf1⟩; have hR1 := Lib.hid (hR0.out.sb hf1 (Nat.le_refl _) hG); have hbw1 := hb0.trans (hf1.below (Nat.le_refl _) hb0.size)))
  rw [List.nil_append] at hsb1
  have hs1 : w.heap.size < w1.heap.size := by have := hf1.size; simp at this; omega
  have HSB1 := Lib.hid hsb1
  clear hsb0 hb0 hsb1 hf1 H hR0
  go_loopw [14] (fun t wr => ∃ (k : Nat) (l : List UInt8), k ≤ n ∧ t = .int .i64 k ∧ Hid (l ++ lnGo dec k (xs.drop k) = T) ∧ l.length ≤ 10 + 21 * k ∧ Hid (SbAt wr w.heap.size w.heap.size l) ∧ Hid (RV wr G (.slice p n c) n 1 (xs.map uV)) ∧ w.heap.size < wr.heap.size ∧ Below w.heap.size w wr) (fun t _ => n - (intOf t).toNat)
  case atStart => exact ⟨0, Wd.data.toList, by omega, rfl, HT0, by have : Wd.data.toList.length = Wd.size := rfl; omega, HSB1, hR1, hs1, hbw1⟩
  case round =>
    obtain ⟨k, l, hk, rfl, hl, hll, hsb, hR, hbs, hb⟩ := hrel
    clear hR1 HT0 HSB1 hbw1
    by_cases hlt : k < n
    · obtain ⟨x, hx⟩ : ∃ x, xs[k]? = some x := ⟨_, List.getElem?_eq_getElem (by rw [HN.out]; exact hlt)⟩
      obtain ⟨b, off, rfl, _, _, hcx⟩ := hR.out.atU hx
      have hxk := HOK.out x (List.mem_of_getElem? hx)
      have hl2 := hl.out
      rw [drop_at9 hx, lnGo] at hl2
      by_cases hd : k < dec
      · rw [if_pos hd] at hl2
        have hz : (Lib.decDigits x).length ≤ 20 := dec20 x hxk
        have hline := fun W hW => Print_any x hxk W (HTB.out.below (w' := W) hW (Nat.le_refl _))
        obtain ⟨Z, hZ⟩ : ∃ Z : ByteArray, Z = ⟨(Lib.decDigits x).toArray⟩ := ⟨_, rfl⟩
        have hZl : Z.data.toList = Lib.decDigits x := by rw [hZ]
        have hZs : Z.size ≤ 20 := by rw [hZ, size_mk]; exact hz
        rw [← hZ] at hline
        rw [← hZl, show (32 : UInt8) :: Z.data.toList = [32] ++ Z.data.toList from rfl, ← List.append_assoc, ← List.append_assoc] at hl2
        have HL2 := Lib.hid hl2
        have HLN := Lib.hid hline
        clear hx hl2 hl hz hZ hZl hline hxk
        go_wp2_with (first
          | (go_at_call 62; refine (WriteB_any _ _ _ 32 _ hsb.out (by omega) hb.size).mono ?_; rintro e w4 ⟨rfl, hsb4, hf4⟩; have hR4 := Lib.hid (hR.out.sb hf4 (Nat.le_refl _) hG); have hbw4 := hb.trans (hf4.below (Nat.le_refl _) hb.size))
          | (go_at_call 63; (with_reducible refine (HLN.out _ hbw4).mono ?_); rintro e w2 ⟨rfl, hb2⟩; have hR2 := Lib.hid (RV.below hR4.out hb2 (fun _ hk _ => hk)); have hsb2 := hsb4.later hb2; have hbw2 := below_pre hbw4 hb2)
          | (go_at_call 20; refine (WriteS_any _ _ _ Z _ hsb2 (by rw [List.length_append]; simp; omega) hbw2.size).mono ?_; rintro e w3 ⟨rfl, hsb3, hf3⟩; have hR3 := Lib.hid (hR2.out.sb hf3 (Nat.le_refl _) hG); have hbw3 := hbw2.trans (hf3.below (Nat.le_refl _) hbw2.size)))
        have hsz : w.heap.size < w3.heap.size := by have := hb2.size; have := hf3.size; have := hf4.size; omega
        go_roundw
        case rel => exact ⟨k + 1, _, by omega, by go_num, HL2, by rw [List.length_append, List.length_append]; have : Z.data.toList.length = Z.size := rfl; simp; omega, Lib.hid hsb3, hR3, hsz, hbw3⟩
        case measure => simp [intOf]; omega
      · rw [if_neg hd] at hl2
        have hz : (hexN 16 x).length ≤ 20 := by rw [hexN_len]; decide
        have hline := fun W hW => Hex_any x hxk W (HTB.out.below (w' := W) hW (Nat.le_refl _))
        obtain ⟨Z, hZ⟩ : ∃ Z : ByteArray, Z = ⟨(hexN 16 x).toArray⟩ := ⟨_, rfl⟩
        have hZl : Z.data.toList = hexN 16 x := by rw [hZ]
        have hZs : Z.size ≤ 20 := by rw [hZ, size_mk]; exact hz
        rw [← hZ] at hline
        rw [← hZl, show (32 : UInt8) :: Z.data.toList = [32] ++ Z.data.toList from rfl, ← List.append_assoc, ← List.append_assoc] at hl2
        have HL2 := Lib.hid hl2
        have HLN := Lib.hid hline
        clear hx hl2 hl hz hZ hZl hline hxk
        go_wp2_with (first
          | (go_at_call 62; refine (WriteB_any _ _ _ 32 _ hsb.out (by omega) hb.size).mono ?_; rintro e w4 ⟨rfl, hsb4, hf4⟩; have hR4 := Lib.hid (hR.out.sb hf4 (Nat.le_refl _) hG); have hbw4 := hb.trans (hf4.below (Nat.le_refl _) hb.size))
          | (go_at_call 64; (with_reducible refine (HLN.out _ hbw4).mono ?_); rintro e w2 ⟨rfl, hb2⟩; have hR2 := Lib.hid (RV.below hR4.out hb2 (fun _ hk _ => hk)); have hsb2 := hsb4.later hb2; have hbw2 := below_pre hbw4 hb2)
          | (go_at_call 20; refine (WriteS_any _ _ _ Z _ hsb2 (by rw [List.length_append]; simp; omega) hbw2.size).mono ?_; rintro e w3 ⟨rfl, hsb3, hf3⟩; have hR3 := Lib.hid (hR2.out.sb hf3 (Nat.le_refl _) hG); have hbw3 := hbw2.trans (hf3.below (Nat.le_refl _) hbw2.size)))
        have hsz : w.heap.size < w3.heap.size := by have := hb2.size; have := hf3.size; have := hf4.size; omega
        go_roundw
        case rel => exact ⟨k + 1, _, by omega, by go_num, HL2, by rw [List.length_append, List.length_append]; have : Z.data.toList.length = Z.size := rfl; simp; omega, Lib.hid hsb3, hR3, hsz, hbw3⟩
        case measure => simp [intOf]; omega
    · obtain rfl : k = n := by omega
      have hl2 := hl.out
      rw [List.drop_of_length_le (by rw [HN.out]; exact Nat.le_refl _), show lnGo dec k [] = [] from rfl, List.append_nil] at hl2
      subst hl2
      clear hl
      have hlb : l.length + 1 ≤ 2000000 := by omega
      have HLB := Lib.hid hlb
      clear hll hlb
      go_wp2_with (first
        | (go_at_call 62; refine (WriteB_any _ _ _ 10 _ hsb.out HLB.out hb.size).mono ?_; rintro e w4 ⟨rfl, hsb4, hf4⟩; have hbw4 := hb.trans (hf4.below (Nat.le_refl _) hb.size); have hst := Tryz.Builder_String_any w.heap.size w.heap.size _ w4 hsb4 hbw4.size)
        | (go_at_call 25; (with_reducible refine hst.mono ?_); clear hst; rintro e w5 ⟨rfl, hb5⟩))
      go_ret
      exact ⟨rfl, hbw4.trans (hb5.mono (Nat.le_refl _))⟩
theorem LineY_at (Wd : ByteArray) (hWd : Wd.size ≤ 10) (dI : Int) (dec n : Nat) (hdI : dI = (dec : Int)) (hdec : dec ≤ 10) (hn : n ≤ 10) (xs : List Nat) (hl : xs.length = n) (hx : ∀ x ∈ xs, x < 18446744073709551616) (v : Value) (G : Nat → Prop) (w : World) (hG : ∀ k, G k → k < w.heap.size) (h : RV w G v n 1 (xs.map uV)) (hT : Tabs w) :
    Calls Tryz.prog 21 #[.string Wd, .int .i64 dI, v] w fun e w' => e = .returned (sV (Wd.data.toList ++ lnGo dec 0 xs ++ [10])) ∧ Below w.heap.size w w' := by
  subst hdI
  exact LineY_any Wd hWd dec n hdec hn xs hl hx v G w hG h hT
end Go.Proofs.YtbdimfcdpkldpaaGreatDoor
