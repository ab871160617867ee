/- The contracts of strings.Cut at a line feed and of prog's lines. The contract of the reference's Lines. -/
import Derived.Test.YtlgjbcmkhcgigaaDoorLT1
import Derived.Test.YtlgjbcmkhcgigaaDoorShelf
import Derived.Test.YtlgjbcmkhcgigaaDoorLB
import Derived.WalkMore
import Derived.ScopeJumps
import Derived.Deep.QuietTactic
import Derived.BigQuiet
import Derived.Test.YtlgjbcmkhcgigaaDoorLN2
namespace Go.Proofs.YtlgjbcmkhcgigaaDoor
open Go.RowKit

theorem list_size (s : ByteArray) : s.data.toList.length = s.size := rfl

set_option maxHeartbeats 1000000 in
theorem cutLite_any (s : ByteArray) (hs : s.size ≤ 40000) (w : World) :
    Calls Tryd.prog 103 #[.string s, .string ⟨#[10]⟩] w fun e w' => e = .returned (.tuple #[sV (cutB s.data.toList).1, sV (cutB s.data.toList).2.1, .bool (cutB s.data.toList).2.2]) ∧ Below w.heap.size w w' := by
  have hix := Tryd.stringslite_Index_one s 10 w
  have hge := Lib.indexByte_ge s.data.toList 10
  by_cases h1 : Lib.indexByte s.data.toList 10 = -1
  · rw [h1] at hix
    rw [cutB_none _ h1]
    clear h1 hge
    go_enter Tryd.func103, Tryd.ntmps103
    go_wp2_with (go_at_call 118; (with_reducible refine hix.mono ?_); clear hix; rintro e w1 ⟨rfl, rfl⟩)
    go_ret3
    exact ⟨rfl, Below.refl _ _⟩
  · obtain ⟨o, ho⟩ : ∃ o : Nat, Lib.indexByte s.data.toList 10 = o := ⟨(Lib.indexByte s.data.toList 10).toNat, by omega⟩
    obtain ⟨hlt, hc⟩ := cutB_some _ o ho
    rw [list_size] at hlt
    rw [ho] at hix
    have e1 : sV (s.data.toList.take o) = .string (s.extract 0 o) := by
      rw [← sV_data, extract_list]; simp
    have e2 : sV (s.data.toList.drop (o + 1)) = .string (s.extract (o + 1) s.size) := by
      rw [← sV_data, extract_list, List.take_of_length_le (by rw [List.length_drop, list_size]; omega)]
    rw [hc]
    simp only
    rw [e1, e2]
    clear h1 hge ho hc e1 e2
    go_enter Tryd.func103, Tryd.ntmps103
    go_wp2_with (go_at_call 118; (with_reducible refine hix.mono ?_); clear hix; rintro e w1 ⟨rfl, rfl⟩)
    go_quiet (fail)
    go_wp2
    go_ret3
    exact ⟨rfl, Below.drewN' (Below.refl _ _) _⟩
set_option maxHeartbeats 1000000 in
theorem cut_any (s : ByteArray) (hs : s.size ≤ 40000) (w : World) :
    Calls Tryd.prog 76 #[.string s, .string ⟨#[10]⟩] w fun e w' => e = .returned (.tuple #[sV (cutB s.data.toList).1, sV (cutB s.data.toList).2.1, .bool (cutB s.data.toList).2.2]) ∧ Below w.heap.size w w' := by
  have h := cutLite_any s hs w
  unfold sV at h ⊢
  generalize ByteArray.mk (cutB s.data.toList).1.toArray = A at *
  generalize ByteArray.mk (cutB s.data.toList).2.1.toArray = B at *
  generalize (cutB s.data.toList).2.2 = C at *
  clear hs
  go_enter Tryd.func76, Tryd.ntmps76
  go_wp2_with (go_at_call 103; (with_reducible refine h.mono ?_); clear h; rintro e w1 ⟨rfl, hb⟩)
  go_ret3
  exact ⟨rfl, hb⟩

/-- A body whose label is jumped back to: one pass serves the first time, too. -/
theorem wp_scope_both {P : Program} {a : Act} {w : World} {Q : Exit → Act → World → Prop} {c rest : Code} (l : Nat) (J : Act → World → Prop) (μ : Act → World → Nat) (hf : findLabel c l = some (.seq .skip rest))
    (pass : ∀ a w, J a w → rest.wp P (Exit.jump l (fun a' w' => J a' w' ∧ μ a' w' < μ a w) Q) a w)
    (first : (∀ a w, J a w → rest.wp P (Exit.jump l J Q) a w) → c.wp P (Exit.jump l J Q) a w) : (Code.scope c).wp P Q a w :=
  wp_scope_jumps l J μ hf (first fun a w h => Code.wp_mono (fun e a' w' q => by
    cases e with
    | goto l' => exact ⟨q.1, q.2.1⟩
    | _ => exact q) (pass a w h)) fun a w h => wp_seq (wp_skip (pass a w h))
def strLen : Value → Nat
  | .string s => s.size
  | _ => 0
/-- What holds where the loop of lines begins anew. -/
def LinesAt (w : World) (D : List (List UInt8)) (a' : Act) (w' : World) : Prop :=
  ∃ (ws : List (List UInt8)) (S : ByteArray) (v u5 u6 u7 u8 u9 u10 u11 u12 u13 u14 u15 u16 u17 u18 u19 u20 u21 u22 u23 u24 : Value), a' = { tmps := #[.string S, undef, .slice none 0 0, .bool false, v, u5, u6, u7, u8, u9, u10, u11, u12, u13, u14, u15, u16, u17, u18, u19, u20, u21, u22, u23, u24], defers := [] } ∧ Hid (ws ++ linesGo [] S.data.toList = D) ∧ ws.length ≤ 256 ∧ S.size ≤ 40000 ∧ w'.ownsRow w.heap.size 9 1 v ws.length (ws.map sV) ∧ Below w.heap.size w w'

set_option maxRecDepth 1000000 in
set_option maxHeartbeats 4000000 in
theorem lines_any (s : ByteArray) (hs : s.size ≤ 40000) (D : List (List UInt8)) (hD : linesL s.data.toList = D) (w : World) :
    Calls Tryd.prog 43 #[.string s] w fun e w' => (D.length ≤ 256 → ∃ v, e = .returned (.tuple #[v, .bool true]) ∧ w'.ownsRow w.heap.size 9 1 v D.length (D.map sV)) ∧ (256 < D.length → e = .returned (.tuple #[.slice none 0 0, .bool false])) ∧ Below w.heap.size w w' := by
  obtain ⟨i0, hi, hz0, hz1, hz2⟩ := info_parts infoS
  have HW0 : Hid ([] ++ linesGo [] s.data.toList = D) := Lib.hid hD
  clear hD
  go_enter Tryd.func43, Tryd.ntmps43
  go_wp2
  refine wp_scope_both 0 (LinesAt w D) (fun a' _ => strLen (a'.tmps.getD 0 undef)) rfl ?_ ?_
  · rintro a' wr ⟨ws, S, v, u5, u6, u7, u8, u9, u10, u11, u12, u13, u14, u15, u16, u17, u18, u19, u20, u21, u22, u23, u24, rfl, hW, hw6, hS, hown, hb⟩
    clear HW0 hs
    obtain ⟨p, c, rfl, _⟩ := id (RV.of_own hown)
    by_cases h0 : S.size = 0
    · have he : S = ⟨#[]⟩ := ByteArray.ext (Array.eq_empty_of_size_eq_zero h0)
      subst he
      have hD := hW.out
      rw [show linesGo [] (ByteArray.mk #[]).data.toList = [] from rfl, List.append_nil] at hD
      have HD := Lib.hid hD
      clear h0 hD hW
      go_wp2
      simp only [Exit.jump]
      go_ret2
      refine ⟨fun _ => ⟨_, rfl, by rw [← HD.out]; exact hown⟩, fun hgt => ?_, hb⟩
      rw [← HD.out] at hgt
      omega
    · have hne' : S.data.toList ≠ [] := fun e => h0 (by rw [← list_size, e]; rfl)
      have hne : ¬ S.toList = [] := by rw [Lib.toList_data]; exact hne'
      have hem : S.toList.isEmpty = false := by
        cases hl : S.toList with
        | nil => exact absurd hl hne
        | cons c r => rfl
      by_cases h6 : ws.length = 256
      · have hD := congrArg List.length hW.out
        have hp : 0 < (linesGo [] S.data.toList).length := List.length_pos_iff.2 (lines_ne hne' [])
        rw [List.length_append] at hD
        have hgt : 256 < D.length := by omega
        have HG := Lib.hid hgt
        have ht : ((ws.length : Int) == 256) = true := by simp; omega
        clear hD hp hgt h6 hW h0 hne'
        go_wp2
        simp only [Exit.jump]
        go_ret2
        exact ⟨fun h => absurd HG.out (by omega), fun _ => rfl, hb⟩
      · have ht : ((ws.length : Int) == 256) = false := by simp; omega
        have hcut := cut_any S hS wr
        have hW2 := hW.out
        rw [lines_cutB _ [] (.inr hne'), List.nil_append] at hW2
        have hlen := cutB_len _ hne'
        rw [list_size] at hlen
        unfold sV at hcut
        obtain ⟨A, hA⟩ : ∃ A : ByteArray, A = ⟨(cutB S.data.toList).1.toArray⟩ := ⟨_, rfl⟩
        obtain ⟨B, hB⟩ : ∃ B : ByteArray, B = ⟨(cutB S.data.toList).2.1.toArray⟩ := ⟨_, rfl⟩
        have hAl : A.data.toList = (cutB S.data.toList).1 := by rw [hA]
        have hBl : B.data.toList = (cutB S.data.toList).2.1 := by rw [hB]
        rw [← hA, ← hB] at hcut
        rw [← hAl, ← hBl] at hW2
        rw [← hBl, list_size] at hlen
        generalize (cutB S.data.toList).2.2 = C at hcut
        have HW2 : Hid ((ws ++ [A.data.toList]) ++ linesGo [] B.data.toList = D) := Lib.hid (by rw [List.append_assoc]; exact hW2)
        clear hW2 hA hB hAl hBl hW h0 hne'
        go_wp2_with (first
          | (go_at_call 76; (with_reducible refine hcut.mono ?_); clear hcut; rintro e w1 ⟨rfl, hb1⟩; have hown1 := ownsRow_below hown hb1 (Nat.le_refl _); have hbw1 := below_pre hb hb1)
          | (at_builtin; refine wpList_append_lits rfl _ _ 65 rfl w.heap.size 9 i0 (.string ⟨#[]⟩) 16 Tryd.underlying65 hi hz0 hz1 hz2 rfl (by decide) hown1 rfl _ rfl rfl rfl (by omega) hbw1.size ?_; intro v' w2 hown2 hb2 _ _))
        go_step3
        have hsn : (w2.ownsRow w.heap.size 9 1 v' (ws ++ [A.data.toList]).length ((ws ++ [A.data.toList]).map sV)) := by
          rw [List.length_append, ← wl_snoc, sV_data]; exact hown2
        exact ⟨rfl, ⟨ws ++ [A.data.toList], B, v', _, _, _, _, _, _, _, _, _, _, _, _, _, _, _, _, _, _, _, _, rfl, HW2, by rw [List.length_append]; simp; omega, by omega, hsn, hbw1.trans hb2⟩, by simp [strLen]; omega⟩
  · intro again
    go_wp2
    go_step3
    rename_i hK
    exact hK _ _ (again _ _ ⟨[], s, .slice none 0 0, _, _, _, _, _, _, _, _, _, _, _, _, _, _, _, _, _, _, _, _, rfl, HW0, by simp, hs, World.ownsRow_nil _ _ _ _, Below.refl _ _⟩)
end Go.Proofs.YtlgjbcmkhcgigaaDoor

namespace Go.Proofs.YtlgjbcmkhcgigaaDoor
open Go.RowKit

set_option maxHeartbeats 2000000 in
theorem RLines_any (s : ByteArray) (hs : s.size ≤ 40000) (D : List (List UInt8)) (hD : linesL s.data.toList = D) (w : World) :
    Calls Tryd.prog 45 #[.string s] w fun e w' => ∃ v, e = .returned v ∧ w'.ownsRow w.heap.size 9 1 v D.length (D.map sV) ∧ Below w.heap.size w w' := by
  obtain ⟨i0, hi, hz0, hz1, hz2⟩ := info_parts infoS
  have HD := Lib.hid hD
  clear hD
  go_enter Tryd.func45, Tryd.ntmps45
  go_wp2
  go_loopw [3, 4, 5] (fun v vst vi wr => ∃ (i st : Nat) (ws : List (List UInt8)), vi = .int .i64 i ∧ vst = .int .i64 st ∧ i ≤ s.size + 1 ∧ ws.length ≤ i ∧ (i ≤ s.size → st ≤ i) ∧ Below w.heap.size w wr ∧
    wr.ownsRow w.heap.size 9 1 v ws.length (ws.map sV) ∧ Hid ((i ≤ s.size → ws ++ linesGo ((s.data.toList.drop st).take (i - st)) (s.data.toList.drop i) = D) ∧ (¬ i ≤ s.size → ws = D))) (fun _ _ vi _ => s.size + 1 - (intOf vi).toNat)
  case atStart => exact ⟨0, 0, [], rfl, rfl, by omega, by simp, fun _ => by omega, Below.refl _ _, World.ownsRow_nil _ _ _ _, Lib.hid ⟨fun _ => by simpa [linesL] using HD.out, fun h => by omega⟩⟩
  case round =>
    obtain ⟨i, st, ws, rfl, rfl, his, hwl, hsi0, hb, hown, HW⟩ := hrel
    by_cases hle : i ≤ s.size
    · have hsi := hsi0 hle
      have hW := HW.out.1 hle
      clear HW hsi0
      by_cases hlt : i < s.size
      · have hix := run_ix s i hlt
        have hdr := drop_at s i hlt
        have hni : ((i : Int) == (s.size : Int)) = false := by simp; omega
        by_cases h32 : s[i]'hlt = 10
        · have hbl : ((((s[i]'hlt).toNat : Nat) : Int) != 10) = false := by rw [h32]; rfl
          rw [hdr, h32, linesGo, if_pos rfl] at hW
          obtain ⟨cur, hcur⟩ : ∃ cur, (s.data.toList.drop st).take (i - st) = cur := ⟨_, rfl⟩
          have hex : Value.string (s.extract st i) = sV cur := by rw [← hcur, ← extract_list, sV_data]
          rw [hcur] at hW
          have HN : Hid ((i + 1 ≤ s.size → ws ++ [cur] ++ linesGo ((s.data.toList.drop (i + 1)).take (i + 1 - (i + 1))) (s.data.toList.drop (i + 1)) = D) ∧ (¬ i + 1 ≤ s.size → ws ++ [cur] = D)) :=
            Lib.hid ⟨fun _ => by rw [Nat.sub_self, List.take_zero, List.append_assoc]; exact hW, fun h => absurd hlt h⟩
          have Hex := Lib.hid hex
          clear hW hdr hcur hex h32
          go_wp2_with (at_builtin; refine wpList_append_lits rfl _ _ 65 rfl w.heap.size 9 i0 (.string ⟨#[]⟩) 16 Tryd.underlying65 hi hz0 hz1 hz2 rfl (by decide) hown rfl _ rfl rfl rfl (by omega) hb.size ?_; intro v' w2 hown' hb2 _ _)
          have hb1 := hb.trans hb2
          have hsn : w2.ownsRow w.heap.size 9 1 v' (ws ++ [cur]).length ((ws ++ [cur]).map sV) := by
            rw [List.length_append, ← wl_snoc, ← Hex.out]; exact hown'
          go_roundw
          case rel => exact ⟨i + 1, i + 1, ws ++ [cur], by go_num, by go_num, by omega, by simp; omega, fun _ => by omega, hb1, hsn, HN⟩
          case measure => (simp [intOf] <;> go_num)
        · have hbl : ((((s[i]'hlt).toNat : Nat) : Int) != 10) = true := by
            rw [bne_iff_ne]
            intro e
            exact h32 (UInt8.toNat_inj.1 (by show (s[i]'hlt).toNat = 10; omega))
          have hnew : ws ++ linesGo ((s.data.toList.drop st).take (i + 1 - st)) (s.data.toList.drop (i + 1)) = D := by
            have hc1 := cur_grow s.data.toList st i 1 hsi
            rw [hdr] at hc1
            rw [hdr, linesGo, if_neg h32] at hW
            rw [← hc1]
            simpa using hW
          have HN : Hid ((i + 1 ≤ s.size → ws ++ linesGo ((s.data.toList.drop st).take (i + 1 - st)) (s.data.toList.drop (i + 1)) = D) ∧ (¬ i + 1 ≤ s.size → ws = D)) :=
            Lib.hid ⟨fun _ => hnew, fun h => absurd hlt h⟩
          clear hW hdr hnew h32
          go_wp2
          go_roundw
          case rel => exact ⟨i + 1, st, ws, by go_num, rfl, by omega, by omega, fun _ => by omega, hb, hown, HN⟩
          case measure => (simp [intOf] <;> go_num)
      · obtain rfl : i = s.size := by omega
        rw [drop_end s s.size hlt, linesGo] at hW
        by_cases hst : st < s.size
        · have hse : ((st : Int) == (s.size : Int)) = false := by simp; omega
          obtain ⟨cur, hcur⟩ : ∃ cur, (s.data.toList.drop st).take (s.size - st) = cur := ⟨_, rfl⟩
          have hex : Value.string (s.extract st s.size) = sV cur := by rw [← hcur, ← extract_list, sV_data]
          have hcl : cur ≠ [] := by
            intro e
            have := congrArg List.length hcur
            rw [e, List.length_take, List.length_drop, show s.data.toList.length = s.size from rfl] at this
            simp at this; omega
          rw [hcur, if_neg hcl] at hW
          have HN : Hid ((s.size + 1 ≤ s.size → ws ++ [cur] ++ linesGo ((s.data.toList.drop (s.size + 1)).take (s.size + 1 - (s.size + 1))) (s.data.toList.drop (s.size + 1)) = D) ∧ (¬ s.size + 1 ≤ s.size → ws ++ [cur] = D)) :=
            Lib.hid ⟨fun h => by omega, fun _ => hW⟩
          have Hex := Lib.hid hex
          clear hW hcur hcl hex
          go_wp2_with (at_builtin; refine wpList_append_lits rfl _ _ 65 rfl w.heap.size 9 i0 (.string ⟨#[]⟩) 16 Tryd.underlying65 hi hz0 hz1 hz2 rfl (by decide) hown rfl _ rfl rfl rfl (by omega) hb.size ?_; intro v' w2 hown' hb2 _ _)
          have hb1 := hb.trans hb2
          have hsn : w2.ownsRow w.heap.size 9 1 v' (ws ++ [cur]).length ((ws ++ [cur]).map sV) := by
            rw [List.length_append, ← wl_snoc, ← Hex.out]; exact hown'
          go_roundw
          case rel => exact ⟨s.size + 1, s.size + 1, ws ++ [cur], by go_num, by go_num, by omega, by simp; omega, fun _ => by omega, hb1, hsn, HN⟩
          case measure => (simp [intOf] <;> go_num)
        · have hse : ((st : Int) == (s.size : Int)) = true := by simp; omega
          have hcur : (s.data.toList.drop st).take (s.size - st) = [] := by rw [show s.size - st = 0 by omega, List.take_zero]
          rw [hcur, if_pos rfl, List.append_nil] at hW
          have HN : Hid ((s.size + 1 ≤ s.size → ws ++ linesGo ((s.data.toList.drop st).take (s.size + 1 - st)) (s.data.toList.drop (s.size + 1)) = D) ∧ (¬ s.size + 1 ≤ s.size → ws = D)) :=
            Lib.hid ⟨fun h => by omega, fun _ => hW⟩
          clear hW hcur
          go_wp2
          go_roundw
          case rel => exact ⟨s.size + 1, st, ws, by go_num, rfl, by omega, by omega, fun _ => by omega, hb, hown, HN⟩
          case measure => (simp [intOf] <;> go_num)
    · have hW := HW.out.2 hle
      subst hW
      clear HW
      have hgt : s.size < i := by omega
      go_wp2
      go_ret
      exact ⟨_, rfl, hown, hb⟩
end Go.Proofs.YtlgjbcmkhcgigaaDoor
