/- The contracts of the reference's Words, Join and Same. -/
import Derived.Test.YtbjmdcjoaapmiaaDoorN9
import Derived.Deep.QuietTactic
import Derived.BigQuiet
namespace Go.Proofs.YtbjmdcjoaapmiaaDoor
open Go.RowKit

/-- A slice of texts that reads as a list. -/
def ReadsS (w : World) (v : Value) (xs : List (List UInt8)) : Prop :=
  ∃ p c, v = .slice p xs.length c ∧ (xs = [] ∨ ∃ b off, p = some ⟨b, off, none⟩ ∧ b < w.heap.size ∧ ∀ j, j < xs.length → w.cell? ⟨b, off + j, none⟩ = some (sV (xs.getD j [])))
theorem ReadsS.below {w w' : World} {v : Value} {xs : List (List UInt8)} {B : Nat} (h : ReadsS w v xs) (hb : Below B w w') (hB : w.heap.size ≤ B) : ReadsS w' v xs := by
  obtain ⟨p, c, rfl, h | ⟨b, off, rfl, hlt, hc⟩⟩ := h
  · exact ⟨p, c, rfl, .inl h⟩
  · refine ⟨_, c, rfl, .inr ⟨b, off, rfl, Nat.lt_of_lt_of_le hlt hb.size, fun j hj => ?_⟩⟩
    rw [hb.cell (p := ⟨b, off + j, none⟩) (Nat.lt_of_lt_of_le hlt hB)]
    exact hc j hj
theorem ReadsS.of_own {w : World} {B : Nat} {v : Value} {xs : List (List UInt8)} (h : w.ownsRow B 9 1 v xs.length (xs.map sV)) : ReadsS w v xs := by
  obtain ⟨hl, ⟨rfl, h0⟩ | ⟨g, cap, cur, rfl, hb, hg, hn, hm, hs, ht⟩⟩ := h
  · have : xs = [] := List.length_eq_zero_iff.1 h0
    subst this
    exact ⟨none, 0, rfl, .inl rfl⟩
  · refine ⟨_, cap, rfl, .inr ⟨g, 0, rfl, (Array.getElem?_eq_some_iff.1 hg).1, fun j hj => ?_⟩⟩
    rw [cell_of_row w g _ cur 9 (0, 0) hg, Nat.zero_add]
    have h1 : (cur.toList.take (xs.length * 1))[j]? = (xs.map sV)[j]? := by rw [ht]
    rw [Nat.mul_one, List.getElem?_take_of_lt hj] at h1
    rw [Array.getElem?_toList] at h1
    rw [h1]
    simp [hj]

theorem take_word (xs : List (List UInt8)) (k : Nat) (h : k < xs.length) : xs.take (k + 1) = xs.take k ++ [xs.getD k []] := by
  rw [List.take_succ_eq_append_getElem h]; simp [h]
theorem mk_append3 (a b c : List UInt8) : ByteArray.mk a.toArray ++ ByteArray.mk b.toArray ++ ByteArray.mk c.toArray = ⟨(a ++ (b ++ c)).toArray⟩ := by
  rw [mk_append, mk_append, List.append_assoc]
set_option maxHeartbeats 1600000 in
theorem RWords_any (s : ByteArray) (hs : s.size ≤ 1000) (w : World) :
    Calls Tryd.prog 43 #[.string s] w fun e w' => ∃ v, e = .returned v ∧ w'.ownsRow w.heap.size 9 1 v (wordsGo [] s.data.toList).length ((wordsGo [] s.data.toList).map sV) ∧ Below w.heap.size w w' := by
  obtain ⟨i0, hi, hz0, hz1, hz2⟩ := info_parts infoS
  generalize hD : wordsGo [] s.data.toList = D
  have HD := Lib.hid hD
  clear hD
  go_enter Tryd.func43, Tryd.ntmps43
  go_wp2
  go_loopw [3, 4, 5] (fun v vst vi wr => ∃ (i st : Nat) (ws : List (List UInt8)), vi = .int .i64 i ∧ vst = .int .i64 st ∧ i ≤ s.size + 1 ∧ ws.length ≤ i ∧ (i ≤ s.size → st ≤ i) ∧ Below w.heap.size w wr ∧
    wr.ownsRow w.heap.size 9 1 v ws.length (ws.map sV) ∧ Hid ((i ≤ s.size → ws ++ wordsGo ((s.data.toList.drop st).take (i - st)) (s.data.toList.drop i) = D) ∧ (¬ i ≤ s.size → ws = D))) (fun _ _ vi _ => s.size + 1 - (intOf vi).toNat)
  case atStart => exact ⟨0, 0, [], rfl, rfl, by omega, by simp, fun _ => by omega, Below.refl _ _, World.ownsRow_nil _ _ _ _, Lib.hid ⟨fun _ => by simpa using HD.out, fun h => by omega⟩⟩
  case round =>
    obtain ⟨i, st, ws, rfl, rfl, his, hwl, hsi0, hb, hown, HW⟩ := hrel
    by_cases hle : i ≤ s.size
    · have hsi := hsi0 hle
      have hW := HW.out.1 hle
      clear HW hsi0
      by_cases hlt : i < s.size
      · have hix := run_ix s i hlt
        have hdr := drop_at s i hlt
        by_cases h32 : s[i]'hlt = 32
        · have hbl : ((((s[i]'hlt).toNat : Nat) : Int) != 32) = false := by rw [h32]; rfl
          rw [hdr, h32, go_blank] at hW
          by_cases hst : st < i
          · obtain ⟨cur, hcur⟩ : ∃ cur, (s.data.toList.drop st).take (i - st) = cur := ⟨_, rfl⟩
            have hex : Value.string (s.extract st i) = sV cur := by rw [← hcur, ← extract_list, sV_data]
            have hcl : cur ≠ [] := by
              intro e
              have := congrArg List.length hcur
              rw [e, List.length_take, List.length_drop, show s.data.toList.length = s.size from rfl] at this
              simp at this; omega
            rw [hcur, addW_some ws hcl] at hW
            have HN : Hid ((i + 1 ≤ s.size → ws ++ [cur] ++ wordsGo ((s.data.toList.drop (i + 1)).take (i + 1 - (i + 1))) (s.data.toList.drop (i + 1)) = D) ∧ (¬ i + 1 ≤ s.size → ws ++ [cur] = D)) :=
              Lib.hid ⟨fun _ => by rw [Nat.sub_self, List.take_zero]; exact hW, fun h => absurd hlt h⟩
            have Hex := Lib.hid hex
            clear hW hdr hcur hcl hex h32
            go_wp2_with (at_builtin; refine wpList_append_own _ rfl _ _ 57 rfl w.heap.size 9 i0 (.string ⟨#[]⟩) 1 16 Tryd.underlying57 hi hz0 hz1 hz2 rfl (by decide) _ _ _ rfl (hown.alloc _) ⟨wr.heap.size, 0, none⟩ 1 1 [.string (s.extract st i)] rfl rfl (cell_one_new _ _ _) (by simp [Value.oneCell']) (by unfold maxLen; omega) (by omega) (by have := hb.size; simp; omega) ?_; intro v' w1 hown' hgrow _)
            have hb1 := (hb.alloc hb.size (.cells #[.string (s.extract st i)] 9)).grown hgrow (by have := hb.size; simp; omega) (fun k hk => (hown.lt k hk).1)
            rw [Hex.out, wl_snoc] at hown'
            go_roundw
            case rel => exact ⟨i + 1, i + 1, ws ++ [cur], by go_num, by go_num, by omega, by simp; omega, fun _ => by omega, hb1, by rw [List.length_append]; exact hown', HN⟩
            case measure => (simp [intOf] <;> go_num)
          · have hcur : (s.data.toList.drop st).take (i - st) = [] := by rw [show i - st = 0 by omega, List.take_zero]
            rw [hcur, addW_nil] at hW
            have HN : Hid ((i + 1 ≤ s.size → ws ++ wordsGo ((s.data.toList.drop (i + 1)).take (i + 1 - (i + 1))) (s.data.toList.drop (i + 1)) = D) ∧ (¬ i + 1 ≤ s.size → ws = D)) :=
              Lib.hid ⟨fun _ => by rw [Nat.sub_self, List.take_zero]; exact hW, fun h => absurd hlt h⟩
            clear hW hdr hcur h32
            go_wp2
            go_roundw
            case rel => exact ⟨i + 1, i + 1, ws, by go_num, by go_num, by omega, by omega, fun _ => by omega, hb, hown, HN⟩
            case measure => (simp [intOf] <;> go_num)
        · have hbl : ((((s[i]'hlt).toNat : Nat) : Int) != 32) = true := by
            rw [bne_iff_ne]
            intro e
            exact h32 (UInt8.toNat_inj.1 (by show (s[i]'hlt).toNat = 32; omega))
          have hnew : ws ++ wordsGo ((s.data.toList.drop st).take (i + 1 - st)) (s.data.toList.drop (i + 1)) = D := by
            have hc1 := cur_grow s.data.toList st i 1 hsi
            rw [hdr] at hc1
            rw [hdr, wordsGo, if_neg h32] at hW
            rw [← hc1]
            simpa using hW
          have HN : Hid ((i + 1 ≤ s.size → ws ++ wordsGo ((s.data.toList.drop st).take (i + 1 - st)) (s.data.toList.drop (i + 1)) = D) ∧ (¬ i + 1 ≤ s.size → ws = D)) :=
            Lib.hid ⟨fun _ => hnew, fun h => absurd hlt h⟩
          clear hW hdr hnew h32
          go_wp2
          go_roundw
          case rel => exact ⟨i + 1, st, ws, by go_num, rfl, by omega, by omega, fun _ => by omega, hb, hown, HN⟩
          case measure => (simp [intOf] <;> go_num)
      · obtain rfl : i = s.size := by omega
        rw [drop_end s s.size hlt, go_end] at hW
        by_cases hst : st < s.size
        · obtain ⟨cur, hcur⟩ : ∃ cur, (s.data.toList.drop st).take (s.size - st) = cur := ⟨_, rfl⟩
          have hex : Value.string (s.extract st s.size) = sV cur := by rw [← hcur, ← extract_list, sV_data]
          have hcl : cur ≠ [] := by
            intro e
            have := congrArg List.length hcur
            rw [e, List.length_take, List.length_drop, show s.data.toList.length = s.size from rfl] at this
            simp at this; omega
          rw [hcur, addW_some ws hcl] at hW
          have HN : Hid ((s.size + 1 ≤ s.size → ws ++ [cur] ++ wordsGo ((s.data.toList.drop (s.size + 1)).take (s.size + 1 - (s.size + 1))) (s.data.toList.drop (s.size + 1)) = D) ∧ (¬ s.size + 1 ≤ s.size → ws ++ [cur] = D)) :=
            Lib.hid ⟨fun h => by omega, fun _ => hW⟩
          have Hex := Lib.hid hex
          clear hW hcur hcl hex
          go_wp2_with (at_builtin; refine wpList_append_own _ rfl _ _ 57 rfl w.heap.size 9 i0 (.string ⟨#[]⟩) 1 16 Tryd.underlying57 hi hz0 hz1 hz2 rfl (by decide) _ _ _ rfl (hown.alloc _) ⟨wr.heap.size, 0, none⟩ 1 1 [.string (s.extract st s.size)] rfl rfl (cell_one_new _ _ _) (by simp [Value.oneCell']) (by unfold maxLen; omega) (by omega) (by have := hb.size; simp; omega) ?_; intro v' w1 hown' hgrow _)
          have hb1 := (hb.alloc hb.size (.cells #[.string (s.extract st s.size)] 9)).grown hgrow (by have := hb.size; simp; omega) (fun k hk => (hown.lt k hk).1)
          rw [Hex.out, wl_snoc] at hown'
          go_roundw
          case rel => exact ⟨s.size + 1, s.size + 1, ws ++ [cur], by go_num, by go_num, by omega, by simp; omega, fun _ => by omega, hb1, by rw [List.length_append]; exact hown', HN⟩
          case measure => (simp [intOf] <;> go_num)
        · have hcur : (s.data.toList.drop st).take (s.size - st) = [] := by rw [show s.size - st = 0 by omega, List.take_zero]
          rw [hcur, addW_nil] at hW
          have HN : Hid ((s.size + 1 ≤ s.size → ws ++ wordsGo ((s.data.toList.drop (s.size + 1)).take (s.size + 1 - (s.size + 1))) (s.data.toList.drop (s.size + 1)) = D) ∧ (¬ s.size + 1 ≤ s.size → ws = D)) :=
            Lib.hid ⟨fun h => by omega, fun _ => hW⟩
          clear hW hcur
          go_wp2
          go_roundw
          case rel => exact ⟨s.size + 1, s.size + 1, ws, by go_num, by go_num, by omega, by omega, fun _ => by omega, hb, hown, HN⟩
          case measure => (simp [intOf] <;> go_num)
    · have hW := HW.out.2 hle
      subst hW
      clear HW
      have hgt : s.size < i := by omega
      go_wp2
      go_ret
      exact ⟨_, rfl, hown, hb⟩
end Go.Proofs.YtbjmdcjoaapmiaaDoor
