/- The contracts of duty's numbers and of the reference's read: what words write. -/
import Derived.Test.YtbdimfcdpkldpaaGreatDoorZ7
import Derived.Test.YtbdimfcdpkldpaaGreatDoorLD4
import Derived.Test.YtbdimfcdpkldpaaGreatDoorLN2
namespace Go.Proofs.YtbdimfcdpkldpaaGreatDoor
open Go.RowKit

theorem readYGo_dec {k : Nat} {z : List UInt8} {ws : List (List UInt8)} (h : (readL z).2 = 0) : readYGo (k + 1) (z :: ws) = (readYGo k ws).map ((readL z).1 :: ·) := by rw [readYGo, if_pos h]
theorem readYGo_hex {z : List UInt8} {ws : List (List UInt8)} (h : (hexR z).2 = 0) : readYGo 0 (z :: ws) = (readYGo 0 ws).map ((hexR z).1 :: ·) := by rw [readYGo, if_pos h]
theorem readYGo_dec0 {k : Nat} {z : List UInt8} {ws : List (List UInt8)} (h : ¬ (readL z).2 = 0) : readYGo (k + 1) (z :: ws) = none := by rw [readYGo, if_neg h]
theorem readYGo_hex0 {z : List UInt8} {ws : List (List UInt8)} (h : ¬ (hexR z).2 = 0) : readYGo 0 (z :: ws) = none := by rw [readYGo, if_neg h]
theorem readYGo_nil (k : Nat) : readYGo k [] = some [] := by cases k <;> rfl
theorem map_app {pre : List Nat} {x : Nat} (A : Option (List Nat)) : (A.map (x :: ·)).map (pre ++ ·) = A.map ((pre ++ [x]) ++ ·) := by cases A <;> simp
/-- What so many decimal and then so many hex words write. -/
def numsR (dec hex : Nat) (ws : List (List UInt8)) : Option (List Nat) := if ws.length = dec + hex then readYGo dec ws else none
def codeR (R : Option (List Nat)) : Nat := match R with | some _ => 0 | none => 3


set_option maxRecDepth 100000 in
set_option maxHeartbeats 4000000 in
theorem Numbers_go (dec hex n : Nat) (hdec : dec ≤ 10) (hhex : hex ≤ 10) (ws : List (List UInt8)) (hws : ws.length = n) (hnn : n = dec + hex) (v : Value) (G : Nat → Prop) (w : World) (hG : ∀ k, G k → k < w.heap.size) (h : RV w G v n 1 (ws.map sV)) (R : Option (List Nat)) (hR : readYGo dec ws = R) :
    Calls Tryz.prog 120 #[v, .int .i64 (dec : Int), .int .i64 (hex : Int)] w fun e w' => ∃ x, e = .returned (.tuple #[x, .int .i64 (codeR R : Nat)]) ∧ w'.ownsRow w.heap.size 22 1 x (R.getD []).length ((R.getD []).map uV) ∧ Below w.heap.size w w' := by
  obtain ⟨i0, hi, hz0, hz1, hz2⟩ := info_parts infoU
  obtain ⟨p, c, rfl⟩ : ∃ p c, v = .slice p n c := by
    obtain ⟨p, c, hv, _⟩ := id h
    exact ⟨p, c, hv⟩
  have HR0 : Hid ((readYGo (dec - 0) (ws.drop 0)).map ([] ++ ·) = R) := Lib.hid (by rw [← hR]; simp)
  have H := Lib.hid h
  have HN := Lib.hid hws
  have t0 : ((n : Int) != ((dec : Int) + (hex : Int))) = false := by subst hnn; simp
  have tw : Hid (wrap64 ((dec : Int) + (hex : Int)) = (dec : Int) + (hex : Int)) := Lib.hid (by rw [IntWalk.wrap64_in _ (by omega)])
  have hn20 : n ≤ 20 := by omega
  clear hnn
  clear h hR hws
  go_enter Tryz.func120, Tryz.ntmps120
  go_wp2_with (rw [tw.out])
  go_loopw [8, 22] (fun x t wr => ∃ (k : Nat) (pre : List Nat), k ≤ n ∧ t = .int .i64 k ∧ pre.length = k ∧ Hid ((readYGo (dec - k) (ws.drop k)).map (pre ++ ·) = R) ∧ wr.ownsRow w.heap.size 22 1 x k (pre.map uV) ∧ Hid (RV wr G (.slice p n c) n 1 (ws.map sV)) ∧ Below w.heap.size w wr) (fun _ t _ => n - (intOf t).toNat)
  case atStart => exact ⟨0, [], by omega, rfl, rfl, HR0, World.ownsRow_nil _ _ _ _, H, Below.refl _ _⟩
  case round =>
    obtain ⟨k, pre, hk, rfl, hpl, ha, hown, hRv, hb⟩ := hrel
    clear HR0 H
    by_cases hlt : k < n
    · obtain ⟨z, hz⟩ : ∃ z, ws[k]? = some z := ⟨_, List.getElem?_eq_getElem (by rw [HN.out]; exact hlt)⟩
      obtain ⟨b, off, rfl, _, _, hcell⟩ := hRv.out.at1 k (sV z) (by rw [List.getElem?_map, hz]; rfl)
      have ha2 := ha.out
      rw [drop_at9 hz] at ha2
      unfold sV at hcell
      obtain ⟨Z, hZ⟩ : ∃ Z : ByteArray, Z = ⟨z.toArray⟩ := ⟨_, rfl⟩
      have hZl : Z.data.toList = z := by rw [hZ]
      rw [← hZ] at hcell
      have hrd := fun W => Read_any Z W
      have hrh := fun W => ReadHex_any Z W
      rw [hZl] at hrd hrh
      have hbl := hb.size
      clear hz hZ hZl ha
      by_cases hd : k < dec
      · rw [show dec - k = (dec - (k + 1)) + 1 by omega] at ha2
        by_cases h0 : (readL z).2 = 0
        · rw [readYGo_dec h0, map_app] at ha2
          rw [h0] at hrd
          have HA := Lib.hid ha2
          generalize (readL z).1 = x at *
          clear ha2 h0 hrh
          go_wp2_with (first
            | (go_at_call 149; (with_reducible refine (hrd _).mono ?_); clear hrd; rintro e w4 ⟨rfl, hb4⟩; have hown4 := ownsRow_below hown hb4 (Nat.le_refl _); have hR4 := RV.below hRv.out hb4 (fun _ hk _ => hk); have hbw4 := hb.trans (hb4.mono hb.size))
            | (at_builtin; refine wpList_append_lits rfl _ _ 54 rfl w.heap.size 22 i0 (.int .u64 0) 8 Tryz.underlying54 hi hz0 hz1 hz2 rfl (by decide) hown4 rfl _ rfl rfl rfl (by omega) (by have := hbw4.size; omega) ?_; intro v' w5 hownA hb5 _ _))
          go_roundw
          case rel => exact ⟨k + 1, pre ++ [x], by omega, by go_num, by simp [hpl], HA, by rw [List.map_append]; exact hownA, Lib.hid (RV.below hR4 hb5 (fun k _ hk => hG k hk)), hbw4.trans hb5⟩
          case measure => simp [intOf]; omega
        · rw [readYGo_dec0 h0] at ha2
          have hRn : R = none := ha2.symm
          subst hRn
          have hne : (((readL z).2 : Int) != 0) = true := by simp; omega
          clear ha2 h0 hrh
          go_wp2_with (first
            | (go_at_call 149; (with_reducible refine (hrd _).mono ?_); clear hrd; rintro e w4 ⟨rfl, hb4⟩; have hown4 := ownsRow_below hown hb4 (Nat.le_refl _); have hR4 := RV.below hRv.out hb4 (fun _ hk _ => hk); have hbw4 := hb.trans (hb4.mono hb.size)))
          go_ret2
          exact ⟨_, rfl, World.ownsRow_nil _ _ _ _, hbw4⟩
      · rw [show dec - k = 0 by omega] at ha2
        have hd0 : dec - (k + 1) = 0 := by omega
        by_cases h0 : (hexR z).2 = 0
        · rw [readYGo_hex h0, map_app, ← hd0] at ha2
          rw [h0] at hrh
          have HA := Lib.hid ha2
          generalize (hexR z).1 = x at *
          clear ha2 h0 hrd hd0
          go_wp2_with (first
            | (go_at_call 150; (with_reducible refine (hrh _).mono ?_); clear hrh; rintro e w4 ⟨rfl, hb4⟩; have hown4 := ownsRow_below hown hb4 (Nat.le_refl _); have hR4 := RV.below hRv.out hb4 (fun _ hk _ => hk); have hbw4 := hb.trans (hb4.mono hb.size))
            | (at_builtin; refine wpList_append_lits rfl _ _ 54 rfl w.heap.size 22 i0 (.int .u64 0) 8 Tryz.underlying54 hi hz0 hz1 hz2 rfl (by decide) hown4 rfl _ rfl rfl rfl (by omega) (by have := hbw4.size; omega) ?_; intro v' w5 hownA hb5 _ _))
          go_roundw
          case rel => exact ⟨k + 1, pre ++ [x], by omega, by go_num, by simp [hpl], HA, by rw [List.map_append]; exact hownA, Lib.hid (RV.below hR4 hb5 (fun k _ hk => hG k hk)), hbw4.trans hb5⟩
          case measure => simp [intOf]; omega
        · rw [readYGo_hex0 h0] at ha2
          have hRn : R = none := ha2.symm
          subst hRn
          have hne : (((hexR z).2 : Int) != 0) = true := by simp; omega
          clear ha2 h0 hrd hd0
          go_wp2_with (first
            | (go_at_call 150; (with_reducible refine (hrh _).mono ?_); clear hrh; rintro e w4 ⟨rfl, hb4⟩; have hown4 := ownsRow_below hown hb4 (Nat.le_refl _); have hR4 := RV.below hRv.out hb4 (fun _ hk _ => hk); have hbw4 := hb.trans (hb4.mono hb.size)))
          go_ret2
          exact ⟨_, rfl, World.ownsRow_nil _ _ _ _, hbw4⟩
    · obtain rfl : k = n := by omega
      have ha2 := ha.out
      rw [List.drop_of_length_le (by rw [HN.out]; exact Nat.le_refl _), readYGo_nil] at ha2
      have hRs : R = some pre := by rw [← ha2]; simp
      subst hRs
      clear ha ha2
      go_wp2
      go_ret2
      exact ⟨_, rfl, by rw [Option.getD_some, hpl]; exact hown, hb⟩

theorem Numbers_any (dec hex : Nat) (hdec : dec ≤ 10) (hhex : hex ≤ 10) (ws : List (List UInt8)) (_hl : ws.length ≤ 4000) (v : Value) (G : Nat → Prop) (w : World) (hG : ∀ k, G k → k < w.heap.size) (h : RV w G v ws.length 1 (ws.map sV)) :
    Calls Tryz.prog 120 #[v, .int .i64 (dec : Int), .int .i64 (hex : Int)] w fun e w' => ∃ x, e = .returned (.tuple #[x, .int .i64 (codeR (numsR dec hex ws) : Nat)]) ∧ w'.ownsRow w.heap.size 22 1 x ((numsR dec hex ws).getD []).length (((numsR dec hex ws).getD []).map uV) ∧ Below w.heap.size w w' := by
  by_cases hn : ws.length = dec + hex
  · have e : numsR dec hex ws = readYGo dec ws := by unfold numsR; rw [if_pos hn]
    rw [e]
    exact Numbers_go dec hex ws.length hdec hhex ws rfl hn v G w hG h _ rfl
  · have e : numsR dec hex ws = none := by unfold numsR; rw [if_neg hn]
    rw [e]
    obtain ⟨p, c, rfl⟩ : ∃ p c, v = .slice p ws.length c := by
      obtain ⟨p, c, hv, _⟩ := id h
      exact ⟨p, c, hv⟩
    have t0 : ((ws.length : Int) != ((dec : Int) + (hex : Int))) = true := by simp; omega
    have tw : Hid (wrap64 ((dec : Int) + (hex : Int)) = (dec : Int) + (hex : Int)) := Lib.hid (by rw [IntWalk.wrap64_in _ (by omega)])
    clear h e hn
    go_enter Tryz.func120, Tryz.ntmps120
    go_wp2_with (rw [tw.out])
    go_ret2
    exact ⟨_, rfl, World.ownsRow_nil _ _ _ _, Below.refl _ _⟩

set_option maxRecDepth 100000 in
set_option maxHeartbeats 4000000 in
theorem RReadY_go (dec hex n : Nat) (hhex : hex ≤ 10) (ws : List (List UInt8)) (hws : ws.length = n) (hnn : n - hex = dec) (hn4 : n ≤ 4000) (hsm : ∀ z ∈ ws, z.length ≤ 4000) (v : Value) (G : Nat → Prop) (w : World) (hG : ∀ k, G k → k < w.heap.size) (h : RV w G v n 1 (ws.map sV)) (R : Option (List Nat)) (hR : readYGo dec ws = R) :
    Calls Tryz.prog 80 #[v, .int .i64 (hex : Int)] w fun e w' => ∃ x, e = .returned (.tuple #[x, .bool R.isSome]) ∧ w'.ownsRow w.heap.size 22 1 x (R.getD []).length ((R.getD []).map uV) ∧ Below w.heap.size w w' := by
  obtain ⟨i0, hi, hz0, hz1, hz2⟩ := info_parts infoU
  obtain ⟨p, c, rfl⟩ : ∃ p c, v = .slice p n c := by
    obtain ⟨p, c, hv, _⟩ := id h
    exact ⟨p, c, hv⟩
  have HR0 : Hid ((readYGo (dec - 0) (ws.drop 0)).map ([] ++ ·) = R) := Lib.hid (by rw [← hR]; simp)
  have H := Lib.hid h
  have HN := Lib.hid hws
  have HSM := Lib.hid hsm
  have tw : Hid (wrap64 ((n : Int) - (hex : Int)) = (n : Int) - (hex : Int)) := Lib.hid (by rw [IntWalk.wrap64_in _ (by omega)])
  have HNN := Lib.hid hnn
  clear hnn hsm
  clear h hR hws
  go_enter Tryz.func80, Tryz.ntmps80
  go_wp2
  go_loopw [6, 7] (fun x t wr => ∃ (k : Nat) (pre : List Nat), k ≤ n ∧ t = .int .i64 k ∧ pre.length = k ∧ Hid ((readYGo (dec - k) (ws.drop k)).map (pre ++ ·) = R) ∧ wr.ownsRow w.heap.size 22 1 x k (pre.map uV) ∧ Hid (RV wr G (.slice p n c) n 1 (ws.map sV)) ∧ Below w.heap.size w wr) (fun _ t _ => n - (intOf t).toNat)
  case atStart => exact ⟨0, [], by omega, rfl, rfl, HR0, World.ownsRow_nil _ _ _ _, H, Below.refl _ _⟩
  case round =>
    obtain ⟨k, pre, hk, rfl, hpl, ha, hown, hRv, hb⟩ := hrel
    clear HR0 H
    by_cases hlt : k < n
    · obtain ⟨z, hz⟩ : ∃ z, ws[k]? = some z := ⟨_, List.getElem?_eq_getElem (by rw [HN.out]; exact hlt)⟩
      obtain ⟨b, off, rfl, _, _, hcell⟩ := hRv.out.at1 k (sV z) (by rw [List.getElem?_map, hz]; rfl)
      have hzl := HSM.out z (List.mem_of_getElem? hz)
      have ha2 := ha.out
      rw [drop_at9 hz] at ha2
      unfold sV at hcell
      obtain ⟨Z, hZ⟩ : ∃ Z : ByteArray, Z = ⟨z.toArray⟩ := ⟨_, rfl⟩
      have hZl : Z.data.toList = z := by rw [hZ]
      rw [← hZ] at hcell
      have hrd := fun W => RRead_any Z (by rw [hZ, size_mk]; exact hzl) W
      have hrh := fun W => RReadHex_any Z W
      rw [hZl] at hrd hrh
      have hbl := hb.size
      clear hz hZ hZl ha
      by_cases hd : k < dec
      · rw [show dec - k = (dec - (k + 1)) + 1 by omega] at ha2
        have td : decide ((k : Int) ≥ (n : Int) - (hex : Int)) = false := by have := HNN.out; simp; omega
        by_cases h0 : (readL z).2 = 0
        · rw [readYGo_dec h0, map_app] at ha2
          rw [h0] at hrd
          have HA := Lib.hid ha2
          generalize (readL z).1 = x at *
          clear ha2 h0 hrh hzl
          go_wp2_with (first
            | rw [tw.out]
            | (go_at_call 122; (with_reducible refine (hrd _).mono ?_); clear hrd; rintro e w4 ⟨rfl, rfl⟩; have hown4 := hown; have hR4 := hRv.out; have hbw4 := hb)
            | (at_builtin; refine wpList_append_lits rfl _ _ 54 rfl w.heap.size 22 i0 (.int .u64 0) 8 Tryz.underlying54 hi hz0 hz1 hz2 rfl (by decide) hown4 rfl _ rfl rfl rfl (by omega) (by have := hbw4.size; omega) ?_; intro v' w5 hownA hb5 _ _))
          go_roundw
          case rel => exact ⟨k + 1, pre ++ [x], by omega, by go_num, by simp [hpl], HA, by rw [List.map_append]; exact hownA, Lib.hid (RV.below hR4 hb5 (fun k _ hk => hG k hk)), hbw4.trans hb5⟩
          case measure => simp [intOf]; omega
        · rw [readYGo_dec0 h0] at ha2
          have hRn : R = none := ha2.symm
          subst hRn
          have hne : (((readL z).2 : Int) != 0) = true := by simp; omega
          clear ha2 h0 hrh hzl
          go_wp2_with (first
            | rw [tw.out]
            | (go_at_call 122; (with_reducible refine (hrd _).mono ?_); clear hrd; rintro e w4 ⟨rfl, rfl⟩; have hown4 := hown; have hR4 := hRv.out; have hbw4 := hb))
          go_ret2
          exact ⟨_, rfl, World.ownsRow_nil _ _ _ _, hbw4⟩
      · rw [show dec - k = 0 by omega] at ha2
        have td : decide ((k : Int) ≥ (n : Int) - (hex : Int)) = true := by have := HNN.out; simp; omega
        have hd0 : dec - (k + 1) = 0 := by omega
        by_cases h0 : (hexR z).2 = 0
        · rw [readYGo_hex h0, map_app, ← hd0] at ha2
          rw [h0] at hrh
          have HA := Lib.hid ha2
          generalize (hexR z).1 = x at *
          clear ha2 h0 hzl hd0
          go_wp2_with (first
            | rw [tw.out]
            | (go_at_call 122; (with_reducible refine (hrd _).mono ?_); clear hrd; rintro e w3 ⟨rfl, rfl⟩)
            | (go_at_call 123; (with_reducible refine (hrh _).mono ?_); clear hrh; rintro e w4 ⟨rfl, rfl⟩; have hown4 := hown; have hR4 := hRv.out; have hbw4 := hb)
            | (at_builtin; refine wpList_append_lits rfl _ _ 54 rfl w.heap.size 22 i0 (.int .u64 0) 8 Tryz.underlying54 hi hz0 hz1 hz2 rfl (by decide) hown4 rfl _ rfl rfl rfl (by omega) (by have := hbw4.size; omega) ?_; intro v' w5 hownA hb5 _ _))
          go_roundw
          case rel => exact ⟨k + 1, pre ++ [x], by omega, by go_num, by simp [hpl], HA, by rw [List.map_append]; exact hownA, Lib.hid (RV.below hR4 hb5 (fun k _ hk => hG k hk)), hbw4.trans hb5⟩
          case measure => simp [intOf]; omega
        · rw [readYGo_hex0 h0] at ha2
          have hRn : R = none := ha2.symm
          subst hRn
          have hne : (((hexR z).2 : Int) != 0) = true := by simp; omega
          clear ha2 h0 hzl hd0
          go_wp2_with (first
            | rw [tw.out]
            | (go_at_call 122; (with_reducible refine (hrd _).mono ?_); clear hrd; rintro e w3 ⟨rfl, rfl⟩)
            | (go_at_call 123; (with_reducible refine (hrh _).mono ?_); clear hrh; rintro e w4 ⟨rfl, rfl⟩; have hown4 := hown; have hR4 := hRv.out; have hbw4 := hb))
          go_ret2
          exact ⟨_, rfl, World.ownsRow_nil _ _ _ _, hbw4⟩
    · obtain rfl : k = n := by omega
      have ha2 := ha.out
      rw [List.drop_of_length_le (by rw [HN.out]; exact Nat.le_refl _), readYGo_nil] at ha2
      have hRs : R = some pre := by rw [← ha2]; simp
      subst hRs
      clear ha ha2
      go_wp2
      go_ret2
      exact ⟨_, rfl, by rw [Option.getD_some, hpl]; exact hown, hb⟩

theorem RReadY_any (hex : Nat) (hhex : hex ≤ 10) (ws : List (List UInt8)) (hl : ws.length ≤ 4000) (hsm : ∀ z ∈ ws, z.length ≤ 4000) (v : Value) (G : Nat → Prop) (w : World) (hG : ∀ k, G k → k < w.heap.size) (h : RV w G v ws.length 1 (ws.map sV)) :
    Calls Tryz.prog 80 #[v, .int .i64 (hex : Int)] w fun e w' => ∃ x, e = .returned (.tuple #[x, .bool (readY ws hex).isSome]) ∧ w'.ownsRow w.heap.size 22 1 x ((readY ws hex).getD []).length (((readY ws hex).getD []).map uV) ∧ Below w.heap.size w w' :=
  RReadY_go (ws.length - hex) hex ws.length hhex ws rfl rfl hl hsm v G w hG h _ rfl
end Go.Proofs.YtbdimfcdpkldpaaGreatDoor
