/- The contract of the reference's Text of duties. -/
import Derived.Test.YtbdimfcdpkldpaaGreatDoorZ2
import Derived.Test.YtbdimfcdpkldpaaGreatDoorZ7
import Derived.Test.YtbdimfcdpkldpaaGreatDoorLYM
namespace Go.Proofs.YtbdimfcdpkldpaaGreatDoor
open Go.RowKit

theorem app_data (a b : ByteArray) : (a ++ b).data.toList = a.data.toList ++ b.data.toList := by simp
theorem str_eq9 {S : ByteArray} {l : List UInt8} (h : S.data.toList = l) : Value.string S = sV l := by rw [← h]; rfl
theorem rp_len {p : List Deed} (h : ∀ x ∈ p, x.ok) (hl : p.length ≤ 256) : (progT p).length ≤ 28677 := by
  have k1 := textP_len p h
  simp only [progT, progW, List.length_append, List.length_cons, List.length_nil]
  omega
/-- The first numbers of a text. -/
def decsN (d : Dut) (k : Nat) : List UInt8 := ((numsY d).take k).flatMap fun x => 32 :: Lib.decDigits x
theorem decsN_step {d : Dut} {k x : Nat} (h : (numsY d)[k]? = some x) : decsN d (k + 1) = decsN d k ++ 32 :: Lib.decDigits x := by
  unfold decsN
  rw [List.take_add_one, h]
  simp
theorem decsN_head (d : Dut) : dutyW ++ decsN d 5 ++ [32] ++ hexN 16 d.keep ++ [32] ++ hexN 16 d.ratio ++ [10] = headL d ++ [10] := by
  unfold decsN headL headW numsY
  simp [joinL, joinT]
theorem decsN_len {d : Dut} (h : d.ok) : ∀ k, (decsN d k).length ≤ 21 * k
  | 0 => by simp [decsN]
  | k + 1 => by
    have ih := decsN_len h k
    unfold decsN at *
    rw [List.take_add_one]
    cases hx : (numsY d)[k]? with
    | none => simp at ih ⊢; omega
    | some x =>
      have := dec20 x (numsY_lt h x (List.mem_of_getElem? hx))
      simp at ih ⊢
      omega
theorem numsA_at {w : World} {g k x : Nat} {t : TypeId} {d : Dut} (h : Blk w g t (numsA d)) (hx : (numsY d)[k]? = some x) : w.cell? ⟨g, k, none⟩ = some (.int .u64 (x : Int)) := by
  rw [h.cell k, ← Array.getElem?_toList, numsA_list, List.getElem?_map, hx]
  rfl
theorem nums_len (d : Dut) : (numsY d).length = 7 := rfl

set_option maxRecDepth 100000 in
set_option maxHeartbeats 8000000 in
theorem RTextY_good (d : Dut) (hd : d.ok) (h0 : checkY d = 0) (pp ps : Option Addr) (cp cs : Nat) (G : Nat → Prop) (w : World) (h : DV w G (.slice pp d.progs.length cp) (.slice ps d.starts.length cs) d) :
    Calls Tryz.prog 9 #[.agg (d.cells (.slice pp d.progs.length cp) (.slice ps d.starts.length cs))] w fun e w' => e = .returned (sV (textY d)) ∧ Below w.heap.size w w' := by
  obtain ⟨hr, hp64, hs64, hpk, hsk⟩ := checkY_zero h0
  have hchk := fun W (hW : DV W G (.slice pp d.progs.length cp) (.slice ps d.starts.length cs) d) => RCheckY_any d hd _ _ G W hW
  simp only [h0] at hchk
  have hnum := fun W => RNumbers_any d hd pp ps d.progs.length cp d.starts.length cs W
  obtain ⟨T, hT0⟩ : ∃ T, textY d = T := ⟨_, rfl⟩
  rw [hT0]
  rw [textY_split, show headL d ++ 10 :: (d.progs.flatMap progT ++ d.starts.flatMap startT) = (headL d ++ [10]) ++ d.progs.flatMap progT ++ d.starts.flatMap startT by simp] at hT0
  have HT0 := Lib.hid hT0
  have HLT : Hid (∀ x ∈ numsY d, x < 18446744073709551616) := Lib.hid (numsY_lt hd)
  have HKP : Hid (d.keep < 18446744073709551616) := Lib.hid hd.keep
  have HRT : Hid (d.ratio < 18446744073709551616) := Lib.hid hd.ratio
  have HOKP := Lib.hid hd.progs
  have HOKS := Lib.hid hd.starts
  have HDL := Lib.hid (decsN_len hd)
  have HPK : Hid (∀ p ∈ d.progs, p.length ≤ 256) := Lib.hid fun p hp => (checkN_zero.1 (hpk p hp)).1
  have hb0 := below_alloc1 w (.cells (d.cells (.slice pp d.progs.length cp) (.slice ps d.starts.length cs)) 27)
  have hB0 := Blk.new w 27 (d.cells (.slice pp d.progs.length cp) (.slice ps d.starts.length cs))
  have hD0 := Lib.hid (h.later hb0)
  clear hT0 hd h0 h hr hpk hsk
  go_enter Tryz.func9, Tryz.ntmps9
  go_wp2_with (first
    | (refine wpList_box_agg rfl 27 _ rfl (d.cells (.slice pp d.progs.length cp) (.slice ps d.starts.length cs)) rfl ?_)
    | (refine wpList_alloc_agg rfl 61 rfl zero7 zero7R ?_)
    | (refine wpList_load_row rfl 27 _ rfl w.heap.size rfl 27 _ (0, 0) _ hB0 Tryz.underlying27 rfl (sizeY _ _ _) ?_)
    | (refine wpList_load_row rfl 27 _ rfl w.heap.size rfl 27 _ (0, 0) _ hB1 Tryz.underlying27 rfl (sizeY _ _ _) ?_)
    | (go_at_call 11; (with_reducible refine (hchk _ hD0.out).mono ?_); clear hchk; rintro e w1 ⟨rfl, hb1⟩; have hD1 := hD0.out.later hb1; have hB1 := hB0.below hb1 hB0.lt; have hbw1 := below_pre hb0 hb1)
    | (go_at_call 26; (with_reducible refine (hnum _).mono ?_); clear hnum; rintro e w2 ⟨rfl, hb2⟩; have hD2 := hD1.later hb2; have hB2 := hB1.below hb2 hB1.lt; have hbw2 := below_pre hbw1 hb2)
    | (refine wpList_store_row rfl 61 _ _ rfl w2.heap.size (numsA d) rfl rfl 61 _ (heap_alloc_new w2 _) (size7 d) rfl (one7 d) ?_; rw [World.setRow_alloc_new]))
  have hlt2 : w.heap.size < w2.heap.size := hB2.lt
  have ha3 := below_alloc1 w2 (.cells (numsA d) 61)
  have HN3 := Lib.hid (Blk.new w2 61 (numsA d))
  have HD3 := Lib.hid (hD2.later ha3)
  have HB3 := Lib.hid (hB2.below ha3 hB2.lt)
  have hb3 := below_pre hbw2 ha3
  clear ha3 hD2 hB2 hbw2 hb2 hD1 hB1 hbw1 hb1 hD0 hB0 hb0
  obtain ⟨W3, hW3⟩ : ∃ W3, W3 = w2.alloc (.cells (numsA d) 61) := ⟨_, rfl⟩
  rw [← hW3] at HN3 HD3 HB3 hb3 ⊢
  clear hW3
  go_loopw [4, 5] (fun s t wr => ∃ (k : Nat) (S : ByteArray), k ≤ 5 ∧ t = .int .i64 k ∧ s = .string S ∧ Hid (S.data.toList = dutyW ++ decsN d k) ∧ S.size ≤ 4 + 21 * k ∧ W3 = wr) (fun _ t _ => 5 - (intOf t).toNat)
  case atStart => exact ⟨0, _, by omega, rfl, rfl, Lib.hid rfl, by decide, rfl⟩
  case round =>
    obtain ⟨k, S, hk, rfl, rfl, hl, hll, rfl⟩ := hrel
    by_cases hlt : k < 5
    · obtain ⟨x, hx⟩ : ∃ x, (numsY d)[k]? = some x := ⟨_, List.getElem?_eq_getElem (by rw [nums_len]; omega)⟩
      have hcx := numsA_at HN3.out hx
      have hxk := HLT.out x (List.mem_of_getElem? hx)
      have hpr := fun W => RPrint_any x hxk W
      have hst := decsN_step hx
      have hlen := HDL.out (k + 1)
      obtain ⟨Z, hZ⟩ : ∃ Z : ByteArray, Z = ⟨(Lib.decDigits x).toArray⟩ := ⟨_, rfl⟩
      have hZl : Z.data.toList = Lib.decDigits x := by rw [hZ]
      rw [← hZ] at hpr
      have hl2 : (S ++ ByteArray.mk #[32] ++ Z).data.toList = dutyW ++ decsN d (k + 1) := by rw [app_data, app_data, hl.out, hst, hZl]; simp
      have hsz : (S ++ ByteArray.mk #[32] ++ Z).size ≤ 4 + 21 * (k + 1) := by
        have : (S ++ ByteArray.mk #[32] ++ Z).data.toList.length = (S ++ ByteArray.mk #[32] ++ Z).size := rfl
        rw [← this, hl2, List.length_append]
        have : dutyW.length = 4 := rfl
        omega
      have HL2 := Lib.hid hl2
      have HSZ := Lib.hid hsz
      have hz : Z.size ≤ 20 := by rw [hZ, size_mk]; exact dec20 x hxk
      clear hx hxk hst hlen hZ hZl hl2 hsz hl
      go_wp2_with (go_at_call 27; (with_reducible refine (hpr _).mono ?_); clear hpr; rintro e w4 ⟨rfl, rfl⟩)
      go_roundw
      case rel => exact ⟨k + 1, _, by omega, by go_num, rfl, HL2, HSZ.out, trivial⟩
      case measure => simp [intOf]; omega
    · obtain rfl : k = 5 := by omega
      have hc5 := numsA_at HN3.out (show (numsY d)[5]? = some d.keep from rfl)
      have hc6 := numsA_at HN3.out (show (numsY d)[6]? = some d.ratio from rfl)
      have hpk := fun W => RHex_any d.keep HKP.out W
      have hpr := fun W => RHex_any d.ratio HRT.out W
      obtain ⟨Z1, hZ1⟩ : ∃ Z : ByteArray, Z = ⟨(hexN 16 d.keep).toArray⟩ := ⟨_, rfl⟩
      obtain ⟨Z2, hZ2⟩ : ∃ Z : ByteArray, Z = ⟨(hexN 16 d.ratio).toArray⟩ := ⟨_, rfl⟩
      have hZl1 : Z1.data.toList = hexN 16 d.keep := by rw [hZ1]
      have hZl2 : Z2.data.toList = hexN 16 d.ratio := by rw [hZ2]
      rw [← hZ1] at hpk
      rw [← hZ2] at hpr
      have hq1 : Z1.size ≤ 16 := by rw [hZ1, size_mk, hexN_len]; decide
      have hq2 : Z2.size ≤ 16 := by rw [hZ2, size_mk, hexN_len]; decide
      have HHL : Hid ((S ++ ByteArray.mk #[32] ++ Z1 ++ ByteArray.mk #[32] ++ Z2 ++ ByteArray.mk #[10]).data.toList = headL d ++ [10]) := Lib.hid (by
        simp only [app_data, hl.out, hZl1, hZl2]
        rw [← decsN_head])
      have HHS : Hid ((S ++ ByteArray.mk #[32] ++ Z1 ++ ByteArray.mk #[32] ++ Z2 ++ ByteArray.mk #[10]).size ≤ 145) := Lib.hid (by
        simp only [ByteArray.size_append]
        have : (ByteArray.mk #[32]).size = 1 := rfl
        have : (ByteArray.mk #[10]).size = 1 := rfl
        omega)
      clear hl hk hlt hZ1 hZ2 hZl1 hZl2 HDL
      go_wp2_with fail
      refine wp_region_held_drew (S := fun w' => w' = W3.drew) (by kernel_rfl) rfl (fun hS0 => ?_)
      refine wpAnyH_take (i := 0) (v := ?_) rfl (by kernel_rfl) (by kernel_rfl) (by kernel_rfl) (fun _ _ _ h => h) (Or.inl ⟨by rfl, ?_⟩) hS0 ?_
      rotate_left
      · intro w1 _; go_simp; with_reducible rfl
      try simp only [List.getElem_toArray, List.getElem_cons_zero, Act.put, List.setIfInBounds_toArray, List.set_cons_zero, List.set_cons_succ]
      refine wpAnyH_take (i := 1) (v := .string (S ++ ByteArray.mk #[32])) rfl (by kernel_rfl) (by kernel_rfl) (by kernel_rfl) (fun _ _ _ h => h) (Or.inl ⟨by rfl, fun w1 hS1 => by go_simp; first | done | omega | (simp only [ByteArray.size_append]; omega)⟩) hS0 ?_
      try simp only [List.getElem_toArray, List.getElem_cons_zero, List.getElem_cons_succ, Act.put, List.setIfInBounds_toArray, List.set_cons_zero, List.set_cons_succ]
      refine wpAnyH_take (i := 2) (v := ?_) rfl (by kernel_rfl) (by kernel_rfl) (by kernel_rfl) (fun _ _ _ h => h) (Or.inl ⟨by rfl, ?_⟩) hS0 ?_
      rotate_left
      · intro w1 _; go_simp; with_reducible rfl
      try simp only [List.getElem_toArray, List.getElem_cons_zero, List.getElem_cons_succ, Act.put, List.setIfInBounds_toArray, List.set_cons_zero, List.set_cons_succ]
      refine wpAnyH_take (i := 3) (v := .int .u64 (d.keep : Int)) rfl (by kernel_rfl) (by kernel_rfl) (by kernel_rfl) (fun _ _ _ h => h) (Or.inl ⟨by rfl, fun w1 hS1 => by subst hS1; go_simp⟩) hS0 ?_
      try simp only [List.getElem_toArray, List.getElem_cons_zero, List.getElem_cons_succ, Act.put, List.setIfInBounds_toArray, List.set_cons_zero, List.set_cons_succ]
      refine wpAnyH_take (i := 7) (v := ?_) rfl (by kernel_rfl) (by kernel_rfl) (by kernel_rfl) (fun _ _ _ h => h) (Or.inl ⟨by rfl, ?_⟩) hS0 ?_
      rotate_left
      · intro w1 _; go_simp; with_reducible rfl
      try simp only [List.getElem_toArray, List.getElem_cons_zero, List.getElem_cons_succ, Act.put, List.setIfInBounds_toArray, List.set_cons_zero, List.set_cons_succ]
      refine wpAnyH_take (i := 8) (v := .int .u64 (d.ratio : Int)) rfl (by kernel_rfl) (by kernel_rfl) (by kernel_rfl) (fun _ _ _ h => h) (Or.inl ⟨by rfl, fun w1 hS1 => by subst hS1; go_simp⟩) hS0 ?_
      try simp only [List.getElem_toArray, List.getElem_cons_zero, List.getElem_cons_succ, Act.put, List.setIfInBounds_toArray, List.set_cons_zero, List.set_cons_succ]
      refine wpAnyH_ready (rs := [4]) (by kernel_rfl) (by simp) ?_
      refine AllReadyH.cons rfl (fun K hK => ?_) AllReadyH.nil
      go_simp
      refine (hpk _).mono ?_
      rintro e w5 ⟨rfl, rfl⟩
      dsimp only
      refine hK.out _ _ (rfl) (fun hS1 => ?_); clear hK K
      refine wpAnyH_take (i := 5) (v := .string (S ++ ByteArray.mk #[32] ++ Z1)) rfl (by kernel_rfl) (by kernel_rfl) (by kernel_rfl) (fun _ _ _ h => h) (Or.inl ⟨by rfl, fun w1 hS1 => by go_simp; first | done | omega | (simp only [ByteArray.size_append]; omega)⟩) hS1 ?_
      try simp only [List.getElem_toArray, List.getElem_cons_zero, List.getElem_cons_succ, Act.put, List.setIfInBounds_toArray, List.set_cons_zero, List.set_cons_succ]
      refine wpAnyH_take (i := 6) (v := .string (S ++ ByteArray.mk #[32] ++ Z1 ++ ByteArray.mk #[32])) rfl (by kernel_rfl) (by kernel_rfl) (by kernel_rfl) (fun _ _ _ h => h) (Or.inl ⟨by rfl, fun w1 hS1 => by go_simp; first | done | omega | (simp only [ByteArray.size_append]; omega)⟩) hS1 ?_
      try simp only [List.getElem_toArray, List.getElem_cons_zero, List.getElem_cons_succ, Act.put, List.setIfInBounds_toArray, List.set_cons_zero, List.set_cons_succ]
      refine wpAnyH_ready (rs := [9]) (by kernel_rfl) (by simp) ?_
      refine AllReadyH.cons rfl (fun K hK => ?_) AllReadyH.nil
      go_simp
      refine (hpr _).mono ?_
      rintro e w5 ⟨rfl, rfl⟩
      dsimp only
      refine hK.out _ _ (rfl) (fun hS2 => ?_); clear hK K
      refine wpAnyH_take (i := 10) (v := .string (S ++ ByteArray.mk #[32] ++ Z1 ++ ByteArray.mk #[32] ++ Z2)) rfl (by kernel_rfl) (by kernel_rfl) (by kernel_rfl) (fun _ _ _ h => h) (Or.inl ⟨by rfl, fun w1 hS1 => by go_simp; first | done | omega | (simp only [ByteArray.size_append]; omega)⟩) hS2 ?_
      try simp only [List.getElem_toArray, List.getElem_cons_zero, List.getElem_cons_succ, Act.put, List.setIfInBounds_toArray, List.set_cons_zero, List.set_cons_succ]
      refine wpAnyH_take (i := 11) (v := .string (S ++ ByteArray.mk #[32] ++ Z1 ++ ByteArray.mk #[32] ++ Z2 ++ ByteArray.mk #[10])) rfl (by kernel_rfl) (by kernel_rfl) (by kernel_rfl) (fun _ _ _ h => h) (Or.inl ⟨by rfl, fun w1 hS1 => by go_simp; first | done | omega | (simp only [ByteArray.size_append]; omega)⟩) hS2 ?_
      try simp only [List.getElem_toArray, List.getElem_cons_zero, List.getElem_cons_succ, Act.put, List.setIfInBounds_toArray, List.set_cons_zero, List.set_cons_succ]
      refine wpAnyH_take (i := 12) (v := ?_) rfl (by kernel_rfl) (by kernel_rfl) (by kernel_rfl) (fun _ _ _ h => h) (Or.inl ⟨by rfl, ?_⟩) hS2 ?_
      rotate_left
      · intro w1 _; go_simp; with_reducible rfl
      try simp only [List.getElem_toArray, List.getElem_cons_zero, List.getElem_cons_succ, Act.put, List.setIfInBounds_toArray, List.set_cons_zero, List.set_cons_succ]
      refine wpAnyH_done (by kernel_rfl) ?_ _
      have HD4 := Lib.hid HD3.out.drew
      have HB4 : Hid (Blk W3.drew w.heap.size 27 (d.cells (.slice pp d.progs.length cp) (.slice ps d.starts.length cs))) := Lib.hid HB3.out
      have hb4 : Below w.heap.size w W3.drew := hb3.drew
      obtain ⟨H, hH⟩ : ∃ H : ByteArray, H = S ++ ByteArray.mk #[32] ++ Z1 ++ ByteArray.mk #[32] ++ Z2 ++ ByteArray.mk #[10] := ⟨_, rfl⟩
      rw [← hH] at HHL HHS ⊢
      have HI : Hid (H.data.toList ++ (d.progs.drop 0).flatMap progT ++ d.starts.flatMap startT = T) := Lib.hid (by rw [HHL.out]; simpa using HT0.out)
      have hhs := HHS.out
      clear hH HHL HHS hpk hpr hc5 hc6 hq1 hq2 hll HT0 HN3 hb3 HD3 HB3
      go_wp2
      go_loopw [4, 6] (fun s t wr => ∃ (k : Nat) (S : ByteArray), k ≤ d.progs.length ∧ t = .int .i64 k ∧ s = .string S ∧ Hid (S.data.toList ++ (d.progs.drop k).flatMap progT ++ d.starts.flatMap startT = T) ∧ S.size ≤ 145 + 28677 * k ∧ Hid (DV wr G (.slice pp d.progs.length cp) (.slice ps d.starts.length cs) d) ∧ Hid (Blk wr w.heap.size 27 (d.cells (.slice pp d.progs.length cp) (.slice ps d.starts.length cs))) ∧ Below w.heap.size w wr) (fun _ t _ => d.progs.length - (intOf t).toNat)
      case atStart => exact ⟨0, _, by omega, rfl, rfl, HI, by omega, HD4, HB4, hb4⟩
      case round =>
        clear HD4 HB4 hb4 HI hhs
        obtain ⟨k, S, hk, rfl, rfl, hl, hll, hD, hB, hb⟩ := hrel
        obtain ⟨_, _, _, _, _, _, _, q7, q8⟩ := duty_at hB.out
        by_cases hlt : k < d.progs.length
        · obtain ⟨p, hp⟩ : ∃ p, d.progs[k]? = some p := ⟨_, List.getElem?_eq_getElem hlt⟩
          have hpm := List.mem_of_getElem? hp
          have hpl := HPK.out p hpm
          have hpo := HOKP.out p hpm
          obtain ⟨b, off, u, cu, rfl, _, _, hcell, hrp⟩ := hD.out.progs.at hp
          have hl2 := hl.out
          rw [drop_at9 hp, List.flatMap_cons, progT] at hl2
          have htx := fun W (hW : RP W G (.slice u p.length cu) p) => RText_any u cu p.length p rfl (by omega) hpo G W hW
          obtain ⟨Z, hZ⟩ : ∃ Z : ByteArray, Z = ⟨(textP p).toArray⟩ := ⟨_, rfl⟩
          have hZl : Z.data.toList = textP p := by rw [hZ]
          have hZs : Z.size ≤ 28672 := by
            have := textP_len p hpo
            rw [hZ, size_mk]
            omega
          unfold sV at htx
          rw [← hZ] at htx
          have HLL : Hid ((S ++ ByteArray.mk #[112, 114, 111, 103, 10] ++ Z).data.toList ++ (d.progs.drop (k + 1)).flatMap progT ++ d.starts.flatMap startT = T) := Lib.hid (by
            rw [← hl2, app_data, app_data, hZl]
            simp [progW])
          have HSZ : Hid ((S ++ ByteArray.mk #[112, 114, 111, 103, 10] ++ Z).size ≤ 145 + 28677 * (k + 1)) := Lib.hid (by
            simp only [ByteArray.size_append]
            have : (ByteArray.mk #[112, 114, 111, 103, 10]).size = 5 := rfl
            omega)
          have HTX := Lib.hid htx
          have HRP := Lib.hid hrp
          have hsm : S.size + 28677 ≤ 1900000 := by omega
          clear hp hpm hl hl2 hZ hZl htx hrp hpo hll
          go_wp2_with (go_at_call 29; (with_reducible refine (HTX.out _ HRP.out).mono ?_); rintro e w5 ⟨rfl, hb5⟩)
          go_roundw
          case rel => exact ⟨k + 1, _, by omega, by go_num, rfl, HLL, HSZ.out, Lib.hid (hD.out.later hb5), Lib.hid (hB.out.below hb5 hB.out.lt), below_pre hb hb5⟩
          case measure => simp [intOf]; omega
        · obtain rfl : k = d.progs.length := by omega
          have hl2 := hl.out
          rw [List.drop_of_length_le (Nat.le_refl _), List.flatMap_nil, List.append_nil] at hl2
          have HI : Hid (S.data.toList ++ (d.starts.drop 0).flatMap startT = T) := Lib.hid (by simpa using hl2)
          have hll2 : S.size ≤ 1835473 := by omega
          clear hl hl2 hlt hk hll
          go_wp2
          go_loopw [4, 7] (fun s t wr => ∃ (k : Nat) (S : ByteArray), k ≤ d.starts.length ∧ t = .int .i64 k ∧ s = .string S ∧ Hid (S.data.toList ++ (d.starts.drop k).flatMap startT = T) ∧ S.size ≤ 1835473 + 65 * k ∧ Hid (DV wr G (.slice pp d.progs.length cp) (.slice ps d.starts.length cs) d) ∧ Hid (Blk wr w.heap.size 27 (d.cells (.slice pp d.progs.length cp) (.slice ps d.starts.length cs))) ∧ Below w.heap.size w wr) (fun _ t _ => d.starts.length - (intOf t).toNat)
          case atStart => exact ⟨0, _, by omega, rfl, rfl, HI, by omega, hD, hB, hb⟩
          case round =>
            clear HI hD hB hb hll2 q7 q8
            obtain ⟨k, S, hk, rfl, rfl, hl, hll, hD, hB, hb⟩ := hrel
            obtain ⟨_, _, _, _, _, _, _, q7, q8⟩ := duty_at hB.out
            by_cases hlt : k < d.starts.length
            · obtain ⟨s, hs⟩ : ∃ s, d.starts[k]? = some s := ⟨_, List.getElem?_eq_getElem hlt⟩
              have hso := HOKS.out s (List.mem_of_getElem? hs)
              obtain ⟨b, off, rfl, _, _, _, e0, e1, e2⟩ := hD.out.starts.at hs
              have hl2 := hl.out
              rw [drop_at9 hs, List.flatMap_cons] at hl2
              have hp1 := fun W => RPrint_any (wrapN s.prog) (wrapN_lt _ hso.prog) W
              have hp2 := fun W => RPrint_any (wrapN s.grade) (wrapN_lt _ hso.grade) W
              have hp3 := fun W => RHex_any s.mask hso.mask W
              have g1 := Lib.hid (wrapN_eq s.prog hso.prog)
              have g2 := Lib.hid (wrapN_eq s.grade hso.grade)
              obtain ⟨Z1, hZ1⟩ : ∃ Z : ByteArray, Z = ⟨(Lib.decDigits (wrapN s.prog)).toArray⟩ := ⟨_, rfl⟩
              obtain ⟨Z2, hZ2⟩ : ∃ Z : ByteArray, Z = ⟨(Lib.decDigits (wrapN s.grade)).toArray⟩ := ⟨_, rfl⟩
              obtain ⟨Z3, hZ3⟩ : ∃ Z : ByteArray, Z = ⟨(hexN 16 s.mask).toArray⟩ := ⟨_, rfl⟩
              have hZl1 : Z1.data.toList = Lib.decDigits (wrapN s.prog) := by rw [hZ1]
              have hZl2 : Z2.data.toList = Lib.decDigits (wrapN s.grade) := by rw [hZ2]
              have hZl3 : Z3.data.toList = hexN 16 s.mask := by rw [hZ3]
              rw [← hZ1] at hp1
              rw [← hZ2] at hp2
              rw [← hZ3] at hp3
              have hq1 : Z1.size ≤ 20 := by rw [hZ1, size_mk]; exact dec20 _ (wrapN_lt _ hso.prog)
              have hq2 : Z2.size ≤ 20 := by rw [hZ2, size_mk]; exact dec20 _ (wrapN_lt _ hso.grade)
              have hq3 : Z3.size ≤ 16 := by rw [hZ3, size_mk, hexN_len]; decide
              have HLL : Hid ((S ++ ByteArray.mk #[115, 116, 97, 114, 116, 32] ++ Z1 ++ ByteArray.mk #[32] ++ Z2 ++ ByteArray.mk #[32] ++ Z3 ++ ByteArray.mk #[10]).data.toList ++ (d.starts.drop (k + 1)).flatMap startT = T) := Lib.hid (by
                rw [← hl2]
                simp only [app_data, hZl1, hZl2, hZl3]
                simp [startT, startL, startsW, startW, joinL, joinT])
              have HSZ : Hid ((S ++ ByteArray.mk #[115, 116, 97, 114, 116, 32] ++ Z1 ++ ByteArray.mk #[32] ++ Z2 ++ ByteArray.mk #[32] ++ Z3 ++ ByteArray.mk #[10]).size ≤ 1835473 + 65 * (k + 1)) := Lib.hid (by
                simp only [ByteArray.size_append]
                have : (ByteArray.mk #[115, 116, 97, 114, 116, 32]).size = 6 := rfl
                have : (ByteArray.mk #[32]).size = 1 := rfl
                have : (ByteArray.mk #[10]).size = 1 := rfl
                omega)
              have ha1 := below_alloc1 wr (.cells #[.int .i64 s.prog, .int .i64 s.grade, .int .u64 (s.mask : Int)] 58)
              have hbd : Below w.heap.size w (wr.alloc (.cells #[.int .i64 s.prog, .int .i64 s.grade, .int .u64 (s.mask : Int)] 58)).drew := (below_pre hb ha1).drew
              have HD6 := Lib.hid (hD.out.later ha1).drew
              have HB6 : Hid (Blk (wr.alloc (.cells #[.int .i64 s.prog, .int .i64 s.grade, .int .u64 (s.mask : Int)] 58)).drew w.heap.size 27 (d.cells (.slice pp d.progs.length cp) (.slice (some ⟨b, off, none⟩) d.starts.length cs))) := Lib.hid (hB.out.below ha1.drew hB.out.lt)
              have HS6 : Hid (Blk (wr.alloc (.cells #[.int .i64 s.prog, .int .i64 s.grade, .int .u64 (s.mask : Int)] 58)).drew wr.heap.size 58 #[.int .i64 s.prog, .int .i64 s.grade, .int .u64 (s.mask : Int)]) := Lib.hid (Blk.new wr _ _)
              clear hs hl hl2 hso hZ1 hZ2 hZ3 hZl1 hZl2 hZl3 ha1
              go_wp2_with fail
              obtain ⟨W6, hW6⟩ : ∃ W6, W6 = wr.alloc (.cells #[.int .i64 s.prog, .int .i64 s.grade, .int .u64 (s.mask : Int)] 58) := ⟨_, rfl⟩
              rw [← hW6] at hbd HD6 HB6 HS6 ⊢
              obtain ⟨c0, c1, c2⟩ := start_at HS6.out
              clear hW6 q7 q8 e0 e1 e2
              refine wp_region_held_drew (S := fun w' => w' = W6.drew) (by kernel_rfl) rfl (fun hS0 => ?_)
              refine wpAnyH_take (i := 0) (v := ?_) rfl (by kernel_rfl) (by kernel_rfl) (by kernel_rfl) (fun _ _ _ h => h) (Or.inl ⟨by rfl, ?_⟩) hS0 ?_
              rotate_left
              · intro w1 _; go_simp; with_reducible rfl
              try simp only [List.getElem_toArray, List.getElem_cons_zero, Act.put, List.setIfInBounds_toArray, List.set_cons_zero, List.set_cons_succ]
              refine wpAnyH_take (i := 1) (v := .string (S ++ ByteArray.mk #[115, 116, 97, 114, 116, 32])) rfl (by kernel_rfl) (by kernel_rfl) (by kernel_rfl) (fun _ _ _ h => h) (Or.inl ⟨by rfl, fun w1 hS1 => by go_simp; first | done | omega | (simp only [ByteArray.size_append]; omega)⟩) hS0 ?_
              try simp only [List.getElem_toArray, List.getElem_cons_zero, List.getElem_cons_succ, Act.put, List.setIfInBounds_toArray, List.set_cons_zero, List.set_cons_succ]
              refine wpAnyH_take (i := 2) (v := ?_) rfl (by kernel_rfl) (by kernel_rfl) (by kernel_rfl) (fun _ _ _ h => h) (Or.inl ⟨by rfl, ?_⟩) hS0 ?_
              rotate_left
              · intro w1 _; go_simp; with_reducible rfl
              try simp only [List.getElem_toArray, List.getElem_cons_zero, List.getElem_cons_succ, Act.put, List.setIfInBounds_toArray, List.set_cons_zero, List.set_cons_succ]
              refine wpAnyH_take (i := 3) (v := .int .i64 s.prog) rfl (by kernel_rfl) (by kernel_rfl) (by kernel_rfl) (fun _ _ _ h => h) (Or.inl ⟨by rfl, fun w1 hS1 => by subst hS1; go_simp⟩) hS0 ?_
              try simp only [List.getElem_toArray, List.getElem_cons_zero, List.getElem_cons_succ, Act.put, List.setIfInBounds_toArray, List.set_cons_zero, List.set_cons_succ]
              refine wpAnyH_take (i := 4) (v := .int .u64 (wrapN s.prog : Nat)) rfl (by kernel_rfl) (by kernel_rfl) (by kernel_rfl) (fun _ _ _ h => h) (Or.inl ⟨by rfl, fun w1 hS1 => by go_simp; rw [g1.out]⟩) hS0 ?_
              try simp only [List.getElem_toArray, List.getElem_cons_zero, List.getElem_cons_succ, Act.put, List.setIfInBounds_toArray, List.set_cons_zero, List.set_cons_succ]
              refine wpAnyH_take (i := 8) (v := ?_) rfl (by kernel_rfl) (by kernel_rfl) (by kernel_rfl) (fun _ _ _ h => h) (Or.inl ⟨by rfl, ?_⟩) hS0 ?_
              rotate_left
              · intro w1 _; go_simp; with_reducible rfl
              try simp only [List.getElem_toArray, List.getElem_cons_zero, List.getElem_cons_succ, Act.put, List.setIfInBounds_toArray, List.set_cons_zero, List.set_cons_succ]
              refine wpAnyH_take (i := 9) (v := .int .i64 s.grade) rfl (by kernel_rfl) (by kernel_rfl) (by kernel_rfl) (fun _ _ _ h => h) (Or.inl ⟨by rfl, fun w1 hS1 => by subst hS1; go_simp⟩) hS0 ?_
              try simp only [List.getElem_toArray, List.getElem_cons_zero, List.getElem_cons_succ, Act.put, List.setIfInBounds_toArray, List.set_cons_zero, List.set_cons_succ]
              refine wpAnyH_take (i := 10) (v := .int .u64 (wrapN s.grade : Nat)) rfl (by kernel_rfl) (by kernel_rfl) (by kernel_rfl) (fun _ _ _ h => h) (Or.inl ⟨by rfl, fun w1 hS1 => by go_simp; rw [g2.out]⟩) hS0 ?_
              try simp only [List.getElem_toArray, List.getElem_cons_zero, List.getElem_cons_succ, Act.put, List.setIfInBounds_toArray, List.set_cons_zero, List.set_cons_succ]
              refine wpAnyH_take (i := 14) (v := ?_) rfl (by kernel_rfl) (by kernel_rfl) (by kernel_rfl) (fun _ _ _ h => h) (Or.inl ⟨by rfl, ?_⟩) hS0 ?_
              rotate_left
              · intro w1 _; go_simp; with_reducible rfl
              try simp only [List.getElem_toArray, List.getElem_cons_zero, List.getElem_cons_succ, Act.put, List.setIfInBounds_toArray, List.set_cons_zero, List.set_cons_succ]
              refine wpAnyH_take (i := 15) (v := .int .u64 (s.mask : Int)) rfl (by kernel_rfl) (by kernel_rfl) (by kernel_rfl) (fun _ _ _ h => h) (Or.inl ⟨by rfl, fun w1 hS1 => by subst hS1; go_simp⟩) hS0 ?_
              try simp only [List.getElem_toArray, List.getElem_cons_zero, List.getElem_cons_succ, Act.put, List.setIfInBounds_toArray, List.set_cons_zero, List.set_cons_succ]
              refine wpAnyH_ready (rs := [5]) (by kernel_rfl) (by simp) ?_
              refine AllReadyH.cons rfl (fun K hK => ?_) AllReadyH.nil
              go_simp
              refine (hp1 _).mono ?_
              rintro e w5 ⟨rfl, rfl⟩
              dsimp only
              refine hK.out _ _ (rfl) (fun hS1 => ?_); clear hK K
              refine wpAnyH_take (i := 6) (v := .string (S ++ ByteArray.mk #[115, 116, 97, 114, 116, 32] ++ Z1)) rfl (by kernel_rfl) (by kernel_rfl) (by kernel_rfl) (fun _ _ _ h => h) (Or.inl ⟨by rfl, fun w1 hS1 => by go_simp; first | done | omega | (simp only [ByteArray.size_append]; omega)⟩) hS1 ?_
              try simp only [List.getElem_toArray, List.getElem_cons_zero, List.getElem_cons_succ, Act.put, List.setIfInBounds_toArray, List.set_cons_zero, List.set_cons_succ]
              refine wpAnyH_take (i := 7) (v := .string (S ++ ByteArray.mk #[115, 116, 97, 114, 116, 32] ++ Z1 ++ ByteArray.mk #[32])) rfl (by kernel_rfl) (by kernel_rfl) (by kernel_rfl) (fun _ _ _ h => h) (Or.inl ⟨by rfl, fun w1 hS1 => by go_simp; first | done | omega | (simp only [ByteArray.size_append]; omega)⟩) hS1 ?_
              try simp only [List.getElem_toArray, List.getElem_cons_zero, List.getElem_cons_succ, Act.put, List.setIfInBounds_toArray, List.set_cons_zero, List.set_cons_succ]
              refine wpAnyH_ready (rs := [11]) (by kernel_rfl) (by simp) ?_
              refine AllReadyH.cons rfl (fun K hK => ?_) AllReadyH.nil
              go_simp
              refine (hp2 _).mono ?_
              rintro e w5 ⟨rfl, rfl⟩
              dsimp only
              refine hK.out _ _ (rfl) (fun hS2 => ?_); clear hK K
              refine wpAnyH_take (i := 12) (v := .string (S ++ ByteArray.mk #[115, 116, 97, 114, 116, 32] ++ Z1 ++ ByteArray.mk #[32] ++ Z2)) rfl (by kernel_rfl) (by kernel_rfl) (by kernel_rfl) (fun _ _ _ h => h) (Or.inl ⟨by rfl, fun w1 hS1 => by go_simp; first | done | omega | (simp only [ByteArray.size_append]; omega)⟩) hS2 ?_
              try simp only [List.getElem_toArray, List.getElem_cons_zero, List.getElem_cons_succ, Act.put, List.setIfInBounds_toArray, List.set_cons_zero, List.set_cons_succ]
              refine wpAnyH_take (i := 13) (v := .string (S ++ ByteArray.mk #[115, 116, 97, 114, 116, 32] ++ Z1 ++ ByteArray.mk #[32] ++ Z2 ++ ByteArray.mk #[32])) rfl (by kernel_rfl) (by kernel_rfl) (by kernel_rfl) (fun _ _ _ h => h) (Or.inl ⟨by rfl, fun w1 hS1 => by go_simp; first | done | omega | (simp only [ByteArray.size_append]; omega)⟩) hS2 ?_
              try simp only [List.getElem_toArray, List.getElem_cons_zero, List.getElem_cons_succ, Act.put, List.setIfInBounds_toArray, List.set_cons_zero, List.set_cons_succ]
              refine wpAnyH_ready (rs := [16]) (by kernel_rfl) (by simp) ?_
              refine AllReadyH.cons rfl (fun K hK => ?_) AllReadyH.nil
              go_simp
              refine (hp3 _).mono ?_
              rintro e w5 ⟨rfl, rfl⟩
              dsimp only
              refine hK.out _ _ (rfl) (fun hS3 => ?_); clear hK K
              refine wpAnyH_take (i := 17) (v := .string (S ++ ByteArray.mk #[115, 116, 97, 114, 116, 32] ++ Z1 ++ ByteArray.mk #[32] ++ Z2 ++ ByteArray.mk #[32] ++ Z3)) rfl (by kernel_rfl) (by kernel_rfl) (by kernel_rfl) (fun _ _ _ h => h) (Or.inl ⟨by rfl, fun w1 hS1 => by go_simp; first | done | omega | (simp only [ByteArray.size_append]; omega)⟩) hS3 ?_
              try simp only [List.getElem_toArray, List.getElem_cons_zero, List.getElem_cons_succ, Act.put, List.setIfInBounds_toArray, List.set_cons_zero, List.set_cons_succ]
              refine wpAnyH_take (i := 18) (v := .string (S ++ ByteArray.mk #[115, 116, 97, 114, 116, 32] ++ Z1 ++ ByteArray.mk #[32] ++ Z2 ++ ByteArray.mk #[32] ++ Z3 ++ ByteArray.mk #[10])) rfl (by kernel_rfl) (by kernel_rfl) (by kernel_rfl) (fun _ _ _ h => h) (Or.inl ⟨by rfl, fun w1 hS1 => by go_simp; first | done | omega | (simp only [ByteArray.size_append]; omega)⟩) hS3 ?_
              try simp only [List.getElem_toArray, List.getElem_cons_zero, List.getElem_cons_succ, Act.put, List.setIfInBounds_toArray, List.set_cons_zero, List.set_cons_succ]
              refine wpAnyH_take (i := 19) (v := ?_) rfl (by kernel_rfl) (by kernel_rfl) (by kernel_rfl) (fun _ _ _ h => h) (Or.inl ⟨by rfl, ?_⟩) hS3 ?_
              rotate_left
              · intro w1 _; go_simp; with_reducible rfl
              try simp only [List.getElem_toArray, List.getElem_cons_zero, List.getElem_cons_succ, Act.put, List.setIfInBounds_toArray, List.set_cons_zero, List.set_cons_succ]
              refine wpAnyH_done (by kernel_rfl) ?_ _
              go_wp2
              go_roundw
              case rel => exact ⟨k + 1, _, by omega, by go_num, rfl, HLL, HSZ.out, HD6, HB6, hbd⟩
              case measure => simp [intOf]; omega
            · obtain rfl : k = d.starts.length := by omega
              have hl2 := hl.out
              rw [List.drop_of_length_le (Nat.le_refl _), List.flatMap_nil, List.append_nil] at hl2
              have HL9 := Lib.hid hl2
              clear hl hl2
              go_wp2
              go_ret
              exact ⟨by rw [str_eq9 HL9.out]; rfl, hb⟩
theorem RTextY_any (d : Dut) (hd : d.ok) (vp vs : Value) (G : Nat → Prop) (w : World) (h : DV w G vp vs d) :
    Calls Tryz.prog 9 #[.agg (d.cells vp vs)] w fun e w' => e = .returned (sV (textN9 d)) ∧ Below w.heap.size w w' := by
  obtain ⟨pp, cp, rfl, _, _⟩ := h.progs.shape
  obtain ⟨ps, cs, rfl, _, _⟩ := h.starts.shape
  by_cases h0 : checkY d = 0
  · unfold textN9
    rw [if_pos h0]
    exact RTextY_good d hd h0 pp ps cp cs G w h
  · unfold textN9
    rw [if_neg h0]
    have hchk := fun W (hW : DV W G (.slice pp d.progs.length cp) (.slice ps d.starts.length cs) d) => RCheckY_any d hd _ _ G W hW
    have hne : ((checkY d : Int) != 0) = true := by simp; omega
    have hb0 := below_alloc1 w (.cells (d.cells (.slice pp d.progs.length cp) (.slice ps d.starts.length cs)) 27)
    have hB0 := Blk.new w 27 (d.cells (.slice pp d.progs.length cp) (.slice ps d.starts.length cs))
    have hD0 := Lib.hid (h.later hb0)
    clear h h0 hd
    go_enter Tryz.func9, Tryz.ntmps9
    go_wp2_with (first
      | (refine wpList_box_agg rfl 27 _ rfl (d.cells (.slice pp d.progs.length cp) (.slice ps d.starts.length cs)) rfl ?_)
      | (refine wpList_load_row rfl 27 _ rfl w.heap.size rfl 27 _ (0, 0) _ hB0 Tryz.underlying27 rfl (sizeY _ _ _) ?_)
      | (go_at_call 11; (with_reducible refine (hchk _ hD0.out).mono ?_); clear hchk; rintro e w1 ⟨rfl, hb1⟩))
    go_ret
    exact ⟨rfl, below_pre hb0 hb1⟩
end Go.Proofs.YtbdimfcdpkldpaaGreatDoor
