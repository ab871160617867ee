/- The contract of duty's Text. -/
import Derived.Test.YtbdimfcdpkldpaaGreatDoorZ4
import Derived.Test.YtbdimfcdpkldpaaGreatDoorZ7
import Derived.Test.YtbdimfcdpkldpaaGreatDoorLYM
namespace Go.Proofs.YtbdimfcdpkldpaaGreatDoor
open Go.RowKit

theorem DV.sb {w w' : World} {G : Nat → Prop} {vp vs : Value} {d : Dut} {B b : Nat} (h : DV w G vp vs d) (hf : SbF B b w w') (hB : B ≤ b) (hG : ∀ k, G k → k < B) : DV w' G vp vs d :=
  DV.foot h hf (fun k hk hs => by have := hG k hk; rcases hs with e | ⟨e, _⟩ <;> omega)
theorem sb_le {w : World} {B b : Nat} {l : List UInt8} (h : SbAt w B b l) : b ≤ w.heap.size := by
  obtain ⟨_, hq⟩ := h.shape.2
  exact Nat.le_of_lt hq.lt
theorem start_ne {np : Nat} {cpus : Int} {s : St} (_h : startE np cpus s = 0) : True := trivial
theorem progT_len {p : List Deed} (h : ∀ x ∈ p, x.ok) (hl : p.length ≤ 256) : (progT p).length ≤ 28677 := by
  have k1 := textP_len p h
  simp only [progT, progW, List.length_append, List.length_cons, List.length_nil]
  omega
theorem startT_len {s : St} (h : s.ok) : (startT s).length ≤ 65 := by
  have := total_start h
  simp only [startT, List.length_append, List.length_cons, List.length_nil]
  omega
/-- Seven numbers in a block of their own, as a slice that reads. -/
theorem blk_rv {w : World} {g n : Nat} {t : TypeId} {cs : Array Value} {xs : List Value} (h : Blk w g t cs) (e : cs.toList = xs) (hn : xs.length = n) (hm : n ≤ 100) : RV w (fun k => k = g) (.slice (some ⟨g, 0, none⟩) n n) n 1 xs := by
  refine ⟨_, _, rfl, Nat.le_refl _, by unfold maxLen; omega, (fun e => by cases e), by omega, .inr ⟨g, 0, rfl, h.lt, rfl, fun j u hu => ?_⟩⟩
  rw [← e] at hu
  rw [Nat.zero_add, h.cell j]
  simpa using hu

set_option maxRecDepth 100000 in
set_option maxHeartbeats 8000000 in
theorem TextY_good (d : Dut) (hd : d.ok) (h0 : checkY d = 0) (pp ps : Option Addr) (cp cs : Nat) (G : Nat → Prop) (w : World) (hG : ∀ k, G k → k < w.heap.size) (h : DV w G (.slice pp d.progs.length cp) (.slice ps d.starts.length cs) d) (hT : Tabs w) :
    Calls Tryz.prog 8 #[.agg (d.cells (.slice pp d.progs.length cp) (.slice ps d.starts.length cs))] w fun e w' => e = .returned (sV (textY d)) ∧ Below w.heap.size w w' := by
  obtain ⟨hr, hp64, hs64, hpk, hsk⟩ := checkY_zero h0
  have hchk := fun W (hW : DV W G (.slice pp d.progs.length cp) (.slice ps d.starts.length cs) d) => CheckY_any d hd _ _ G W hW
  simp only [h0] at hchk
  have hhead := fun W => HeadOf_any d hd pp ps d.progs.length cp d.starts.length cs W
  have hline1 := fun g W (hW : RV W (fun k => k = g) (.slice (some ⟨g, 0, none⟩) 7 7) 7 1 ((numsY d).map uV)) (hg : g < W.heap.size) (hTW : Tabs W) => LineY_at ⟨#[100, 117, 116, 121]⟩ (by decide) 5 5 7 rfl (by decide) (by decide) (numsY d) rfl (numsY_lt hd) _ (fun k => k = g) W (fun k hk => by omega) hW hTW
  rw [show (ByteArray.mk #[100, 117, 116, 121]).data.toList = dutyW from rfl, line_headL] at hline1
  have hline2 := fun W (hTW : Tabs W) => LineY_at ⟨#[112, 114, 111, 103]⟩ (by decide) 0 0 0 rfl (by decide) (by decide) [] rfl (fun x hx => nomatch hx) (.slice none 0 0) (fun _ => False) W (fun k hk => hk.elim) (RV.nil _ _ _) hTW
  rw [show (ByteArray.mk #[112, 114, 111, 103]).data.toList ++ lnGo 0 0 [] ++ [10] = progW ++ [10] from rfl] at hline2
  have hline3 := fun (s : St) (hs : s.ok) g W (hW : RV W (fun k => k = g) (.slice (some ⟨g, 0, none⟩) 3 3) 3 1 ([wrapN s.prog, wrapN s.grade, s.mask].map uV)) (hg : g < W.heap.size) (hTW : Tabs W) => LineY_at ⟨#[115, 116, 97, 114, 116]⟩ (by decide) 2 2 3 rfl (by decide) (by decide) [wrapN s.prog, wrapN s.grade, s.mask] rfl (fun x hx => by
    have h1 := wrapN_lt s.prog hs.prog
    have h2 := wrapN_lt s.grade hs.grade
    have h3 := hs.mask
    simp at hx
    rcases hx with rfl | rfl | rfl <;> assumption) _ (fun k => k = g) W (fun k hk => by omega) hW hTW
  rw [show (ByteArray.mk #[115, 116, 97, 114, 116]).data.toList = startW from rfl] at hline3
  simp only [line_startL] at hline3
  obtain ⟨Z1, hZ1⟩ : ∃ Z : ByteArray, Z = ⟨(headL d ++ [10]).toArray⟩ := ⟨_, rfl⟩
  have hZl1 : Z1.data.toList = headL d ++ [10] := by rw [hZ1]
  have hZs1 : Z1.size ≤ 145 := by
    have := total_head hd
    rw [hZ1, size_mk, List.length_append]
    simp
    omega
  obtain ⟨Z2, hZ2⟩ : ∃ Z : ByteArray, Z = ⟨(progW ++ [10]).toArray⟩ := ⟨_, rfl⟩
  have hZl2 : Z2.data.toList = progW ++ [10] := by rw [hZ2]
  have hZs2 : Z2.size ≤ 5 := by rw [hZ2]; decide
  unfold sV at hline1 hline2
  rw [← hZ1] at hline1
  rw [← hZ2] at hline2
  obtain ⟨T, hT0⟩ : ∃ T, textY d = T := ⟨_, rfl⟩
  rw [hT0]
  rw [textY_split, show headL d ++ 10 :: (d.progs.flatMap progT ++ d.starts.flatMap startT) = (headL d ++ [10]) ++ d.progs.flatMap progT ++ d.starts.flatMap startT by simp, ← hZl1] at hT0
  have HT0 : Hid (Z1.data.toList ++ (d.progs.drop 0).flatMap progT ++ d.starts.flatMap startT = T) := Lib.hid (by simpa using hT0)
  have HZL2 := Lib.hid hZl2
  have HOKP := Lib.hid hd.progs
  have HOKS := Lib.hid hd.starts
  have HPK : Hid (∀ p ∈ d.progs, p.length ≤ 256) := Lib.hid fun p hp => (checkN_zero.1 (hpk p hp)).1
  have HTB := Lib.hid hT
  have hb0 := below_alloc1 w (.cells (d.cells (.slice pp d.progs.length cp) (.slice ps d.starts.length cs)) 27)
  have hB0 := Blk.new w 27 (d.cells (.slice pp d.progs.length cp) (.slice ps d.starts.length cs))
  have hD0 := Lib.hid (h.later hb0)
  have HL1 := Lib.hid hline1
  have HL2 := Lib.hid hline2
  have HL3 := Lib.hid hline3
  clear hZ1 hZl1 hZ2 hZl2 hT0 hd h0 h hT hr hpk hsk hline1 hline2 hline3
  go_enter Tryz.func8, Tryz.ntmps8
  go_wp2_with (first
    | (refine wpList_box_agg rfl 27 _ rfl (d.cells (.slice pp d.progs.length cp) (.slice ps d.starts.length cs)) rfl ?_)
    | (refine wpList_alloc_agg rfl 48 rfl _ zeroS ?_)
    | (refine wpList_load_row rfl 27 _ rfl w.heap.size rfl 27 _ (0, 0) _ hB0 Tryz.underlying27 rfl (sizeY _ _ _) ?_)
    | (refine wpList_load_row rfl 27 _ rfl w.heap.size rfl 27 _ (0, 0) _ hB2 Tryz.underlying27 rfl (sizeY _ _ _) ?_)
    | (go_at_call 19; (with_reducible refine (hchk _ hD0.out).mono ?_); clear hchk; rintro e w1 ⟨rfl, hb1⟩; have hD1 := hD0.out.later hb1; have hB1 := hB0.below hb1 hB0.lt; have hbw1 := below_pre hb0 hb1; have hlt1 : w.heap.size < w1.heap.size := hB1.lt; have hb2 := below_alloc1 w1 (.cells #[.pointer none, .slice none 0 0] 48); have hB2 := hB1.below hb2 hB1.lt; have hD2 := hD1.later hb2; have hbw2 := below_pre hbw1 hb2; have hsb2 := SbAt.new w1)
    | (go_at_call 22; (with_reducible refine (hhead _).mono ?_); clear hhead; rintro e w3 ⟨⟨g, rfl, hg3, _⟩, hb3⟩; have hB3 := hB2.below hb3 hB2.lt; have hD3 := hD2.later hb3; have hbw3 := below_pre hbw2 hb3; have hsb3 := hsb2.later hb3; have hrv3 := blk_rv (n := 7) hg3 (numsA_list d) rfl (by decide))
    | (go_at_call 21; (with_reducible refine (HL1.out g _ hrv3 hg3.lt (HTB.out.below hbw3 (Nat.le_refl _))).mono ?_); rintro e w4 ⟨rfl, hb4⟩; have hB4 := hB3.below hb4 hB3.lt; have hD4 := hD3.later hb4; have hbw4 := below_pre hbw3 hb4; have hsb4 := hsb3.later hb4)
    | (go_at_call 20; (with_reducible refine (WriteS_any _ _ _ Z1 _ hsb4 (by simp; omega) (sb_le hsb4)).mono ?_); rintro e w5 ⟨rfl, hsb5, hf5⟩; have hB5 := hf5.blk hB4 (Nat.ne_of_lt hlt1) (by decide); have hD5 := Lib.hid (hD4.sb hf5 (Nat.le_refl _) (fun k hk => Nat.lt_trans (hG k hk) hlt1)); have hbw5 := hbw4.trans ((hf5.below (Nat.le_refl _) (sb_le hsb4)).mono (Nat.le_of_lt hlt1)); obtain ⟨q0, q1, q2, q3, q4, q5, q6, q7, q8⟩ := duty_at hB5))
  rw [List.nil_append] at hsb5
  have HSB5 := Lib.hid hsb5
  have HB5 := Lib.hid hB5
  clear hb0 hB0 hD0 hD1 hB1 hbw1 hb2 hB2 hD2 hbw2 hsb2 hB3 hD3 hbw3 hsb3 hrv3 hg3 hB4 hD4 hbw4 hsb4 hf5 hsb5 hB5 q0 q1 q2 q3 q4 q5 q6 q7 q8 hb1 hb3 hb4
  go_loopw [18] (fun t wr => ∃ (k : Nat) (l : List UInt8), k ≤ d.progs.length ∧ t = .int .i64 k ∧ Hid (l ++ (d.progs.drop k).flatMap progT ++ d.starts.flatMap startT = T) ∧ l.length ≤ 145 + 28677 * k ∧ Hid (SbAt wr w1.heap.size w1.heap.size l) ∧ Hid (DV wr G (.slice pp d.progs.length cp) (.slice ps d.starts.length cs) d) ∧ Hid (Blk wr w.heap.size 27 (d.cells (.slice pp d.progs.length cp) (.slice ps d.starts.length cs))) ∧ Below w.heap.size w wr) (fun t _ => d.progs.length - (intOf t).toNat)
  case atStart => exact ⟨0, Z1.data.toList, by omega, rfl, HT0, by have : Z1.data.toList.length = Z1.size := rfl; omega, HSB5, hD5, HB5, hbw5⟩
  case round =>
    obtain ⟨k, l, hk, rfl, hl, hll, hsb, hD, hB, hb⟩ := hrel
    clear HT0 HSB5 hD5 HB5 hbw5
    have hbq : w1.heap.size < wr.heap.size := by
      obtain ⟨_, hq⟩ := hsb.out.shape.2
      exact hq.lt
    by_cases hlt : k < d.progs.length
    · obtain ⟨p, hp⟩ : ∃ p, d.progs[k]? = some p := ⟨_, List.getElem?_eq_getElem hlt⟩
      have hpm := List.mem_of_getElem? hp
      have hpl := HPK.out p hpm
      have hpo := HOKP.out p hpm
      obtain ⟨b, off, u, cu, rfl, _, _, hcell, hrp⟩ := hD.out.progs.at hp
      have hl2 := hl.out
      rw [drop_at9 hp, List.flatMap_cons, progT, show progW ++ 10 :: textP p = (progW ++ [10]) ++ textP p by simp, ← HZL2.out] at hl2
      have htx := fun W (hW : RP W G (.slice u p.length cu) p) (hGW : ∀ k, G k → k < W.heap.size) (hTW : Tabs W) => Text_any u cu p.length p rfl (by omega) hpo G W hGW hW hTW
      obtain ⟨Z, hZ⟩ : ∃ Z : ByteArray, Z = ⟨(textP p).toArray⟩ := ⟨_, rfl⟩
      have hZl : Z.data.toList = textP p := by rw [hZ]
      have hZs : Z.size ≤ 28672 := by
        have := textP_len p hpo
        rw [hZ, size_mk]
        omega
      unfold sV at htx
      rw [← hZ] at htx
      rw [← hZl, ← List.append_assoc, ← List.append_assoc] at hl2
      have HLL : Hid ((l ++ Z2.data.toList ++ Z.data.toList) ++ (d.progs.drop (k + 1)).flatMap progT ++ d.starts.flatMap startT = T) := Lib.hid (by rw [← hl2])
      have HTX := Lib.hid htx
      have HRP := Lib.hid hrp
      have hln : l.length + 28677 ≤ 1900000 := by omega
      have HLN := Lib.hid hln
      clear hp hpm hl hl2 hZ hZl htx hrp hpo hln
      go_wp2_with (first
        | (go_at_call 21; (with_reducible refine (HL2.out _ (HTB.out.below hb (Nat.le_refl _))).mono ?_); rintro e w2 ⟨rfl, hb2⟩; have hB2 := hB.out.below hb2 hB.out.lt; have hD2 := hD.out.later hb2; have hbw2 := below_pre hb hb2; have hsb2 := hsb.out.later hb2; have hrp2 := HRP.out.later hb2)
        | (go_at_call 20; (with_reducible refine (WriteS_any _ _ _ Z2 _ hsb2 (by have := HLN.out; omega) (sb_le hsb2)).mono ?_); rintro e w3 ⟨rfl, hsb3, hf3⟩; have hB3 := hf3.blk hB2 (Nat.ne_of_lt hlt1) (by decide); have hD3 := hD2.sb hf3 (Nat.le_refl _) (fun k hk => Nat.lt_trans (hG k hk) hlt1); have hbw3 := hbw2.trans ((hf3.below (Nat.le_refl _) (sb_le hsb2)).mono (Nat.le_of_lt hlt1)); have hrp3 := hrp2.sb hf3 (Nat.le_refl _) (fun k hk => Nat.lt_trans (hG k hk) hlt1))
        | (go_at_call 23; (with_reducible refine (HTX.out _ hrp3 (fun k hk => Nat.lt_of_lt_of_le (hG k hk) hbw3.size) (HTB.out.below hbw3 (Nat.le_refl _))).mono ?_); rintro e w4 ⟨rfl, hb4⟩; have hB4 := hB3.below hb4 hB3.lt; have hD4 := hD3.later hb4; have hbw4 := below_pre hbw3 hb4; have hsb4 := hsb3.later hb4)
        | (go_at_call 20; (with_reducible refine (WriteS_any _ _ _ Z _ hsb4 (by rw [List.length_append]; have : Z2.data.toList.length = Z2.size := rfl; have := HLN.out; omega) (sb_le hsb4)).mono ?_); rintro e w5 ⟨rfl, hsb5, hf5⟩; have hB5 := hf5.blk hB4 (Nat.ne_of_lt hlt1) (by decide); have hD5 := Lib.hid (hD4.sb hf5 (Nat.le_refl _) (fun k hk => Nat.lt_trans (hG k hk) hlt1)); have hbw5 := hbw4.trans ((hf5.below (Nat.le_refl _) (sb_le hsb4)).mono (Nat.le_of_lt hlt1))))
      go_roundw
      case rel => exact ⟨k + 1, _, by omega, by go_num, HLL, by rw [List.length_append, List.length_append]; have h1 : Z.data.toList.length = Z.size := rfl; have h2 : Z2.data.toList.length = Z2.size := rfl; omega, Lib.hid hsb5, hD5, Lib.hid hB5, hbw5⟩
      case measure => simp [intOf]; omega
    · obtain rfl : k = d.progs.length := by omega
      have hl2 := hl.out
      rw [List.drop_of_length_le (Nat.le_refl _), List.flatMap_nil, List.append_nil] at hl2
      have HT0 : Hid (l ++ (d.starts.drop 0).flatMap startT = T) := Lib.hid (by simpa using hl2)
      obtain ⟨q0, q1, q2, q3, q4, q5, q6, q7, q8⟩ := duty_at hB.out
      have hll2 : l.length ≤ 1835473 := by omega
      clear hl hl2 hlt hk hll
      go_wp2
      clear q0 q1 q2 q3 q4 q5 q6 q7 q8
      go_loopw [31] (fun t wr => ∃ (k : Nat) (l : List UInt8), k ≤ d.starts.length ∧ t = .int .i64 k ∧ Hid (l ++ (d.starts.drop k).flatMap startT = T) ∧ l.length ≤ 1835473 + 65 * k ∧ Hid (SbAt wr w1.heap.size w1.heap.size l) ∧ Hid (DV wr G (.slice pp d.progs.length cp) (.slice ps d.starts.length cs) d) ∧ Below w.heap.size w wr) (fun t _ => d.starts.length - (intOf t).toNat)
      case atStart => exact ⟨0, l, by omega, rfl, HT0, by omega, hsb, hD, hb⟩
      case round =>
        clear HT0 hsb hD hb hB hbq hll2
        obtain ⟨k, l, hk, rfl, hl, hll, hsb, hD, hb⟩ := hrel
        have hbq : w1.heap.size < wr.heap.size := by
          obtain ⟨_, hq⟩ := hsb.out.shape.2
          exact hq.lt
        by_cases hlt : k < d.starts.length
        · obtain ⟨s, hs⟩ : ∃ s, d.starts[k]? = some s := ⟨_, List.getElem?_eq_getElem hlt⟩
          have hso := HOKS.out s (List.mem_of_getElem? hs)
          obtain ⟨b, off, rfl, _, _, _, e0, e1, e2⟩ := hD.out.starts.at hs
          have hl2 := hl.out
          have hzs := startT_len hso
          rw [drop_at9 hs, List.flatMap_cons] at hl2
          have hst := fun W => StartOf_any s hso W
          have hln := fun g W hW hg hTW => HL3.out s hso g W hW hg hTW
          obtain ⟨Z, hZ⟩ : ∃ Z : ByteArray, Z = ⟨(startL s ++ [10]).toArray⟩ := ⟨_, rfl⟩
          have hZl : Z.data.toList = startT s := by rw [hZ]; rfl
          have hZs : Z.size ≤ 65 := by rw [hZ, size_mk]; exact hzs
          unfold sV at hln
          rw [← hZ] at hln
          rw [← hZl, ← List.append_assoc] at hl2
          have HLL := Lib.hid hl2
          have HLN := Lib.hid hln
          have hlm : l.length + 65 ≤ 1900000 := by omega
          have HLM := Lib.hid hlm
          have ha1 := below_alloc1 wr (.cells #[.int .i64 s.prog, .int .i64 s.grade, .int .u64 (s.mask : Int)] 58)
          have hD1 := hD.out.later ha1
          have hsb1 := hsb.out.later ha1
          have hbw1 := below_pre hb ha1
          have hst1 : wr.heap.size < (wr.alloc (.cells #[.int .i64 s.prog, .int .i64 s.grade, .int .u64 (s.mask : Int)] 58)).heap.size := by simp
          have HST := Lib.hid hst1
          clear hs hl hl2 hZ hZl hln hlm hzs hst1
          go_wp2_with (first
            | (go_at_call 24; (with_reducible refine (hst _).mono ?_); clear hst; rintro e w2 ⟨⟨g, rfl, hg2, _⟩, hb2⟩; have hD2 := hD1.later hb2; have hbw2 := below_pre hbw1 hb2; have hsb2 := hsb1.later hb2; have hrv2 := blk_rv (n := 3) (xs := [wrapN s.prog, wrapN s.grade, s.mask].map uV) hg2 rfl rfl (by decide))
            | (go_at_call 21; (with_reducible refine (HLN.out g _ hrv2 hg2.lt (HTB.out.below hbw2 (Nat.le_refl _))).mono ?_); rintro e w3 ⟨rfl, hb3⟩; have hD3 := hD2.later hb3; have hbw3 := below_pre hbw2 hb3; have hsb3 := hsb2.later hb3)
            | (go_at_call 20; (with_reducible refine (WriteS_any _ _ _ Z _ hsb3 (by have := HLM.out; omega) (sb_le hsb3)).mono ?_); rintro e w4 ⟨rfl, hsb4, hf4⟩; have hD4 := Lib.hid (hD3.sb hf4 (Nat.le_refl _) (fun k hk => Nat.lt_trans (hG k hk) hlt1)); have hbw4 := hbw3.trans ((hf4.below (Nat.le_refl _) (sb_le hsb3)).mono (Nat.le_of_lt hlt1))))
          go_roundw
          case rel => exact ⟨k + 1, _, by omega, by go_num, HLL, by rw [List.length_append]; have h1 : Z.data.toList.length = Z.size := rfl; omega, Lib.hid hsb4, hD4, hbw4⟩
          case measure => simp [intOf]; omega
        · obtain rfl : k = d.starts.length := by omega
          have hl2 := hl.out
          rw [List.drop_of_length_le (Nat.le_refl _), List.flatMap_nil, List.append_nil] at hl2
          have HL9 := Lib.hid hl2
          have hst := Tryz.Builder_String_any w1.heap.size w1.heap.size l wr hsb.out (Nat.le_of_lt hbq)
          clear hl hl2 hsb
          go_wp2_with (go_at_call 25; (with_reducible refine hst.mono ?_); clear hst; rintro e w5 ⟨rfl, hb5⟩)
          go_ret
          exact ⟨by rw [← HL9.out]; rfl, hb.trans (hb5.mono (Nat.le_of_lt hlt1))⟩
theorem TextY_any (d : Dut) (hd : d.ok) (vp vs : Value) (G : Nat → Prop) (w : World) (hG : ∀ k, G k → k < w.heap.size) (h : DV w G vp vs d) (hT : Tabs w) :
    Calls Tryz.prog 8 #[.agg (d.cells vp vs)] w fun e w' => e = .returned (sV (textN9 d)) ∧ Below w.heap.size w w' := by
  obtain ⟨pp, cp, rfl, _, _⟩ := h.progs.shape
  obtain ⟨ps, cs, rfl, _, _⟩ := h.starts.shape
  by_cases h0 : checkY d = 0
  · unfold textN9
    rw [if_pos h0]
    exact TextY_good d hd h0 pp ps cp cs G w hG h hT
  · unfold textN9
    rw [if_neg h0]
    have hchk := fun W (hW : DV W G (.slice pp d.progs.length cp) (.slice ps d.starts.length cs) d) => CheckY_any d hd _ _ G W hW
    have hne : ((checkY d : Int) != 0) = true := by simp; omega
    have hb0 := below_alloc1 w (.cells (d.cells (.slice pp d.progs.length cp) (.slice ps d.starts.length cs)) 27)
    have hB0 := Blk.new w 27 (d.cells (.slice pp d.progs.length cp) (.slice ps d.starts.length cs))
    have hD0 := Lib.hid (h.later hb0)
    clear h h0 hT hd
    go_enter Tryz.func8, Tryz.ntmps8
    go_wp2_with (first
      | (refine wpList_box_agg rfl 27 _ rfl (d.cells (.slice pp d.progs.length cp) (.slice ps d.starts.length cs)) rfl ?_)
      | (refine wpList_load_row rfl 27 _ rfl w.heap.size rfl 27 _ (0, 0) _ hB0 Tryz.underlying27 rfl (sizeY _ _ _) ?_)
      | (go_at_call 19; (with_reducible refine (hchk _ hD0.out).mono ?_); clear hchk; rintro e w1 ⟨rfl, hb1⟩))
    go_ret
    exact ⟨rfl, below_pre hb0 hb1⟩
end Go.Proofs.YtbdimfcdpkldpaaGreatDoor
