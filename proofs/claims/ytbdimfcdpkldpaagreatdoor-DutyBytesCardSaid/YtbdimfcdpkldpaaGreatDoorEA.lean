/- The contracts of duty's put and Encode. The contract of the reference's Bytes of a duty. -/
import Derived.Test.YtbdimfcdpkldpaaGreatDoorZ4
import Derived.Test.YtbdimfcdpkldpaaGreatDoorZ5
import Derived.Test.YtbdimfcdpkldpaaGreatDoorZ8
import Derived.Test.YtbdimfcdpkldpaaGreatDoorLV
import Derived.Test.YtbdimfcdpkldpaaGreatDoorLYM
import Derived.Test.YtbdimfcdpkldpaaGreatDoorZ6S
namespace Go.Proofs.YtbdimfcdpkldpaaGreatDoor
open Go.RowKit
open Wire (WrAt WrStep wAdd bV numB)

theorem drop_atN {xs : List Nat} {k : Nat} {x : Nat} (hx : xs[k]? = some x) : xs.drop k = x :: xs.drop (k + 1) := by
  obtain ⟨h, rfl⟩ := List.getElem?_eq_some_iff.1 hx
  exact List.drop_eq_getElem_cons h

set_option maxRecDepth 100000 in
set_option maxHeartbeats 2000000 in
theorem PutY_any (xs : List Nat) (hx : ∀ x ∈ xs, x < 18446744073709551616) (n : Nat) (hn : xs.length = n) (hn9 : n ≤ 10) (g : Nat) (cs : Array Value) (hcs : cs.toList = xs.map uV) {B b most : Nat} {v : Value} {l : List UInt8} (hl : l.length ≤ 240000) (hlm : l.length + 90 ≤ most) (hm : most ≤ maxLen)
    (w : World) (hg : Blk w g 22 cs) (hW : WrAt w B b most v (some l)) :
    Calls Tryz.prog 42 #[.pointer (some ⟨b, 0, none⟩), .slice (some ⟨g, 0, none⟩) n n] w fun e w' => e = .returned (.tuple #[]) ∧ WrK w w' B b most (l ++ xs.flatMap numB) := by
  obtain ⟨T, hT⟩ : ∃ T, xs.flatMap numB = T := ⟨_, rfl⟩
  rw [hT]
  have hgb : g ≠ b := hg.ne (wr_blk hW) (by decide)
  have HT : Hid ([] ++ (xs.drop 0).flatMap numB = T) := Lib.hid (by simpa using hT)
  have HX := Lib.hid hx
  have HN := Lib.hid hn
  have HCS := Lib.hid hcs
  have HM := Lib.hid hm
  have HLM := Lib.hid hlm
  have HW0 : Hid (WrAt w B b most v (some (l ++ []))) := Lib.hid (by rw [List.append_nil]; exact hW)
  have HG0 := Lib.hid hg
  clear hT hx hn hcs hm hlm hg hW
  go_enter Tryz.func42, Tryz.ntmps42
  go_wp2
  go_loopw [8] (fun t wr => ∃ (k : Nat) (pre : List UInt8) (vr : Value), k ≤ n ∧ t = .int .i64 k ∧ Hid (pre ++ (xs.drop k).flatMap numB = T) ∧ pre.length ≤ 9 * k ∧ Hid (WrAt wr B b most vr (some (l ++ pre))) ∧ Hid (Blk wr g 22 cs) ∧ SbF B b w wr) (fun t _ => n - (intOf t).toNat)
  case atStart => exact ⟨0, [], v, by omega, rfl, HT, by simp, HW0, HG0, SbF.refl _ _ _⟩
  case round =>
    obtain ⟨k, pre, vr, hk, rfl, hp, hpl, hWr, hG, hF⟩ := hrel
    clear HT HW0 HG0
    by_cases hlt : k < n
    · obtain ⟨x, hx⟩ : ∃ x, xs[k]? = some x := ⟨_, List.getElem?_eq_getElem (by rw [HN.out]; exact hlt)⟩
      have hxb := HX.out x (List.mem_of_getElem? hx)
      have h9 := Wire.numB_len x hxb
      have hc : wr.cell? ⟨g, k, none⟩ = some (.int .u64 (x : Int)) := by
        rw [hG.out.cell k, ← Array.getElem?_toList, HCS.out, List.getElem?_map, hx]
        rfl
      have hp2 := hp.out
      rw [drop_atN hx, List.flatMap_cons, ← List.append_assoc] at hp2
      have HP2 := Lib.hid hp2
      have hnum := Wire.WNum_any wr x hxb (fun l' e => by cases e; rw [List.length_append]; omega) HM.out hWr.out
      have h9b : (pre ++ numB x).length ≤ 9 * (k + 1) := by rw [List.length_append]; omega
      have hlm2 : (l ++ pre).length + (numB x).length ≤ most := by rw [List.length_append]; have := HLM.out; omega
      have H9 := Lib.hid h9b
      have H92 := Lib.hid hlm2
      have HX0 := Lib.hid hxb
      clear hx hp hp2 hxb h9 h9b hlm2
      go_wp2_with (go_at_call 43; (with_reducible refine hnum.mono ?_); clear hnum; rintro e w2 ⟨rfl, hs⟩)
      obtain ⟨v2, hW2, hf2⟩ := wr_keep hWr.out hs H92.out
      go_roundw
      case rel => exact ⟨k + 1, pre ++ numB x, v2, by omega, by go_num, HP2, H9.out, Lib.hid (by rw [← List.append_assoc]; exact hW2), Lib.hid (hf2.blk hG.out hgb (by decide)), hF.trans hf2⟩
      case measure => simp [intOf]; omega
    · obtain rfl : k = n := by omega
      have hp2 := hp.out
      rw [List.drop_of_length_le (by rw [HN.out]; exact Nat.le_refl _), List.flatMap_nil, List.append_nil] at hp2
      subst hp2
      clear hp
      go_wp2
      first | go_end0 | refine bodyPost_ret (results_none rfl _ _ _) rfl ?_
      exact ⟨rfl, vr, hWr.out, hF⟩

theorem EncodeY_bad (d : Dut) (hd : d.ok) (vp vs : Value) (G : Nat → Prop) (w : World) (h : DV w G vp vs d) (h0 : ¬ checkY d = 0) :
    Calls Tryz.prog 15 #[.agg (d.cells vp vs)] w fun e w' => e = .returned (.tuple #[.slice none 0 0, .int .i64 (checkY d : Int)]) ∧ Below w.heap.size w w' := by
  obtain ⟨pp, cp, rfl, _, _⟩ := h.progs.shape
  obtain ⟨ps, cs, rfl, _, _⟩ := h.starts.shape
  have hchk := fun W (hW : DV W G (.slice pp d.progs.length cp) (.slice ps d.starts.length cs) d) => CheckY_any d hd _ _ G W hW
  have hne : ((checkY d : Int) != 0) = true := by simp; omega
  have hb0 := below_alloc1 w (.cells (d.cells (.slice pp d.progs.length cp) (.slice ps d.starts.length cs)) 27)
  have hB0 := Blk.new w 27 (d.cells (.slice pp d.progs.length cp) (.slice ps d.starts.length cs))
  have hD0 := Lib.hid (h.later hb0)
  clear h h0 hd
  go_enter Tryz.func15, Tryz.ntmps15
  go_wp2_with (first
    | (refine wpList_box_agg rfl 27 _ rfl (d.cells (.slice pp d.progs.length cp) (.slice ps d.starts.length cs)) rfl ?_)
    | (refine wpList_load_row rfl 27 _ rfl w.heap.size rfl 27 _ (0, 0) _ hB0 Tryz.underlying27 rfl (sizeY _ _ _) ?_)
    | (go_at_call 19; (with_reducible refine (hchk _ hD0.out).mono ?_); clear hchk; rintro e w1 ⟨rfl, hb1⟩))
  go_ret2
  exact ⟨rfl, below_pre hb0 hb1⟩

theorem wrapLen (n : Nat) (h : n ≤ 64) : IntKind.u64.wrap (n : Int) = (n : Int) := by rw [IntKind.wrap_u64]; omega
set_option maxRecDepth 100000 in
set_option maxHeartbeats 8000000 in
theorem EncodeY_good (d : Dut) (hd : d.ok) (h0 : checkY d = 0) (vp vs : Value) (G : Nat → Prop) (w : World) (hG : ∀ k, G k → k < w.heap.size) (h : DV w G vp vs d) :
    Calls Tryz.prog 15 #[.agg (d.cells vp vs)] w fun e w' => (∃ x, e = .returned (.tuple #[x, .int .i64 0]) ∧ w'.ownsRow w.heap.size 5 1 x (bytesY d).length ((bytesY d).map bV)) ∧ Below w.heap.size w w' := by
  obtain ⟨pp, cp, rfl, _, _⟩ := h.progs.shape
  obtain ⟨ps, cs, rfl, _, _⟩ := h.starts.shape
  have hchk := fun W (hW : DV W G (.slice pp d.progs.length cp) (.slice ps d.starts.length cs) d) => CheckY_any d hd _ _ G W hW
  rw [h0] at hchk
  obtain ⟨_, hpl, hsl, hpk, _⟩ := checkY_zero h0
  have hnums := numsY_lt hd
  have hn63 := numsB_len hd
  have hlen := bytesY_len hd h0
  have hnew : ∀ W : World, Calls Tryz.prog 41 #[.int .i64 9223372036854775807] W fun e w' => e = .returned (.pointer (some ⟨W.heap.size, 0, none⟩)) ∧ WrAt w' W.heap.size W.heap.size 9223372036854775807 (.slice none 0 0) (some []) ∧ Below W.heap.size W w' := fun W => Wire.New_any 9223372036854775807 W
  have hM : 9223372036854775807 ≤ maxLen := by unfold maxLen; omega
  have hM2 : 300000 ≤ 9223372036854775807 := by decide
  generalize 9223372036854775807 = M at hnew hM hM2
  have hhead := fun W => HeadOf_any d hd pp ps d.progs.length cp d.starts.length cs W
  have hputH := fun (W : World) (b g : Nat) (hg : Blk W g 22 (numsA d)) (hW : WrAt W b b M (.slice none 0 0) (some [])) => PutY_any (numsY d) hnums 7 rfl (by omega) g (numsA d) (numsA_list d) (l := []) (by simp) (by simp; omega) hM W hg hW
  have hnumP := fun (W : World) (b : Nat) (v : Value) (l : List UInt8) (hl : l.length ≤ 240000) (hW : WrAt W b b M v (some l)) => Wire.WNum_any W d.progs.length (by omega) (fun l' e => by cases e; omega) hM hW
  have hnumS := fun (W : World) (b : Nat) (v : Value) (l : List UInt8) (hl : l.length ≤ 240000) (hW : WrAt W b b M v (some l)) => Wire.WNum_any W d.starts.length (by omega) (fun l' e => by cases e; omega) hM hW
  have hwp := wrapLen d.progs.length hpl
  have hws := wrapLen d.starts.length hsl
  have h9p := Wire.numB_len d.progs.length (by omega)
  have h9s := Wire.numB_len d.starts.length (by omega)
  obtain ⟨T, hT⟩ : ∃ T, bytesY d = T := ⟨_, rfl⟩
  rw [hT] at hlen ⊢
  have HT0 : Hid ((numsY d).flatMap numB ++ numB d.progs.length ++ (d.progs.drop 0).flatMap bytesP ++ (numB d.starts.length ++ d.starts.flatMap startBy) = T) := Lib.hid (by rw [← hT]; unfold bytesY; simp)
  have HOKP := Lib.hid hd.progs
  have HOKS := Lib.hid hd.starts
  have HPK := Lib.hid hpk
  have HM := Lib.hid hM
  have HM2 := Lib.hid hM2
  have hb0 := below_alloc1 w (.cells (d.cells (.slice pp d.progs.length cp) (.slice ps d.starts.length cs)) 27)
  have hB0 := Blk.new w 27 (d.cells (.slice pp d.progs.length cp) (.slice ps d.starts.length cs))
  have hD0 := Lib.hid (h.later hb0)
  have HPH := Lib.hid hputH
  have HNP := Lib.hid hnumP
  have HNS := Lib.hid hnumS
  have HWS := Lib.hid hws
  have HLEN := Lib.hid hlen
  clear hT hd h0 h hpk hnums hM hM2 hputH hnumP hnumS hws hlen
  generalize hNN : (numsY d).flatMap numB = NB at *
  clear hNN
  go_enter Tryz.func15, Tryz.ntmps15
  go_wp2_with (first
    | (refine wpList_box_agg rfl 27 _ rfl (d.cells (.slice pp d.progs.length cp) (.slice ps d.starts.length cs)) rfl ?_)
    | (refine wpList_load_row rfl 27 _ rfl w.heap.size rfl 27 _ (0, 0) _ hB0 Tryz.underlying27 rfl (sizeY _ _ _) ?_)
    | (go_at_call 19; (with_reducible refine (hchk _ hD0.out).mono ?_); clear hchk; rintro e w1 ⟨rfl, hb1⟩; have hD1 := hD0.out.later hb1; have hB1 := hB0.below hb1 hB0.lt; have hbw1 := below_pre hb0 hb1; have hlt1 : w.heap.size < w1.heap.size := hB1.lt)
    | (go_at_call 41; (with_reducible refine (hnew _).mono ?_); clear hnew; rintro e w2 ⟨rfl, hW2, hb2⟩; have hB2 := hB1.below hb2 hB1.lt; have hD2 := hD1.later hb2; have hbw2 := below_pre hbw1 hb2)
    | (refine wpList_load_row rfl 27 _ rfl w.heap.size rfl 27 _ (0, 0) _ hB2 Tryz.underlying27 rfl (sizeY _ _ _) ?_)
    | (go_at_call 22; (with_reducible refine (hhead _).mono ?_); clear hhead; rintro e w3 ⟨⟨g, rfl, hg3, _⟩, hb3⟩; have hB3 := hB2.below hb3 hB2.lt; have hD3 := hD2.later hb3; have hbw3 := below_pre hbw2 hb3; have hW3 := hW2.below hb3 (Nat.le_refl _))
    | (go_at_call 42; (with_reducible refine (HPH.out _ _ g hg3 hW3).mono ?_); rintro e w4 ⟨rfl, v4, hW4, hf4⟩; have hB4 := hf4.blk hB3 (Nat.ne_of_lt hlt1) (by decide); have hD4 := hD3.sb hf4 (Nat.le_refl _) (fun k hk => Nat.lt_trans (hG k hk) hlt1); have hbw4 := hbw3.trans ((hf4.below (Nat.le_refl _) (Nat.le_of_lt (wr_blk hW3).lt)).mono (Nat.le_of_lt hlt1)); rw [List.nil_append] at hW4; obtain ⟨q0, q1, q2, q3, q4, q5, q6, q7, q8⟩ := duty_at hB4)
    | (go_at_call 43; (with_reducible refine (HNP.out _ _ _ _ (by omega) hW4).mono ?_); rintro e w5 ⟨rfl, hs5⟩; obtain ⟨v5, hW5, hf5⟩ := wr_keep hW4 hs5 (by have := HM2.out; omega); have hB5 := hf5.blk hB4 (Nat.ne_of_lt hlt1) (by decide); have hD5 := hD4.sb hf5 (Nat.le_refl _) (fun k hk => Nat.lt_trans (hG k hk) hlt1); have hbw5 := hbw4.trans ((hf5.below (Nat.le_refl _) (Nat.le_of_lt (wr_blk hW4).lt)).mono (Nat.le_of_lt hlt1)); obtain ⟨r0, r1, r2, r3, r4, r5, r6, r7, r8⟩ := duty_at hB5))
  have HW5 := Lib.hid hW5
  have HB5 := Lib.hid hB5
  have HD5 := Lib.hid hD5
  have hpre : (NB ++ numB d.progs.length).length ≤ 72 := by rw [List.length_append]; omega
  clear hb0 hB0 hD0 hb1 hD1 hB1 hbw1 hW2 hb2 hB2 hD2 hbw2 hg3 hb3 hB3 hD3 hbw3 hW3 hW4 hf4 hB4 hD4 hbw4 q0 q1 q2 q3 q4 q5 q6 q7 q8 hs5 hf5 hW5 hB5 hD5 r0 r1 r2 r3 r4 r5 r6 r7 r8 hwp hn63 h9p
  go_loopw [29] (fun t wr => ∃ (k : Nat) (l : List UInt8) (vr : Value), k ≤ d.progs.length ∧ t = .int .i64 k ∧ Hid (l ++ (d.progs.drop k).flatMap bytesP ++ (numB d.starts.length ++ d.starts.flatMap startBy) = T) ∧ l.length ≤ 72 + 3593 * k ∧ Hid (WrAt wr w1.heap.size w1.heap.size M vr (some l)) ∧ Hid (DV wr G (.slice pp d.progs.length cp) (.slice ps d.starts.length cs) d) ∧ Hid (Blk wr w.heap.size 27 (d.cells (.slice pp d.progs.length cp) (.slice ps d.starts.length cs))) ∧ Below w.heap.size w wr) (fun t _ => d.progs.length - (intOf t).toNat)
  case atStart => exact ⟨0, _, v5, by omega, rfl, HT0, by omega, HW5, HD5, HB5, hbw5⟩
  case round =>
    obtain ⟨k, l, vr, hk, rfl, hl, hll, hW, hD, hB, hb⟩ := hrel
    clear HT0 HW5 HD5 HB5 hbw5 hpre
    by_cases hlt : k < d.progs.length
    · obtain ⟨p, hp⟩ : ∃ p, d.progs[k]? = some p := ⟨_, List.getElem?_eq_getElem hlt⟩
      have hpm := List.mem_of_getElem? hp
      have hp0 := HPK.out p hpm
      have hpo := HOKP.out p hpm
      obtain ⟨b, off, u, cu, rfl, _, _, hcell, hrp⟩ := hD.out.progs.at hp
      have hl2 := hl.out
      rw [drop_at9 hp, List.flatMap_cons, ← List.append_assoc l] at hl2
      have hpz := bytesP_len p hpo hp0
      have hput := PPut_good u cu p.length p rfl hpo G (B := w1.heap.size) (fun k hk => Nat.lt_trans (hG k hk) hlt1) (l := l) (by omega) (by have := HM2.out; omega) HM.out wr hrp hW.out hp0
      have HLL := Lib.hid hl2
      have hl9 : (l ++ bytesP p).length ≤ 72 + 3593 * (k + 1) := by rw [List.length_append]; omega
      have HL9 := Lib.hid hl9
      clear hp hpm hl hl2 hrp hpo hp0 hpz hl9
      go_wp2_with (go_at_call 44; (with_reducible refine hput.mono ?_); clear hput; rintro e w2 ⟨rfl, v2, hW2, hf2⟩; have hB2 := hf2.blk hB.out (Nat.ne_of_lt hlt1) (by decide); have hD2 := Lib.hid (hD.out.sb hf2 (Nat.le_refl _) (fun k hk => Nat.lt_trans (hG k hk) hlt1)); have hbw2 := hb.trans ((hf2.below (Nat.le_refl _) (Nat.le_of_lt (wr_blk hW.out).lt)).mono (Nat.le_of_lt hlt1)))
      go_roundw
      case rel => exact ⟨k + 1, _, v2, by omega, by go_num, HLL, HL9.out, Lib.hid hW2, hD2, Lib.hid hB2, hbw2⟩
      case measure => simp [intOf]; omega
    · obtain rfl : k = d.progs.length := by omega
      have hl2 := hl.out
      rw [List.drop_of_length_le (Nat.le_refl _), List.flatMap_nil, List.append_nil] at hl2
      have HT0 : Hid ((l ++ numB d.starts.length) ++ (d.starts.drop 0).flatMap startBy = T) := Lib.hid (by simpa using hl2)
      obtain ⟨q0, q1, q2, q3, q4, q5, q6, q7, q8⟩ := duty_at hB.out
      have hll2 : l.length ≤ 230024 := by omega
      have hws := HWS.out
      clear hl hl2 hlt hk hll
      go_wp2_with (go_at_call 43; (with_reducible refine (HNS.out _ _ _ _ (by omega) hW.out).mono ?_); rintro e w2 ⟨rfl, hs2⟩; obtain ⟨v2, hW2, hf2⟩ := wr_keep hW.out hs2 (by have := HM2.out; omega); have hB2 := hf2.blk hB.out (Nat.ne_of_lt hlt1) (by decide); have hD2 := hD.out.sb hf2 (Nat.le_refl _) (fun k hk => Nat.lt_trans (hG k hk) hlt1); have hbw2 := hb.trans ((hf2.below (Nat.le_refl _) (Nat.le_of_lt (wr_blk hW.out).lt)).mono (Nat.le_of_lt hlt1)); obtain ⟨r0, r1, r2, r3, r4, r5, r6, r7, r8⟩ := duty_at hB2)
      have HW2 := Lib.hid hW2
      have HD2 := Lib.hid hD2
      have hpre : (l ++ numB d.starts.length).length ≤ 230033 := by rw [List.length_append]; omega
      have HPRE := Lib.hid hpre
      clear hpre hD2 hW2 hs2 hf2 hB2 hD hb hB hW hws h9s q0 q1 q2 q3 q4 q5 q6 q7 q8 r0 r1 r2 r3 r4 r5 r6 r7 r8
      go_loopw [46] (fun t wr => ∃ (k : Nat) (l : List UInt8) (vr : Value), k ≤ d.starts.length ∧ t = .int .i64 k ∧ Hid (l ++ (d.starts.drop k).flatMap startBy = T) ∧ l.length ≤ 230033 + 27 * k ∧ Hid (WrAt wr w1.heap.size w1.heap.size M vr (some l)) ∧ Hid (DV wr G (.slice pp d.progs.length cp) (.slice ps d.starts.length cs) d) ∧ Below w.heap.size w wr) (fun t _ => d.starts.length - (intOf t).toNat)
      case atStart => exact ⟨0, _, v2, by omega, rfl, HT0, by have := HPRE.out; omega, HW2, HD2, hbw2⟩
      case round =>
        clear HT0 HW2 HD2 hbw2 hll2 HPRE
        obtain ⟨k, l, vr, hk, rfl, hl, hll, hW, hD, hb⟩ := hrel
        by_cases hlt : k < d.starts.length
        · obtain ⟨s, hs⟩ : ∃ s, d.starts[k]? = some s := ⟨_, List.getElem?_eq_getElem hlt⟩
          have hso := HOKS.out s (List.mem_of_getElem? hs)
          obtain ⟨b, off, rfl, _, _, _, e0, e1, e2⟩ := hD.out.starts.at hs
          have hl2 := hl.out
          have hzs := startBy_len hso
          rw [drop_at9 hs, List.flatMap_cons, ← List.append_assoc l] at hl2
          have hst := fun W => StartOf_any s hso W
          have hbig : ∀ x ∈ [wrapN s.prog, wrapN s.grade, s.mask], x < 18446744073709551616 := by
            intro x hx
            simp only [List.mem_cons, List.not_mem_nil, or_false] at hx
            rcases hx with rfl | rfl | rfl
            · exact wrapN_lt _ hso.prog
            · exact wrapN_lt _ hso.grade
            · exact hso.mask
          have hfl : [wrapN s.prog, wrapN s.grade, s.mask].flatMap numB = startBy s := by simp [startBy]
          have hput := fun (W : World) (g : Nat) (hg : Blk W g 22 #[uV (wrapN s.prog), uV (wrapN s.grade), uV s.mask]) (hW : WrAt W w1.heap.size w1.heap.size M vr (some l)) => PutY_any [wrapN s.prog, wrapN s.grade, s.mask] hbig 3 rfl (by omega) g _ rfl (l := l) (by omega) (by have := HM2.out; omega) HM.out W hg hW
          rw [hfl] at hput
          have HLL := Lib.hid hl2
          have HPUT := Lib.hid hput
          have hl9 : (l ++ startBy s).length ≤ 230033 + 27 * (k + 1) := by rw [List.length_append]; omega
          have HL9 := Lib.hid hl9
          have ha1 := below_alloc1 wr (.cells #[.int .i64 s.prog, .int .i64 s.grade, .int .u64 (s.mask : Int)] 58)
          have hD1 := hD.out.later ha1
          have hW1 := hW.out.below ha1 (Nat.le_refl _)
          have hbw1 := below_pre hb ha1
          clear hs hl hl2 hput hbig hfl hzs hl9
          go_wp2_with (first
            | (go_at_call 24; (with_reducible refine (hst _).mono ?_); clear hst; rintro e w2 ⟨⟨g, rfl, hg2, _⟩, hb2⟩; have hD2 := hD1.later hb2; have hbw2 := below_pre hbw1 hb2; have hW2 := hW1.below hb2 (Nat.le_refl _))
            | (go_at_call 42; (with_reducible refine (HPUT.out _ g hg2 hW2).mono ?_); rintro e w3 ⟨rfl, v3, hW3, hf3⟩; have hD3 := Lib.hid (hD2.sb hf3 (Nat.le_refl _) (fun k hk => Nat.lt_trans (hG k hk) hlt1)); have hbw3 := hbw2.trans ((hf3.below (Nat.le_refl _) (Nat.le_of_lt (wr_blk hW2).lt)).mono (Nat.le_of_lt hlt1))))
          go_roundw
          case rel => exact ⟨k + 1, _, v3, by omega, by go_num, HLL, HL9.out, Lib.hid hW3, hD3, hbw3⟩
          case measure => simp [intOf]; omega
        · obtain rfl : k = d.starts.length := by omega
          have hl2 := hl.out
          rw [List.drop_of_length_le (Nat.le_refl _), List.flatMap_nil, List.append_nil] at hl2
          subst hl2
          have hdone := Wire.WDone_some wr l (by have := HLEN.out; omega) hW.out
          clear hl hW
          go_wp2_with (go_at_call 45; (with_reducible refine hdone.mono ?_); clear hdone; rintro e w5 ⟨x, rfl, hown, hb5⟩)
          go_ret2
          exact ⟨⟨x, rfl, own_mono hown hb.size⟩, below_pre hb hb5⟩
end Go.Proofs.YtbdimfcdpkldpaaGreatDoor

namespace Go.Proofs.YtbdimfcdpkldpaaGreatDoor
open Go.RowKit
open Wire (bV numB)

theorem DV.ge {w w' : World} {G : Nat → Prop} {vp vs : Value} {d : Dut} {B : Nat} (h : DV w G vp vs d) (hb : Below B w w') (hG : ∀ k, G k → k < B) : DV w' G vp vs d :=
  DV.foot h (foot_ge hb) (fun k hk e => by have := hG k hk; omega)

set_option maxRecDepth 100000 in
set_option maxHeartbeats 8000000 in
theorem RBytesY_any (d : Dut) (hd : d.ok) (h0 : checkY d = 0) (vp vs : Value) (G : Nat → Prop) (w : World) (hG : ∀ k, G k → k < w.heap.size) (h : DV w G vp vs d) :
    Calls Tryz.prog 17 #[.agg (d.cells vp vs)] w fun e w' => (∃ x, e = .returned x ∧ w'.ownsRow w.heap.size 5 1 x (bytesY d).length ((bytesY d).map bV)) ∧ Below w.heap.size w w' := by
  obtain ⟨pp, cp, rfl, _, _⟩ := h.progs.shape
  obtain ⟨ps, cs, rfl, _, _⟩ := h.starts.shape
  obtain ⟨i0, hi, hz0, hz1, hz2⟩ := info_parts Wire.infoB
  obtain ⟨_, hpl, hsl, hpk, _⟩ := checkY_zero h0
  have hnm := fun W => RNumbers_any d hd pp ps d.progs.length cp d.starts.length cs W
  have HNX := Lib.hid (numsY_lt hd)
  have hwp := wrapLen d.progs.length hpl
  have HWS := Lib.hid (wrapLen d.starts.length hsl)
  have hnumP := fun W => Wire.RNum_any d.progs.length (by omega) W
  have HNS := Lib.hid (fun W => Wire.RNum_any d.starts.length (by omega) W)
  have h9p := Wire.numB_len d.progs.length (by omega)
  have h9s := Wire.numB_len d.starts.length (by omega)
  obtain ⟨T, hT⟩ : ∃ T, bytesY d = T := ⟨_, rfl⟩
  rw [hT]
  have HT0 : Hid ([] ++ ((numsY d).drop 0).flatMap numB ++ (numB d.progs.length ++ (d.progs.flatMap bytesP ++ (numB d.starts.length ++ d.starts.flatMap startBy))) = T) := Lib.hid (by rw [← hT]; unfold bytesY; simp)
  have HOKP := Lib.hid hd.progs
  have HOKS := Lib.hid hd.starts
  have HPK := Lib.hid hpk
  have HNL : Hid ((numsY d).length = 7) := Lib.hid rfl
  have HNA := Lib.hid (numsA_list d)
  generalize numsY d = NS at *
  have hb0 := below_alloc1 w (.cells (d.cells (.slice pp d.progs.length cp) (.slice ps d.starts.length cs)) 27)
  have hB0 := Blk.new w 27 (d.cells (.slice pp d.progs.length cp) (.slice ps d.starts.length cs))
  have hD0 := h.later hb0
  clear hT hd h0 h hpk
  go_enter Tryz.func17, Tryz.ntmps17
  go_wp2_with (first
    | (refine wpList_box_agg rfl 27 _ rfl (d.cells (.slice pp d.progs.length cp) (.slice ps d.starts.length cs)) rfl ?_)
    | (refine wpList_alloc_agg rfl 61 rfl zero7 zero7R ?_)
    | (refine wpList_load_row rfl 27 _ rfl w.heap.size rfl 27 _ (0, 0) _ hB0 Tryz.underlying27 rfl (sizeY _ _ _) ?_)
    | (go_at_call 26; (with_reducible refine (hnm _).mono ?_); clear hnm; rintro e w1 ⟨rfl, hb1⟩; have hB1 := hB0.below hb1 hB0.lt; have hD1 := hD0.later hb1; have hbw1 := below_pre hb0 hb1)
    | (refine wpList_store_row rfl 61 _ _ rfl w1.heap.size (numsA d) rfl rfl 61 _ (heap_alloc_new w1 _) (size7 _) rfl (one7 _) ?_; rw [World.setRow_alloc_new]))
  have ha2 := below_alloc1 w1 (.cells (numsA d) 61)
  have hA2 := Blk.new w1 61 (numsA d)
  have hB2 := hB1.below ha2 hB1.lt
  have hD2 := hD1.later ha2
  have hbw2 := below_pre hbw1 ha2
  obtain ⟨W2, hW2⟩ : ∃ W2, W2 = w1.alloc (.cells (numsA d) 61) := ⟨_, rfl⟩
  have hsz : w1.heap.size < W2.heap.size := by rw [hW2]; simp
  have hsw : w.heap.size < w1.heap.size := hB1.lt
  obtain ⟨g4, hg4⟩ : ∃ g4, g4 = w1.heap.size := ⟨_, rfl⟩
  rw [← hW2, ← hg4] at hA2
  rw [← hW2] at hB2 hD2 hbw2 ⊢
  rw [← hg4] at hsz hsw ⊢
  clear hg4 hW2 ha2 hB1 hD1 hbw1 hb1 hb0 hB0 hD0
  have hGB : ∀ k, G k → k < W2.heap.size := fun k hk => by have := hG k hk; omega
  have hBB := hB2.lt
  have HB := Lib.hid (fun (W : World) (hb : Below W2.heap.size W2 W) => hB2.below hb hBB)
  have HA := Lib.hid (fun (W : World) (hb : Below W2.heap.size W2 W) => hA2.below hb hsz)
  have HD := Lib.hid (fun (W : World) (hb : Below W2.heap.size W2 W) => hD2.ge hb hGB)
  clear hB2 hA2 hD2
  go_loopw [3, 5] (fun x t wr => ∃ (k : Nat) (pre : List UInt8), k ≤ 7 ∧ t = .int .i64 k ∧ Hid (pre ++ (NS.drop k).flatMap numB ++ (numB d.progs.length ++ (d.progs.flatMap bytesP ++ (numB d.starts.length ++ d.starts.flatMap startBy))) = T) ∧ pre.length ≤ 9 * k ∧ wr.ownsRow W2.heap.size 5 1 x pre.length (pre.map bV) ∧ Below W2.heap.size W2 wr) (fun _ t _ => 7 - (intOf t).toNat)
  case atStart => exact ⟨0, [], by omega, rfl, HT0, by simp, World.ownsRow_nil _ _ _ _, Below.refl _ _⟩
  case round =>
    obtain ⟨k, pre, hk, rfl, hp, hpl0, hown, hb⟩ := hrel
    clear HT0
    by_cases hlt : k < 7
    · obtain ⟨x, hx⟩ : ∃ x, NS[k]? = some x := ⟨_, List.getElem?_eq_getElem (by rw [HNL.out]; exact hlt)⟩
      have hxb := HNX.out x (List.mem_of_getElem? hx)
      have h9 := Wire.numB_len x hxb
      have hc : wr.cell? ⟨g4, k, none⟩ = some (.int .u64 (x : Int)) := by
        rw [(HA.out wr hb).cell k, ← Array.getElem?_toList, HNA.out, List.getElem?_map, hx]
        rfl
      have hp2 := hp.out
      rw [drop_atN hx, List.flatMap_cons, ← List.append_assoc pre] at hp2
      have HP2 := Lib.hid hp2
      have hnum := Wire.RNum_any x hxb wr
      clear hx hp hp2 hxb
      go_wp2_with (first
        | (go_at_call 50; (with_reducible refine hnum.mono ?_); clear hnum; rintro e w3 ⟨x3, rfl, hown3, hb3⟩; have hownp := ownsRow_below hown hb3 (Nat.le_refl _); have hb3w := hb.trans (hb3.mono hb.size))
        | (at_builtin; refine wpList_append_rv _ rfl _ _ 38 rfl W2.heap.size 5 i0 (.int .u8 0) 1 1 Tryz.underlying38 hi hz0 hz1 hz2 rfl (by decide) _ _ _ rfl hownp _ _ _ _ rfl (RV.of_own hown3) (all_one bV Wire.bV_one _) (by unfold maxLen; omega) (by omega) hb3w.size ?_; intro v4 w4 hown4 hgrow4 _; have hb4 := hb3w.grown hgrow4 hb3w.size (fun j hj => (hownp.lt j hj).1)))
      go_roundw
      case rel => exact ⟨k + 1, pre ++ numB x, by omega, by go_num, HP2, by rw [List.length_append]; omega, by rw [List.length_append, List.map_append]; exact hown4, hb4⟩
      case measure => simp [intOf]; omega
    · obtain rfl : k = 7 := by omega
      have hp2 := hp.out
      rw [List.drop_of_length_le (by rw [HNL.out]; exact Nat.le_refl _), List.flatMap_nil, List.append_nil] at hp2
      have HT1 : Hid ((pre ++ numB d.progs.length) ++ (d.progs.drop 0).flatMap bytesP ++ (numB d.starts.length ++ d.starts.flatMap startBy) = T) := Lib.hid (by rw [← hp2]; simp)
      obtain ⟨q0, q1, q2, q3, q4, q5, q6, q7, q8⟩ := duty_at (HB.out wr hb)
      have hpl1 : pre.length ≤ 63 := by omega
      clear hp hp2 hlt hk hpl0
      go_wp2_with (first
        | (go_at_call 50; (with_reducible refine (hnumP _).mono ?_); clear hnumP; rintro e w3 ⟨x3, rfl, hown3, hb3⟩; have hownp := ownsRow_below hown hb3 (Nat.le_refl _); have hb3w := hb.trans (hb3.mono hb.size))
        | (at_builtin; refine wpList_append_rv _ rfl _ _ 38 rfl W2.heap.size 5 i0 (.int .u8 0) 1 1 Tryz.underlying38 hi hz0 hz1 hz2 rfl (by decide) _ _ _ rfl hownp _ _ _ _ rfl (RV.of_own hown3) (all_one bV Wire.bV_one _) (by unfold maxLen; omega) (by omega) hb3w.size ?_; intro v4 w4 hown4 hgrow4 _; have hb4 := hb3w.grown hgrow4 hb3w.size (fun j hj => (hownp.lt j hj).1)))
      have hown5 : w4.ownsRow W2.heap.size 5 1 v4 (pre ++ numB d.progs.length).length ((pre ++ numB d.progs.length).map bV) := by rw [List.length_append, List.map_append]; exact hown4
      have hpl2 : (pre ++ numB d.progs.length).length ≤ 72 := by rw [List.length_append]; omega
      generalize pre ++ numB d.progs.length = pre0 at *
      clear hown hb hb3 hownp hb3w hown3 hown4 hgrow4 q0 q1 q2 q3 q4 q5 q6 q7 q8 h9p hpl1 hwp
      go_loopw [3, 6] (fun x t wr => ∃ (k : Nat) (pre : List UInt8), k ≤ d.progs.length ∧ t = .int .i64 k ∧ Hid (pre ++ (d.progs.drop k).flatMap bytesP ++ (numB d.starts.length ++ d.starts.flatMap startBy) = T) ∧ pre.length ≤ 72 + 3593 * k ∧ wr.ownsRow W2.heap.size 5 1 x pre.length (pre.map bV) ∧ Below W2.heap.size W2 wr) (fun _ t _ => d.progs.length - (intOf t).toNat)
      case atStart => exact ⟨0, pre0, by omega, rfl, HT1, by omega, hown5, hb4⟩
      case round =>
        clear HT1 hown5 hb4 hpl2
        obtain ⟨k, pre, hk, rfl, hp, hpl0, hown, hb⟩ := hrel
        obtain ⟨q0, q1, q2, q3, q4, q5, q6, q7, q8⟩ := duty_at (HB.out wr hb)
        by_cases hlt : k < d.progs.length
        · obtain ⟨p, hpp⟩ : ∃ p, d.progs[k]? = some p := ⟨_, List.getElem?_eq_getElem hlt⟩
          have hpm := List.mem_of_getElem? hpp
          have hp0 := HPK.out p hpm
          have hpo := HOKP.out p hpm
          obtain ⟨b, off, u, cu, rfl, _, _, hcell, hrp⟩ := (HD.out wr hb).progs.at hpp
          have hpz := bytesP_len p hpo hp0
          have hp2 := hp.out
          rw [drop_at9 hpp, List.flatMap_cons, ← List.append_assoc pre] at hp2
          have HP2 := Lib.hid hp2
          have hby := RBytes8_any u cu p.length p rfl hpo G wr (fun j hj => Nat.lt_of_lt_of_le (hGB j hj) hb.size) hrp hp0
          generalize bytesP p = L at *
          clear hpp hpm hp hp2 hp0 hpo hrp
          go_wp2_with (first
            | (go_at_call 51; (with_reducible refine hby.mono ?_); clear hby; rintro e w3 ⟨x3, rfl, hown3, hb3⟩; have hownp := ownsRow_below hown hb3 (Nat.le_refl _); have hb3w := hb.trans (hb3.mono hb.size))
            | (at_builtin; refine wpList_append_rv _ rfl _ _ 38 rfl W2.heap.size 5 i0 (.int .u8 0) 1 1 Tryz.underlying38 hi hz0 hz1 hz2 rfl (by decide) _ _ _ rfl hownp _ _ _ _ rfl (RV.of_own hown3) (all_one bV Wire.bV_one _) (by unfold maxLen; omega) (by omega) hb3w.size ?_; intro v4 w4 hown4 hgrow4 _; have hb4 := hb3w.grown hgrow4 hb3w.size (fun j hj => (hownp.lt j hj).1)))
          go_roundw
          case rel => exact ⟨k + 1, pre ++ L, by omega, by go_num, HP2, by rw [List.length_append]; omega, by rw [List.length_append, List.map_append]; exact hown4, hb4⟩
          case measure => simp [intOf]; omega
        · obtain rfl : k = d.progs.length := by omega
          have hp2 := hp.out
          rw [List.drop_of_length_le (Nat.le_refl _), List.flatMap_nil, List.append_nil] at hp2
          have HT1 : Hid ((pre ++ numB d.starts.length) ++ (d.starts.drop 0).flatMap startBy = T) := Lib.hid (by simpa using hp2)
          have hpl1 : pre.length ≤ 230024 := by omega
          have hws := HWS.out
          clear hp hp2 hlt hk hpl0
          go_wp2_with (first
            | (go_at_call 50; (with_reducible refine (HNS.out _).mono ?_); rintro e w3 ⟨x3, rfl, hown3, hb3⟩; have hownp := ownsRow_below hown hb3 (Nat.le_refl _); have hb3w := hb.trans (hb3.mono hb.size))
            | (at_builtin; refine wpList_append_rv _ rfl _ _ 38 rfl W2.heap.size 5 i0 (.int .u8 0) 1 1 Tryz.underlying38 hi hz0 hz1 hz2 rfl (by decide) _ _ _ rfl hownp _ _ _ _ rfl (RV.of_own hown3) (all_one bV Wire.bV_one _) (by unfold maxLen; omega) (by omega) hb3w.size ?_; intro v4 w4 hown4 hgrow4 _; have hb4 := hb3w.grown hgrow4 hb3w.size (fun j hj => (hownp.lt j hj).1)))
          have hown5 : w4.ownsRow W2.heap.size 5 1 v4 (pre ++ numB d.starts.length).length ((pre ++ numB d.starts.length).map bV) := by rw [List.length_append, List.map_append]; exact hown4
          have hpl2 : (pre ++ numB d.starts.length).length ≤ 230033 := by rw [List.length_append]; omega
          generalize pre ++ numB d.starts.length = pre0 at *
          clear hown hb hb3 hownp hb3w hown3 hown4 hgrow4 q0 q1 q2 q3 q4 q5 q6 q7 q8 h9s hpl1 hws
          go_loopw [3, 7] (fun x t wr => ∃ (k : Nat) (pre : List UInt8), k ≤ d.starts.length ∧ t = .int .i64 k ∧ Hid (pre ++ (d.starts.drop k).flatMap startBy = T) ∧ pre.length ≤ 230033 + 27 * k ∧ wr.ownsRow W2.heap.size 5 1 x pre.length (pre.map bV) ∧ Below W2.heap.size W2 wr) (fun _ t _ => d.starts.length - (intOf t).toNat)
          case atStart => exact ⟨0, pre0, by omega, rfl, HT1, by omega, hown5, hb4⟩
          case round =>
            clear HT1 hown5 hb4 hpl2
            obtain ⟨k, pre, hk, rfl, hp, hpl0, hown, hb⟩ := hrel
            obtain ⟨q0, q1, q2, q3, q4, q5, q6, q7, q8⟩ := duty_at (HB.out wr hb)
            by_cases hlt : k < d.starts.length
            · obtain ⟨s, hs⟩ : ∃ s, d.starts[k]? = some s := ⟨_, List.getElem?_eq_getElem hlt⟩
              have hso := HOKS.out s (List.mem_of_getElem? hs)
              have hDD := (HD.out wr hb).starts
              obtain ⟨b, off, rfl, hbl, hbG, _, e0, e1, e2⟩ := hDD.at hs
              have hp2 := hp.out
              rw [drop_at9 hs, List.flatMap_cons] at hp2
              have HP2 : Hid ((pre ++ numB (wrapN s.prog) ++ numB (wrapN s.grade) ++ numB s.mask) ++ (d.starts.drop (k + 1)).flatMap startBy = T) := Lib.hid (by rw [← hp2]; simp [startBy])
              have g1 := Lib.hid (wrapN_eq s.prog hso.prog)
              have g2 := Lib.hid (wrapN_eq s.grade hso.grade)
              have l1 := Wire.numB_len _ (wrapN_lt _ hso.prog)
              have l2 := Wire.numB_len _ (wrapN_lt _ hso.grade)
              have l3 := Wire.numB_len _ hso.mask
              have hn1 := fun W => Wire.RNum_any (wrapN s.prog) (wrapN_lt _ hso.prog) W
              have hn2 := fun W => Wire.RNum_any (wrapN s.grade) (wrapN_lt _ hso.grade) W
              have hn3 := fun W => Wire.RNum_any s.mask hso.mask W
              have hbB := hGB b hbG
              have HC := Lib.hid (fun (W : World) (hb : Below W2.heap.size W2 W) (j : Nat) (v : Value) (hv : wr.cell? ⟨b, j, none⟩ = some v) (hbw : wr.heap[b]? = W2.heap[b]?) => (World.cell?_of_block (a := ⟨b, j, none⟩) ((hb.block b hbB).trans hbw.symm)).trans hv)
              have hbw := hb.block b hbB
              clear hs hp hp2 hDD hso
              go_wp2_with (first
                | rw [g1.out]
                | rw [g2.out]
                | (go_at_call 50; (with_reducible refine (hn1 _).mono ?_); clear hn1; rintro e w3 ⟨x3, rfl, hown3, hb3⟩; have hownp := ownsRow_below hown hb3 (Nat.le_refl _); have hb3w := hb.trans (hb3.mono hb.size))
                | ((at_builtin; refine wpList_append_rv _ rfl _ _ 38 rfl W2.heap.size 5 i0 (.int .u8 0) 1 1 Tryz.underlying38 hi hz0 hz1 hz2 rfl (by decide) _ _ _ rfl hownp _ _ _ _ rfl (RV.of_own hown3) (all_one bV Wire.bV_one _) (by unfold maxLen; omega) (by omega) hb3w.size ?_; intro v4 w4 hown4 hgrow4 _; have hb4 := hb3w.grown hgrow4 hb3w.size (fun j hj => (hownp.lt j hj).1)); obtain ⟨-, -, -, -, -, -, -, -, y8⟩ := duty_at (HB.out w4 hb4); have z1 := HC.out w4 hb4 _ _ e1 hbw)
                | (go_at_call 50; (with_reducible refine (hn2 _).mono ?_); clear hn2; rintro e w5 ⟨x5, rfl, hown5, hb5⟩; have hownq := ownsRow_below hown4 hb5 (Nat.le_refl _); have hb5w := hb4.trans (hb5.mono hb4.size))
                | ((at_builtin; refine wpList_append_rv _ rfl _ _ 38 rfl W2.heap.size 5 i0 (.int .u8 0) 1 1 Tryz.underlying38 hi hz0 hz1 hz2 rfl (by decide) _ _ _ rfl hownq _ _ _ _ rfl (RV.of_own hown5) (all_one bV Wire.bV_one _) (by unfold maxLen; omega) (by omega) hb5w.size ?_; intro v6 w6 hown6 hgrow6 _; have hb6 := hb5w.grown hgrow6 hb5w.size (fun j hj => (hownq.lt j hj).1)); obtain ⟨-, -, -, -, -, -, -, -, u8⟩ := duty_at (HB.out w6 hb6); have z2 := HC.out w6 hb6 _ _ e2 hbw)
                | (go_at_call 50; (with_reducible refine (hn3 _).mono ?_); clear hn3; rintro e w7 ⟨x7, rfl, hown7, hb7⟩; have hownr := ownsRow_below hown6 hb7 (Nat.le_refl _); have hb7w := hb6.trans (hb7.mono hb6.size))
                | (at_builtin; refine wpList_append_rv _ rfl _ _ 38 rfl W2.heap.size 5 i0 (.int .u8 0) 1 1 Tryz.underlying38 hi hz0 hz1 hz2 rfl (by decide) _ _ _ rfl hownr _ _ _ _ rfl (RV.of_own hown7) (all_one bV Wire.bV_one _) (by unfold maxLen; omega) (by omega) hb7w.size ?_; intro v8 w8 hown8 hgrow8 _; have hb8 := hb7w.grown hgrow8 hb7w.size (fun j hj => (hownr.lt j hj).1)))
              go_roundw
              case rel => exact ⟨k + 1, _, by omega, by go_num, HP2, by simp only [List.length_append]; omega, by simp only [List.length_append, List.map_append]; exact hown8, hb8⟩
              case measure => simp [intOf]; omega
            · obtain rfl : k = d.starts.length := by omega
              have hp2 := hp.out
              rw [List.drop_of_length_le (Nat.le_refl _), List.flatMap_nil, List.append_nil] at hp2
              subst hp2
              clear hp
              go_wp2
              go_ret
              exact ⟨⟨_, rfl, own_mono hown (by omega)⟩, hbw2.trans (hb.mono (by omega))⟩
end Go.Proofs.YtbdimfcdpkldpaaGreatDoor
