/- The contracts of an operand's put and of deed's Put. The contract of the reference's Bytes. The contracts of an operand's get and of deed's Get. The contract of deed's Get, its loop. -/
import Derived.Test.YtlgjbcmkhcgigaaDoorD7
import Derived.Test.YtlgjbcmkhcgigaaDoorLD3
import Derived.Test.YtlgjbcmkhcgigaaDoorLM1
import Derived.Test.YtlgjbcmkhcgigaaDoorLW1
import Derived.Test.YtlgjbcmkhcgigaaDoorD15
import Derived.Test.YtlgjbcmkhcgigaaDoorLD1
import Derived.Test.YtlgjbcmkhcgigaaDoorLW2
import Derived.Test.YtlgjbcmkhcgigaaDoorLB
namespace Go.Proofs.YtlgjbcmkhcgigaaDoor
open Go.RowKit
open Wire (WrAt WrStep wAdd)

/-- A step of a writer's, behind which it holds l. -/
def WrK (w w' : World) (B b most : Nat) (l : List UInt8) : Prop := ∃ v', WrAt w' B b most v' (some l) ∧ SbF B b w w'
theorem wr_keep {w w' : World} {B b most : Nat} {v : Value} {l bs : List UInt8} (h : WrAt w B b most v (some l)) (hs : WrStep w w' B b most v (wAdd most (some l) bs)) (hl : l.length + bs.length ≤ most) : WrK w w' B b most (l ++ bs) := by
  obtain ⟨v', h1, h2, _⟩ := hs
  have e : wAdd most (some l) bs = some (l ++ bs) := by unfold wAdd; rw [Option.bind_some, if_neg (by omega)]
  rw [e] at h1
  refine ⟨v', h1, h2.mono fun k _ hk => ?_⟩
  rcases hk with hk | hk
  · exact .inl hk
  · have hB := h.2.1 k hk
    obtain ⟨_, hown, _⟩ := h.2.2
    rcases hown.2 with ⟨rfl, _⟩ | ⟨g, cap, cur, rfl, _, hg, _⟩
    · cases hk
    · have e : g = k := by simpa [Value.ownBlock] using hk
      subst e
      exact .inr ⟨hB, cur, hg⟩
theorem WrK.trans {w w1 w2 : World} {B b most : Nat} {l l2 : List UInt8} (h : WrK w w1 B b most l) (k : WrK w1 w2 B b most l2) : WrK w w2 B b most l2 := by
  obtain ⟨_, _, hf⟩ := h
  obtain ⟨v, hv, hf2⟩ := k
  exact ⟨v, hv, hf.trans hf2⟩
theorem wr_blk {w : World} {B b most : Nat} {v : Value} {l : List UInt8} (h : WrAt w B b most v (some l)) : Blk w b 118 #[.int .i64 0, .int .i64 (most : Int), v] := h.2.2.1
theorem wr_no {w : World} {B b most : Nat} {v : Value} {l : List UInt8} (h : WrAt w B b most v (some l)) {e : TypeId} (he : e ≠ 118) : ∀ cs, w.heap[b]? ≠ some (.cells cs e (0, 0)) := by
  have hb := wr_blk h
  intro cs h'
  unfold Blk at hb
  rw [hb] at h'
  injection h' with h'
  injection h' with _ h'
  exact he h'.symm
theorem byte_wrap (x : Nat) : ((x : Int) % 256) = ((UInt8.ofNat x).toNat : Int) := by
  rw [UInt8.toNat_ofNat']
  simp

set_option maxHeartbeats 1000000 in
theorem put_any (o x : Nat) (ho : o < 7) (hx : x < 18446744073709551616) {B b most : Nat} {v : Value} {l : List UInt8} (hl : l.length + (putB o x).length ≤ most) (hm : most ≤ maxLen) (h50 : l.length ≤ 5000) (w : World) (h : WrAt w B b most v (some l)) :
    Calls Tryd.prog 109 #[.int .i64 o, .pointer (some ⟨b, 0, none⟩), .int .u64 x] w fun e w' => e = .returned (.tuple #[]) ∧ WrK w w' B b most (l ++ putB o x) := by
  have h5 : ∀ l', some l = some l' → l'.length ≤ 5000 := fun l' e => by cases e; exact h50
  have hmm : most ≤ maxLen := hm
  clear hm
  have HK : Hid (∀ w', WrStep w w' B b most v (wAdd most (some l) (putB o x)) → WrK w w' B b most (l ++ putB o x)) := Lib.hid (fun w' hs => wr_keep h hs hl)
  by_cases h2 : o ≤ 2
  · have hb := Wire.WByte_any w (UInt8.ofNat x) h5 hmm h
    rw [← byte_wrap] at hb
    rw [show putB o x = [UInt8.ofNat x] by unfold putB; rw [if_pos h2]] at HK ⊢
    clear h5 hmm h hx hl h50
    obtain rfl | rfl | rfl : o = 0 ∨ o = 1 ∨ o = 2 := by omega
    all_goals
      go_enter Tryd.func109, Tryd.ntmps109
      go_wp2_with (go_at_call 50; (with_reducible refine hb.mono ?_); clear hb; rintro e w' ⟨rfl, hs⟩)
      go_end0
      exact ⟨rfl, HK.out _ hs⟩
  · by_cases h6 : o = 6
    · subst h6
      have hb := Wire.WTruth_any w (x == 1) h5 hmm h
      rw [← int_one] at hb
      rw [show putB 6 x = Wire.truB (x == 1) from rfl, ← int_one] at HK ⊢
      clear h5 hmm h hx hl h50
      go_enter Tryd.func109, Tryd.ntmps109
      go_wp2_with (go_at_call 123; (with_reducible refine hb.mono ?_); clear hb; rintro e w' ⟨rfl, hs⟩)
      go_end0
      exact ⟨rfl, HK.out _ hs⟩
    · have hb := Wire.WNum_any w x hx h5 hmm h
      rw [show putB o x = Wire.numB x by unfold putB; rw [if_neg h2, if_neg h6]] at HK ⊢
      clear h5 hmm h hx hl h50
      obtain rfl | rfl | rfl : o = 3 ∨ o = 4 ∨ o = 5 := by omega
      all_goals
        go_enter Tryd.func109, Tryd.ntmps109
        go_wp2_with (go_at_call 85; (with_reducible refine hb.mono ?_); clear hb; rintro e w' ⟨rfl, hs⟩)
        go_end0
        exact ⟨rfl, HK.out _ hs⟩

set_option maxHeartbeats 400000 in
theorem Put_bad (d : Deed) (hd : d.ok) (hg : ¬ goodD d = true) {B b most : Nat} {v : Value} {l : List UInt8} (w : World) (h : WrAt w B b most v (some l)) :
    Calls Tryd.prog 86 #[.pointer (some ⟨b, 0, none⟩), d.val] w fun e w' => e = .returned (.tuple #[]) ∧ WrK w w' B b most l := by
  have hgood := Good_any d hd
  rw [show goodD d = false by simpa using hg] at hgood
  have hblk0 := Blk.new w 45 d.cells
  have hb := below_alloc1 w (.cells d.cells 45)
  have HW := Lib.hid h
  clear hg hd h
  simp only [Deed.val] at hgood ⊢
  go_enter Tryd.func86, Tryd.ntmps86
  go_wp2_with (first
    | (refine wpList_box_agg rfl 45 _ rfl d.cells rfl ?_)
    | (refine wpList_load_row rfl 45 _ rfl w.heap.size rfl 45 _ (0, 0) _ hblk0 Tryd.underlying45 rfl (sizeD _) ?_)
    | (go_at_call 31; (with_reducible refine (hgood _).mono ?_); rintro e w' ⟨rfl, hb2⟩))
  refine bodyPost_ret (results_none rfl _ _ _) rfl ?_
  have hbb := below_pre hb hb2
  exact ⟨rfl, v, HW.out.below hbb (Nat.le_refl _), SbF.of_below hbb⟩

theorem drop_len {L pre suf : List UInt8} (h : pre ++ suf = L) : pre.length + suf.length = L.length := by rw [← h, List.length_append]
set_option maxRecDepth 100000 in
set_option maxHeartbeats 2000000 in
theorem Put_good (d : Deed) (hd : d.ok) (hg : goodD d = true) {B b most : Nat} {v : Value} {l : List UInt8} (hl : l.length + 14 ≤ most) (hm : most ≤ maxLen) (h49 : l.length ≤ 4900) (w : World) (h : WrAt w B b most v (some l)) :
    Calls Tryd.prog 86 #[.pointer (some ⟨b, 0, none⟩), d.val] w fun e w' => e = .returned (.tuple #[]) ∧ WrK w w' B b most (l ++ bytesD d) := by
  have hop := good_op hg
  have hgood := Good_any d hd
  rw [hg] at hgood
  have hops := operands_any d.op hop
  have h7 := Lib.hid (opr_lt d.op hop)
  have h5 := opr_len d.op hop
  have hof := fun o ho7 => of_any o ho7 d hd
  have hofl := Lib.hid (fun o => ofD_lt o d hd)
  have h14 := bytesD_40 d hd hop
  have hb0 : ((d.op : Int) % 256) = ((UInt8.ofNat d.op.toNat).toNat : Int) := by
    rw [← byte_wrap]
    rcases isOp_cases hop with h | h | h | h | h | h | h | h | h | h | h <;> rw [h] <;> rfl
  have HB0 := Lib.hid hb0
  clear hb0
  have hB : Hid ([UInt8.ofNat d.op.toNat] ++ (opr d.op).flatMap (fun o => putB o (ofD o d)) = bytesD d) := Lib.hid rfl
  generalize bytesD d = L at *
  have hblk0 := Blk.new w 45 d.cells
  have hbel0 := below_alloc1 w (.cells d.cells 45)
  have hgb : w.heap.size ≠ b := by have := (wr_blk h).lt; omega
  have hBb : B ≤ b := h.1
  have hWB : B ≤ w.heap.size := by have := (wr_blk h).lt; omega
  clear hg hd hop
  simp only [Deed.val] at hgood hof ⊢
  generalize opr d.op = os at *
  have hc0 : (w.alloc (.cells d.cells 45)).cell? ⟨w.heap.size, 0, none⟩ = some (.int .i64 d.op) := hblk0.cell 0
  have h5k : ∀ l', some l = some l' → l'.length ≤ 5000 := fun l' e => by cases e; omega
  have hmm : most ≤ maxLen := hm
  clear hm
  have H := Lib.hid h
  clear h
  go_enter Tryd.func86, Tryd.ntmps86
  go_wp2_with (first
    | (refine wpList_box_agg rfl 45 _ rfl d.cells rfl ?_)
    | (refine wpList_load_row rfl 45 _ rfl w.heap.size rfl 45 _ (0, 0) _ hblk0 Tryd.underlying45 rfl (sizeD _) ?_)
    | (go_at_call 31; (with_reducible refine (hgood _).mono ?_); clear hgood; rintro e w1 ⟨rfl, hb1⟩; have hblk1 := hblk0.below hb1 hblk0.lt; have hc1 : w1.cell? ⟨w.heap.size, 0, none⟩ = some (.int .i64 d.op) := hblk1.cell 0; have hbw1 := below_pre hbel0 hb1; have hW1 := H.out.below hbw1 (Nat.le_refl _))
    | (go_at_call 50; rw [HB0.out]; refine (Wire.WByte_any _ (UInt8.ofNat d.op.toNat) h5k hmm hW1).mono ?_; rintro e w2 ⟨rfl, hs⟩; have hk2 := wr_keep hW1 hs (by simp; omega); obtain ⟨v2, hW2, hf2⟩ := id hk2; have hblk2 := hf2.blk hblk1 hgb (by decide); have hc2 : w2.cell? ⟨w.heap.size, 0, none⟩ = some (.int .i64 d.op) := hblk2.cell 0)
    | (go_at_call 69; (with_reducible refine (hops _).mono ?_); clear hops; rintro e w3 ⟨lv, rfl, hown3, hb3⟩; obtain ⟨p, c, rfl, _⟩ := id (RV.of_own hown3)))
  have hblk3 := hblk2.below hb3 hblk2.lt
  have hW3 := hW2.below hb3 (Nat.le_refl _)
  have hF3 : SbF B b w w3 := ((SbF.of_below hbw1).trans hf2).trans (SbF.of_below hb3)
  have hown3 := own_mono hown3 (Nat.zero_le w2.heap.size)
  clear hblk0 hblk1 hblk2 hc0 hc1 hc2 hb1 hb3 hbel0 hbw1 hW1 hW2 hf2 hs hk2
  go_loopw [18] (fun t wr => ∃ (k : Nat) (pre : List UInt8) (vr : Value), k ≤ os.length ∧ t = .int .i64 k ∧ Hid (pre ++ (os.drop k).flatMap (fun o => putB o (ofD o d)) = L) ∧ Hid (WrAt wr B b most vr (some (l ++ pre))) ∧ Blk wr w.heap.size 45 d.cells ∧ wr.ownsRow 0 102 1 (.slice p os.length c) os.length (os.map oV) ∧ SbF B b w wr) (fun t _ => os.length - (intOf t).toNat)
  case atStart => exact ⟨0, [UInt8.ofNat d.op.toNat], _, by omega, rfl, hB, Lib.hid hW3, hblk3, hown3, hF3⟩
  case round =>
    obtain ⟨k, pre, vr, hk, rfl, hp, hW, hblk, hown, hF⟩ := hrel
    by_cases hlt : k < os.length
    · obtain ⟨o, ho1⟩ : ∃ o, os[k]? = some o := ⟨_, List.getElem?_eq_getElem hlt⟩
      have ho7 := h7.out o (List.mem_of_getElem? ho1)
      have hp2 := hp.out
      rw [drop_cons os k o ho1, List.flatMap_cons, ← List.append_assoc] at hp2
      have hpl := drop_len hp2
      rw [List.length_append] at hpl
      have HP2 := Lib.hid hp2
      obtain ⟨bl, off, rfl, _, _, hcell0⟩ := (RV.of_own hown).at1 k (oV o) (by rw [List.getElem?_map, ho1]; rfl)
      have hcell : wr.cell? ⟨bl, off + k, none⟩ = some (.int .i64 (o : Int)) := hcell0
      have hofk := hof o ho7 wr
      have hxl := hofl.out o
      have hlen : (l ++ pre).length + (putB o (ofD o d)).length ≤ most := by rw [List.length_append]; omega
      have h50 : (l ++ pre).length ≤ 5000 := by rw [List.length_append]; omega
      have H50 := Lib.hid h50
      clear h50
      clear hp hp2 hpl hcell0 ho1
      have HL := Lib.hid hlen
      have HX := Lib.hid hxl
      clear hlen hxl
      go_wp2_with (first
        | (refine wpList_load_row rfl 45 _ rfl w.heap.size rfl 45 _ (0, 0) _ hblk Tryd.underlying45 rfl (sizeD _) ?_)
        | (go_at_call 71; (with_reducible refine hofk.mono ?_); clear hofk; rintro e w5 ⟨rfl, hb5⟩; have hW5 := hW.out.below hb5 (Nat.le_refl _); have hblk5 := hblk.below hb5 hblk.lt; have hown5 := ownsRow_below hown hb5 (Nat.le_refl _); have hF5 := hF.trans (SbF.of_below hb5))
        | (go_at_call 109; refine (put_any o _ ho7 HX.out HL.out hmm H50.out _ hW5).mono ?_; rintro e w6 ⟨rfl, v6, hW6, hF6⟩))
      go_roundw
      case rel => exact ⟨k + 1, _, v6, by omega, by go_num, HP2, Lib.hid (by rw [← List.append_assoc]; exact hW6), hF6.blk hblk5 hgb (by decide), hF6.own hown5 (by decide) (by decide) (wr_no hW5 (by decide)), hF5.trans hF6⟩
      case measure => simp [intOf]; omega
    · obtain rfl : k = os.length := by omega
      have hp2 := hp.out
      rw [List.drop_length, List.flatMap_nil, List.append_nil] at hp2
      subst hp2
      clear hp
      go_wp2
      go_end0
      exact ⟨rfl, vr, hW.out, hF⟩
end Go.Proofs.YtlgjbcmkhcgigaaDoor

namespace Go.Proofs.YtlgjbcmkhcgigaaDoor
open Go.RowKit

theorem byte_of (z : Int) (h0 : 0 ≤ z) : z % 256 = ((UInt8.ofNat (wrapN z)).toNat : Int) := by
  rw [← byte_wrap, wrapN_back z h0]

set_option maxRecDepth 100000 in
set_option maxHeartbeats 8000000 in
theorem RBytes_any (d : Deed) (hd : d.ok) (hg : goodD d = true) (w : World) :
    Calls Tryd.prog 57 #[d.val] w fun e w' => ∃ v, e = .returned v ∧ w'.ownsRow w.heap.size 5 1 v (bytesD d).length ((bytesD d).map Wire.bV) ∧ Below w.heap.size w w' := by
  obtain ⟨i0, hi0, hz0, hz1, hz2⟩ := info_parts Wire.infoB
  have hop := good_op hg
  have hparts := Parts_any d.op hop
  have h7 := Lib.hid (opr_lt d.op hop)
  have h5 := opr_len d.op hop
  have hix := Lib.hid (parts_ix d.op)
  have hsz := partsL_size d.op
  have h14 := bytesD_40 d hd hop
  have hrange : 0 ≤ d.a ∧ 0 ≤ d.b ∧ 0 ≤ d.r := by
    unfold goodD rangeD at hg
    simp only [Bool.and_eq_true, decide_eq_true_eq] at hg
    exact ⟨hg.2.1.1.1.1.1, hg.2.1.1.1.2, hg.2.1.2⟩
  have ha := Lib.hid (byte_of d.a hrange.1)
  have hb := Lib.hid (byte_of d.b hrange.2.1)
  have hr := Lib.hid (byte_of d.r hrange.2.2)
  have ho0 : ((d.op : Int) % 256) = ((UInt8.ofNat d.op.toNat).toNat : Int) := by
    rw [← byte_wrap]
    rcases isOp_cases hop with h | h | h | h | h | h | h | h | h | h | h <;> rw [h] <;> rfl
  have HO0 := Lib.hid ho0
  have hL : Hid ([UInt8.ofNat d.op.toNat] ++ (opr d.op).flatMap (fun o => putB o (ofD o d)) = bytesD d) := Lib.hid rfl
  generalize bytesD d = L at *
  have hblk0 := Blk.new w 45 d.cells
  have hb0 := below_alloc1 w (.cells d.cells 45)
  clear hg hop hrange ho0
  simp only [Deed.val]
  unfold sV at hparts
  generalize (ByteArray.mk (partsL d.op).toArray) = s at *
  generalize opr d.op = os at *
  have hc0 : (w.alloc (.cells d.cells 45)).cell? ⟨w.heap.size, 0, none⟩ = some (.int .i64 d.op) := hblk0.cell 0
  have hblk1 := hblk0.alloc (.cells #[.int .u8 (d.op % 256)] 5)
  have hc1 : ((w.alloc (.cells d.cells 45)).alloc (.cells #[.int .u8 (d.op % 256)] 5)).cell? ⟨w.heap.size, 0, none⟩ = some (.int .i64 d.op) := hblk1.cell 0
  have hbel1 := below_alloc2 w (.cells d.cells 45) (.cells #[.int .u8 (d.op % 256)] 5)
  have hl1 := World.ownsRow_lit (e := 5) (size := 1) (w.alloc (.cells d.cells 45)) #[.int .u8 (d.op % 256)] 1 (Nat.le_refl _) (by decide) rfl
  go_enter Tryd.func57, Tryd.ntmps57
  go_wp2_with (first
    | (refine wpList_box_agg rfl 45 _ rfl d.cells rfl ?_)
    | (go_at_call 73; (with_reducible refine (hparts _).mono ?_); clear hparts; rintro e w3 ⟨rfl, hb3⟩))
  have hblk3 := hblk1.below hb3 hblk1.lt
  have hbw3 : Below w.heap.size w w3 := below_pre hbel1 hb3
  have hown3 := own_mono (ownsRow_below hl1 hb3 (Nat.le_refl _)) (show w.heap.size ≤ _ by simp)
  rw [show (w.alloc (.cells d.cells 45)).heap.size = w.heap.size + 1 by simp] at hown3
  clear hblk0 hblk1 hc0 hc1 hb0 hb3 hbel1 hl1
  go_loopw [3, 5] (fun v t wr => ∃ (k : Nat) (pre : List UInt8), k ≤ os.length ∧ t = .int .i64 k ∧ Hid (pre ++ (os.drop k).flatMap (fun o => putB o (ofD o d)) = L) ∧ wr.ownsRow w.heap.size 5 1 v pre.length (pre.map Wire.bV) ∧ Blk wr w.heap.size 45 d.cells ∧ Below w.heap.size w wr) (fun _ t _ => os.length - (intOf t).toNat)
  case atStart => exact ⟨0, [UInt8.ofNat d.op.toNat], by omega, rfl, hL, by rw [List.map_singleton, Wire.bV, ← HO0.out]; exact hown3, hblk3, hbw3⟩
  case round =>
    clear hL hown3
    obtain ⟨k, pre, hk, rfl, hl, hown, hblk, hbw⟩ := hrel
    have hl2 := hl.out
    have hpl := drop_len hl2
    clear hl
    by_cases hlt : k < os.length
    · obtain ⟨o, ho1⟩ : ∃ o, os[k]? = some o := ⟨_, List.getElem?_eq_getElem hlt⟩
      have ho7 := h7.out o (List.mem_of_getElem? ho1)
      rw [drop_cons os k o ho1, List.flatMap_cons, ← List.append_assoc] at hl2
      have hi := hix.out k o ho1
      have hbs := hbw.size
      have hp14 : pre.length ≤ 14 := by omega
      clear ho1 hpl
      obtain ⟨pv, cv, rfl, _⟩ := id (RV.of_own hown)
      rcases o_cases ho7 with rfl | rfl | rfl | rfl | rfl | rfl | rfl
      · replace hi : ∀ W, (Instr.index 9 (.string s) (.int .i64 (k : Int))).run Tryd.prog W = .ok (.int .u8 65) W := hi
        have hcell : wr.cell? ⟨w.heap.size, 1, none⟩ = some (.int .i64 d.a) := hblk.cell 1
        have HL2 : Hid ((pre ++ [UInt8.ofNat (wrapN d.a)]) ++ (os.drop (k + 1)).flatMap (fun o => putB o (ofD o d)) = L) := Lib.hid hl2
        clear hl2
        go_wp2_with (at_builtin; refine wpList_append_lits rfl _ _ 37 rfl w.heap.size 5 i0 (.int .u8 0) 1 Tryd.underlying37 hi0 hz0 hz1 hz2 rfl (by decide) hown rfl _ rfl rfl rfl (by omega) (by omega) ?_; intro v' w6 hown6 hb6 _ hf6)
        go_roundw
        case rel => exact ⟨k + 1, pre ++ [UInt8.ofNat (wrapN d.a)], by omega, by go_num, HL2, by rw [List.length_append, List.map_append, List.map_singleton, Wire.bV, ← ha.out]; exact hown6, hblk.foot hf6 (own_ne_blk hown hblk (by decide)), hbw.trans hb6⟩
        case measure => simp [intOf]; omega
      · replace hi : ∀ W, (Instr.index 9 (.string s) (.int .i64 (k : Int))).run Tryd.prog W = .ok (.int .u8 66) W := hi
        have hcell : wr.cell? ⟨w.heap.size, 2, none⟩ = some (.int .i64 d.b) := hblk.cell 2
        have HL2 : Hid ((pre ++ [UInt8.ofNat (wrapN d.b)]) ++ (os.drop (k + 1)).flatMap (fun o => putB o (ofD o d)) = L) := Lib.hid hl2
        clear hl2
        go_wp2_with (at_builtin; refine wpList_append_lits rfl _ _ 37 rfl w.heap.size 5 i0 (.int .u8 0) 1 Tryd.underlying37 hi0 hz0 hz1 hz2 rfl (by decide) hown rfl _ rfl rfl rfl (by omega) (by omega) ?_; intro v' w6 hown6 hb6 _ hf6)
        go_roundw
        case rel => exact ⟨k + 1, pre ++ [UInt8.ofNat (wrapN d.b)], by omega, by go_num, HL2, by rw [List.length_append, List.map_append, List.map_singleton, Wire.bV, ← hb.out]; exact hown6, hblk.foot hf6 (own_ne_blk hown hblk (by decide)), hbw.trans hb6⟩
        case measure => simp [intOf]; omega
      · replace hi : ∀ W, (Instr.index 9 (.string s) (.int .i64 (k : Int))).run Tryd.prog W = .ok (.int .u8 82) W := hi
        have hcell : wr.cell? ⟨w.heap.size, 3, none⟩ = some (.int .i64 d.r) := hblk.cell 3
        have HL2 : Hid ((pre ++ [UInt8.ofNat (wrapN d.r)]) ++ (os.drop (k + 1)).flatMap (fun o => putB o (ofD o d)) = L) := Lib.hid hl2
        clear hl2
        go_wp2_with (at_builtin; refine wpList_append_lits rfl _ _ 37 rfl w.heap.size 5 i0 (.int .u8 0) 1 Tryd.underlying37 hi0 hz0 hz1 hz2 rfl (by decide) hown rfl _ rfl rfl rfl (by omega) (by omega) ?_; intro v' w6 hown6 hb6 _ hf6)
        go_roundw
        case rel => exact ⟨k + 1, pre ++ [UInt8.ofNat (wrapN d.r)], by omega, by go_num, HL2, by rw [List.length_append, List.map_append, List.map_singleton, Wire.bV, ← hr.out]; exact hown6, hblk.foot hf6 (own_ne_blk hown hblk (by decide)), hbw.trans hb6⟩
        case measure => simp [intOf]; omega
      · replace hi : ∀ W, (Instr.index 9 (.string s) (.int .i64 (k : Int))).run Tryd.prog W = .ok (.int .u8 78) W := hi
        have hcell : wr.cell? ⟨w.heap.size, 4, none⟩ = some (.int .u64 (d.n : Int)) := hblk.cell 4
        have hcl := Wire.RNum_any d.n hd.n wr
        have hln : (Wire.numB d.n).length ≤ 9 := Wire.numB_len _ hd.n
        rw [show putB 3 (ofD 3 d) = Wire.numB d.n from rfl] at hl2
        generalize Wire.numB d.n = q at *
        have HL2 : Hid ((pre ++ q) ++ (os.drop (k + 1)).flatMap (fun o => putB o (ofD o d)) = L) := Lib.hid hl2
        clear hl2
        go_wp2_with (first
          | (go_at_call 56; (with_reducible refine hcl.mono ?_); clear hcl; rintro e w5 ⟨v5, rfl, hown5, hb5⟩; have hr5 := RV.of_own hown5; obtain ⟨p5, c5, rfl, _⟩ := id hr5; have hownv := ownsRow_below hown hb5 (Nat.le_refl _))
          | (at_builtin; refine wpList_append_rv _ rfl _ _ 37 rfl w.heap.size 5 i0 (.int .u8 0) 1 1 Tryd.underlying37 hi0 hz0 hz1 hz2 rfl (by decide) _ _ _ rfl hownv _ _ _ _ rfl hr5 (all_one Wire.bV Wire.bV_one _) (by unfold maxLen; omega) (by omega) (by have := hb5.size; omega) ?_; intro v' w6 hown6 hgrow0 _; have hgrow : World.grownBy w5 w6 (Value.slice pv pre.length cv).ownBlock := hgrow0; clear hgrow0))
        have hblk5 := hblk.below hb5 hblk.lt
        have hbw5 : Below w.heap.size w w5 := hbw.trans (hb5.mono hbw.size)
        go_roundw
        case rel => exact ⟨k + 1, pre ++ q, by omega, by go_num, HL2, by rw [List.length_append, List.map_append]; exact hown6, hblk5.foot (Foot.of_grown hgrow) (own_ne_blk hownv hblk5 (by decide)), hbw5.grown hgrow hbw5.size (fun j hj => (hownv.lt j hj).1)⟩
        case measure => simp [intOf]; omega
      · replace hi : ∀ W, (Instr.index 9 (.string s) (.int .i64 (k : Int))).run Tryd.prog W = .ok (.int .u8 78) W := hi
        have hcell : wr.cell? ⟨w.heap.size, 4, none⟩ = some (.int .u64 (d.n : Int)) := hblk.cell 4
        have hcl := Wire.RNum_any d.n hd.n wr
        have hln : (Wire.numB d.n).length ≤ 9 := Wire.numB_len _ hd.n
        rw [show putB 4 (ofD 4 d) = Wire.numB d.n from rfl] at hl2
        generalize Wire.numB d.n = q at *
        have HL2 : Hid ((pre ++ q) ++ (os.drop (k + 1)).flatMap (fun o => putB o (ofD o d)) = L) := Lib.hid hl2
        clear hl2
        go_wp2_with (first
          | (go_at_call 56; (with_reducible refine hcl.mono ?_); clear hcl; rintro e w5 ⟨v5, rfl, hown5, hb5⟩; have hr5 := RV.of_own hown5; obtain ⟨p5, c5, rfl, _⟩ := id hr5; have hownv := ownsRow_below hown hb5 (Nat.le_refl _))
          | (at_builtin; refine wpList_append_rv _ rfl _ _ 37 rfl w.heap.size 5 i0 (.int .u8 0) 1 1 Tryd.underlying37 hi0 hz0 hz1 hz2 rfl (by decide) _ _ _ rfl hownv _ _ _ _ rfl hr5 (all_one Wire.bV Wire.bV_one _) (by unfold maxLen; omega) (by omega) (by have := hb5.size; omega) ?_; intro v' w6 hown6 hgrow0 _; have hgrow : World.grownBy w5 w6 (Value.slice pv pre.length cv).ownBlock := hgrow0; clear hgrow0))
        have hblk5 := hblk.below hb5 hblk.lt
        have hbw5 : Below w.heap.size w w5 := hbw.trans (hb5.mono hbw.size)
        go_roundw
        case rel => exact ⟨k + 1, pre ++ q, by omega, by go_num, HL2, by rw [List.length_append, List.map_append]; exact hown6, hblk5.foot (Foot.of_grown hgrow) (own_ne_blk hownv hblk5 (by decide)), hbw5.grown hgrow hbw5.size (fun j hj => (hownv.lt j hj).1)⟩
        case measure => simp [intOf]; omega
      · replace hi : ∀ W, (Instr.index 9 (.string s) (.int .i64 (k : Int))).run Tryd.prog W = .ok (.int .u8 77) W := hi
        have hcell : wr.cell? ⟨w.heap.size, 5, none⟩ = some (.int .u64 (d.mask : Int)) := hblk.cell 5
        have hcl := Wire.RNum_any d.mask hd.mask wr
        have hln : (Wire.numB d.mask).length ≤ 9 := Wire.numB_len _ hd.mask
        rw [show putB 5 (ofD 5 d) = Wire.numB d.mask from rfl] at hl2
        generalize Wire.numB d.mask = q at *
        have HL2 : Hid ((pre ++ q) ++ (os.drop (k + 1)).flatMap (fun o => putB o (ofD o d)) = L) := Lib.hid hl2
        clear hl2
        go_wp2_with (first
          | (go_at_call 56; (with_reducible refine hcl.mono ?_); clear hcl; rintro e w5 ⟨v5, rfl, hown5, hb5⟩; have hr5 := RV.of_own hown5; obtain ⟨p5, c5, rfl, _⟩ := id hr5; have hownv := ownsRow_below hown hb5 (Nat.le_refl _))
          | (at_builtin; refine wpList_append_rv _ rfl _ _ 37 rfl w.heap.size 5 i0 (.int .u8 0) 1 1 Tryd.underlying37 hi0 hz0 hz1 hz2 rfl (by decide) _ _ _ rfl hownv _ _ _ _ rfl hr5 (all_one Wire.bV Wire.bV_one _) (by unfold maxLen; omega) (by omega) (by have := hb5.size; omega) ?_; intro v' w6 hown6 hgrow0 _; have hgrow : World.grownBy w5 w6 (Value.slice pv pre.length cv).ownBlock := hgrow0; clear hgrow0))
        have hblk5 := hblk.below hb5 hblk.lt
        have hbw5 : Below w.heap.size w w5 := hbw.trans (hb5.mono hbw.size)
        go_roundw
        case rel => exact ⟨k + 1, pre ++ q, by omega, by go_num, HL2, by rw [List.length_append, List.map_append]; exact hown6, hblk5.foot (Foot.of_grown hgrow) (own_ne_blk hownv hblk5 (by decide)), hbw5.grown hgrow hbw5.size (fun j hj => (hownv.lt j hj).1)⟩
        case measure => simp [intOf]; omega
      · replace hi : ∀ W, (Instr.index 9 (.string s) (.int .i64 (k : Int))).run Tryd.prog W = .ok (.int .u8 76) W := hi
        have hcell : wr.cell? ⟨w.heap.size, 6, none⟩ = some (.bool d.loose) := hblk.cell 6
        have hcl := Wire.RTruth_any d.loose wr
        have hln : (Wire.truB d.loose).length ≤ 9 := by unfold Wire.truB; simp
        rw [show putB 6 (ofD 6 d) = Wire.truB d.loose by unfold putB ofD; cases d.loose <;> rfl] at hl2
        generalize Wire.truB d.loose = q at *
        have HL2 : Hid ((pre ++ q) ++ (os.drop (k + 1)).flatMap (fun o => putB o (ofD o d)) = L) := Lib.hid hl2
        clear hl2
        go_wp2_with (first
          | (go_at_call 94; (with_reducible refine hcl.mono ?_); clear hcl; rintro e w5 ⟨v5, rfl, hown5, hb5⟩; have hr5 := RV.of_own hown5; obtain ⟨p5, c5, rfl, _⟩ := id hr5; have hownv := ownsRow_below hown hb5 (Nat.le_refl _))
          | (at_builtin; refine wpList_append_rv _ rfl _ _ 37 rfl w.heap.size 5 i0 (.int .u8 0) 1 1 Tryd.underlying37 hi0 hz0 hz1 hz2 rfl (by decide) _ _ _ rfl hownv _ _ _ _ rfl hr5 (all_one Wire.bV Wire.bV_one _) (by unfold maxLen; omega) (by omega) (by have := hb5.size; omega) ?_; intro v' w6 hown6 hgrow0 _; have hgrow : World.grownBy w5 w6 (Value.slice pv pre.length cv).ownBlock := hgrow0; clear hgrow0))
        have hblk5 := hblk.below hb5 hblk.lt
        have hbw5 : Below w.heap.size w w5 := hbw.trans (hb5.mono hbw.size)
        go_roundw
        case rel => exact ⟨k + 1, pre ++ q, by omega, by go_num, HL2, by rw [List.length_append, List.map_append]; exact hown6, hblk5.foot (Foot.of_grown hgrow) (own_ne_blk hownv hblk5 (by decide)), hbw5.grown hgrow hbw5.size (fun j hj => (hownv.lt j hj).1)⟩
        case measure => simp [intOf]; omega
    · obtain rfl : k = os.length := by omega
      rw [List.drop_length, List.flatMap_nil, List.append_nil] at hl2
      subst hl2
      go_wp2
      go_ret
      exact ⟨_, rfl, hown, hbw⟩
end Go.Proofs.YtlgjbcmkhcgigaaDoor

namespace Go.Proofs.YtlgjbcmkhcgigaaDoor
open Go.RowKit
open Wire (RS rdByte rdNum truth RdAt RdOut)

set_option maxHeartbeats 1000000 in
theorem get_any (o r : Nat) (ho : o < 7) (st : RS) (w : World) (h : RdAt w r st) :
    Calls Tryd.prog 111 #[.int .i64 o, .pointer (some ⟨r, 0, none⟩)] w fun e w' => e = .returned (.int .u64 ((getO o st).2 : Nat)) ∧ RdOut w w' r (getO o st).1 := by
  by_cases h2 : o ≤ 2
  · have hb := Wire.RByte_any r st w h
    have hs := Wire.rdByte_snd st
    rw [show getO o st = rdByte st by unfold getO; rw [if_pos h2]]
    generalize rdByte st = q at *
    clear h
    obtain rfl | rfl | rfl : o = 0 ∨ o = 1 ∨ o = 2 := by omega
    all_goals
      go_enter Tryd.func111, Tryd.ntmps111
      go_wp2_with (go_at_call 52; (with_reducible refine hb.mono ?_); clear hb; rintro e w' ⟨rfl, hs⟩)
      go_ret
      exact ⟨rfl, hs⟩
  · by_cases h6 : o = 6
    · subst h6
      have hb := Wire.RTruth_any' r st w h
      rw [show getO 6 st = ((truth (rdByte st)).1, if (truth (rdByte st)).2 = true then 1 else 0) from rfl]
      generalize truth (rdByte st) = q at *
      obtain ⟨q1, q2⟩ := q
      clear h
      cases q2
      all_goals
        go_enter Tryd.func111, Tryd.ntmps111
        go_wp2_with (go_at_call 124; (with_reducible refine hb.mono ?_); clear hb; rintro e w' ⟨rfl, hs⟩)
        go_ret
        exact ⟨rfl, hs⟩
    · have hb := Wire.RdNum_any r st w h
      rw [show getO o st = rdNum st by unfold getO; rw [if_neg h2, if_neg h6]]
      generalize rdNum st = q at *
      clear h
      obtain rfl | rfl | rfl : o = 3 ∨ o = 4 ∨ o = 5 := by omega
      all_goals
        go_enter Tryd.func111, Tryd.ntmps111
        go_wp2_with (go_at_call 91; (with_reducible refine hb.mono ?_); clear hb; rintro e w' ⟨rfl, hs⟩)
        go_ret
        exact ⟨rfl, hs⟩

set_option maxHeartbeats 400000 in
theorem Get_nil (w : World) :
    Calls Tryd.prog 93 #[.pointer none] w fun e w' => e = .returned (.tuple #[.agg zeroD.cells, .int .i64 14]) ∧ Below w.heap.size w w' := by
  have hbr0 := Blk.new w 45 zeroD.cells
  have hb0 := below_alloc1 w (.cells zeroD.cells 45)
  go_enter Tryd.func93, Tryd.ntmps93
  go_wp2_with (first
    | (refine wpList_alloc_agg rfl 45 rfl zeroD.cells zeroR ?_)
    | (go_at_call 52; (with_reducible refine (Wire.RByte_nil _).mono ?_); rintro e w' ⟨rfl, rfl⟩)
    | (go_at_call 92; (with_reducible refine (Wire.Err_nil _).mono ?_); rintro e w' ⟨rfl, rfl⟩)
    | (refine wpList_store_row rfl 45 _ _ rfl w.heap.size zeroD.cells rfl rfl 45 _ hbr0 (sizeD _) rfl (oneD _) ?_))
  refine bodyPost_ret (results_row_tmp rfl _ _ w.heap.size 45 zeroD.cells (0, 0) _ rfl (hbr0.row _) Tryd.underlying45 rfl (sizeD _)) rfl ?_
  exact ⟨rfl, hb0.trans (foot_row _ (Nat.le_refl _))⟩

theorem Foot.row {S : Nat → Prop} {w w1 : World} (h : Foot S w w1) {g : Nat} (hg : w.heap.size ≤ g) (cs : Array Value) : Foot S w (w1.setRow g cs) := h.then_ (foot_setRow w1 g cs) (fun x (hx : x = g) => .inr (by omega))
theorem rd_row {w : World} {r g : Nat} {st : RS} (h : RdAt w r st) (hg : r < g) (cs : Array Value) : RdAt (w.setRow g cs) r st := h.under (foot_row (B := g) cs (Nat.le_refl _)) hg

section
variable (r : Nat) (st : RS) (w : World) (h : RdAt w r st)
include h
set_option maxHeartbeats 1000000 in
theorem Get_err (hc : ¬ (rdByte st).1.code = 0) :
    Calls Tryd.prog 93 #[.pointer (some ⟨r, 0, none⟩)] w fun e w' => e = .returned (.tuple #[.agg zeroD.cells, .int .i64 ((rdByte st).1.code : Int)]) ∧ RdOut w w' r (rdByte st).1 := by
  have hbr0 := Blk.new w 45 zeroD.cells
  have hrl := h.lt
  have h0 := h.below (below_alloc1 w (.cells zeroD.cells 45)) (Nat.le_refl _)
  have F0 := (Foot.refl (fun k => k = r) w).alloc (.cells zeroD.cells 45)
  have hb := Wire.RByte_any r st _ h0
  have hs := Wire.rdByte_snd st
  generalize rdByte st = q at *
  have he := fun W hW => Wire.Err_any r q.1 W hW
  have ty : ((q.1.code : Int) != 0) = true := by simp; omega
  clear h h0 hc
  go_enter Tryd.func93, Tryd.ntmps93
  go_wp2_with (first
    | (refine wpList_alloc_agg rfl 45 rfl zeroD.cells zeroR ?_)
    | (go_at_call 52; (with_reducible refine hb.mono ?_); clear hb; rintro e w1 ⟨rfl, h1⟩; have hbr1 := hbr0.foot h1.2 (by omega))
    | (go_at_call 92; refine (he _ h1.1).mono ?_; clear he; rintro e w2 ⟨rfl, rfl⟩)
    | (refine wpList_store_row rfl 45 _ _ rfl w.heap.size zeroD.cells rfl rfl 45 _ hbr1 (sizeD _) rfl (oneD _) ?_))
  refine bodyPost_ret (results_row_tmp rfl _ _ w.heap.size 45 zeroD.cells (0, 0) _ rfl (hbr1.row _) Tryd.underlying45 rfl (sizeD _)) rfl ?_
  exact ⟨rfl, rd_row h1.1 hrl _, (F0.trans h1.2).row (Nat.le_refl _) _⟩
set_option maxHeartbeats 1000000 in
theorem Get_op (hc : (rdByte st).1.code = 0) (ho : ¬ isOp (rdByte st).2 = true) :
    Calls Tryd.prog 93 #[.pointer (some ⟨r, 0, none⟩)] w fun e w' => e = .returned (.tuple #[.agg zeroD.cells, .int .i64 3]) ∧ RdOut w w' r (rdByte st).1 := by
  have hbr0 := Blk.new w 45 zeroD.cells
  have hrl := h.lt
  have h0 := h.below (below_alloc1 w (.cells zeroD.cells 45)) (Nat.le_refl _)
  have F0 := (Foot.refl (fun k => k = r) w).alloc (.cells zeroD.cells 45)
  have hb := Wire.RByte_any r st _ h0
  have hs := Wire.rdByte_snd st
  have hop := isOp_any (rdByte st).2
  rw [show isOp (rdByte st).2 = false by simpa using ho] at hop
  generalize rdByte st = q at *
  have he : ∀ W, RdAt W r q.1 → Calls Tryd.prog 92 #[.pointer (some ⟨r, 0, none⟩)] W fun e w' => e = .returned (.int .i64 0) ∧ W = w' := fun W hW => by have := Wire.Err_any r q.1 W hW; rw [hc] at this; exact this
  clear h h0 hc ho
  go_enter Tryd.func93, Tryd.ntmps93
  go_wp2_with (first
    | (refine wpList_alloc_agg rfl 45 rfl zeroD.cells zeroR ?_)
    | (go_at_call 52; (with_reducible refine hb.mono ?_); clear hb; rintro e w1 ⟨rfl, h1⟩; have hbr1 := hbr0.foot h1.2 (by omega))
    | (go_at_call 92; refine (he _ h1.1).mono ?_; clear he; rintro e w2 ⟨rfl, rfl⟩)
    | (go_at_call 60; refine (hop _).mono ?_; clear hop; rintro e w2 ⟨rfl, rfl⟩)
    | (refine wpList_store_row rfl 45 _ _ rfl w.heap.size zeroD.cells rfl rfl 45 _ hbr1 (sizeD _) rfl (oneD _) ?_))
  refine bodyPost_ret (results_row_tmp rfl _ _ w.heap.size 45 zeroD.cells (0, 0) _ rfl (hbr1.row _) Tryd.underlying45 rfl (sizeD _)) rfl ?_
  exact ⟨rfl, rd_row h1.1 hrl _, (F0.trans h1.2).row (Nat.le_refl _) _⟩
end
end Go.Proofs.YtlgjbcmkhcgigaaDoor

namespace Go.Proofs.YtlgjbcmkhcgigaaDoor
open Go.RowKit
open Wire (RS rdByte rdNum truth RdAt RdOut)

theorem getO_lt (o : Nat) (st : RS) : (getO o st).2 < 18446744073709551616 := by
  unfold getO
  split
  · have := Wire.rdByte_snd st; omega
  · split
    · show (if (truth (rdByte st)).2 = true then 1 else 0) < 18446744073709551616
      split <;> omega
    · exact Wire.rdNum_lt st

set_option maxRecDepth 100000 in
set_option maxHeartbeats 4000000 in
theorem Get_rest (r : Nat) (st : RS) (w : World) (h : RdAt w r st) (hc : (rdByte st).1.code = 0) (ho : isOp (rdByte st).2 = true) (D : Deed) (y : Nat) (S2 : RS)
    (hR : getRest (rdByte st).2 (rdByte st).1 = (S2, D, y)) :
    Calls Tryd.prog 93 #[.pointer (some ⟨r, 0, none⟩)] w fun e w' => e = .returned (.tuple #[.agg D.cells, .int .i64 (y : Int)]) ∧ RdOut w w' r S2 := by
  obtain ⟨i0, hi, hz0, hz1, hz2⟩ := info_parts infoU
  have hbr0 := Blk.new w 45 zeroD.cells
  have hrl := h.lt
  have h0 := h.below (below_alloc1 w (.cells zeroD.cells 45)) (Nat.le_refl _)
  have F0 := (Foot.refl (fun k => k = r) w).alloc (.cells zeroD.cells 45)
  have hb := Wire.RByte_any r st _ h0
  have hs := Wire.rdByte_snd st
  have hop := isOp_any (rdByte st).2
  rw [ho] at hop
  have hops := operands_any ((rdByte st).2 : Int) ho
  have h7 := Lib.hid (opr_lt ((rdByte st).2 : Int) ho)
  have h5 := opr_len ((rdByte st).2 : Int) ho
  have hbu := fun xs hx v G W hv => build_any ((rdByte st).2 : Int) ho xs hx v G W hv
  generalize rdByte st = q at *
  have he : ∀ W, RdAt W r q.1 → Calls Tryd.prog 92 #[.pointer (some ⟨r, 0, none⟩)] W fun e w' => e = .returned (.int .i64 0) ∧ W = w' := fun W hW => by have := Wire.Err_any r q.1 W hW; rw [hc] at this; exact this
  obtain ⟨q1, k0⟩ := q
  simp only at hb hs hop hops h7 h5 hbu he hR
  unfold getRest at hR
  have hll := getAll_len (opr (k0 : Int)) q1
  have hA : getAll ((opr (k0 : Int)).drop 0) q1 = getAll (opr (k0 : Int)) q1 := rfl
  generalize getAll (opr (k0 : Int)) q1 = A at *
  obtain ⟨A1, A2⟩ := A
  simp only [Deed.val] at hR hll hbu
  generalize opr (k0 : Int) = os at *
  have HA1 : Hid ((getAll (os.drop 0) q1).1 = A1) := Lib.hid (by rw [hA])
  have HA2 : Hid ([] ++ (getAll (os.drop 0) q1).2 = A2) := Lib.hid (by rw [hA]; rfl)
  have HR := Lib.hid hR
  have HBU := Lib.hid hbu
  clear h h0 hc ho hR hbu hA
  go_enter Tryd.func93, Tryd.ntmps93
  go_wp2_with (first
    | (refine wpList_alloc_agg rfl 45 rfl zeroD.cells zeroR ?_)
    | (go_at_call 52; (with_reducible refine hb.mono ?_); clear hb; rintro e w1 ⟨rfl, h1⟩; have hbr1 := hbr0.foot h1.2 (by omega))
    | (go_at_call 92; refine (he _ h1.1).mono ?_; clear he; rintro e w2 ⟨rfl, rfl⟩)
    | (go_at_call 60; refine (hop _).mono ?_; clear hop; rintro e w2 ⟨rfl, rfl⟩)
    | (go_at_call 69; (with_reducible refine (hops _).mono ?_); clear hops; rintro e w3 ⟨lv, rfl, hown3, hb3⟩; obtain ⟨p, c, rfl, _⟩ := id (RV.of_own hown3)))
  have hbr3 := hbr1.below hb3 hbr1.lt
  have hrd3 := h1.1.below hb3 (Nat.le_refl _)
  have F3 : Foot (fun k => k = r) w w3 := (F0.trans h1.2).trans (Foot.of_below _ hb3)
  have hs1 : w.heap.size + 1 ≤ w1.heap.size := by have := h1.2.size; simpa using this
  have hs3 := hb3.size
  clear hbr0 hbr1 F0 h1 hb3
  go_loopw [6, 26] (fun v t wr => ∃ (k : Nat) (pre : List Nat) (sk : RS), k ≤ os.length ∧ t = .int .i64 k ∧ pre.length = k ∧ Hid ((getAll (os.drop k) sk).1 = A1) ∧ Hid (pre ++ (getAll (os.drop k) sk).2 = A2) ∧ Hid (RdAt wr r sk) ∧ wr.ownsRow w3.heap.size 24 1 v k (pre.map uV) ∧ Foot (fun k => k = r) w3 wr) (fun _ t _ => os.length - (intOf t).toNat)
  case atStart => exact ⟨0, [], q1, by omega, rfl, rfl, HA1, HA2, Lib.hid hrd3, World.ownsRow_nil _ _ _ _, Foot.refl _ _⟩
  case round =>
    obtain ⟨k, pre, sk, hk, rfl, hpre, ha1, ha2, hrd, hown, hfoot⟩ := hrel
    have hsz := hfoot.size
    by_cases hlt : k < os.length
    · obtain ⟨o, ho1⟩ : ∃ o, os[k]? = some o := ⟨_, List.getElem?_eq_getElem hlt⟩
      have ho7 := h7.out o (List.mem_of_getElem? ho1)
      have ha1' := ha1.out
      have ha2' := ha2.out
      rw [drop_cons os k o ho1, getAll] at ha1' ha2'
      have hget := get_any o r ho7 sk wr hrd.out
      have hown3k := hfoot.own hown3 (fun j hj e => by have := (hown3.lt j hj).1; omega)
      obtain ⟨b, off, rfl, _, _, hcell0⟩ := (RV.of_own hown3k).at1 k (oV o) (by rw [List.getElem?_map, ho1]; rfl)
      have hcell : wr.cell? ⟨b, off + k, none⟩ = some (.int .i64 (o : Int)) := hcell0
      generalize getO o sk = z at *
      have HZ1 := Lib.hid ha1'
      have HZ2 : Hid ((pre ++ [z.2]) ++ (getAll (os.drop (k + 1)) z.1).2 = A2) := Lib.hid (by rw [List.append_assoc]; exact ha2')
      clear ha1 ha2 ha1' ha2' ho1 hcell0 hown3k
      go_wp2_with (first
        | (go_at_call 111; (with_reducible refine hget.mono ?_); clear hget; rintro e w5 ⟨rfl, h5'⟩; have hown5 := h5'.2.own hown (fun j hj e => by have := (hown.lt j hj).1; omega); have hs5 := h5'.2.size)
        | (at_builtin; refine wpList_append_lits rfl _ _ 91 rfl w3.heap.size 24 i0 (.int .u64 0) 8 Tryd.underlying91 hi hz0 hz1 hz2 rfl (by decide) hown5 rfl _ rfl rfl rfl (by omega) (by omega) ?_; intro v' w6 hown6 hb6 _ _))
      go_roundw
      case rel => exact ⟨k + 1, pre ++ [z.2], z.1, by omega, by go_num, by simp [hpre], HZ1, HZ2, Lib.hid (h5'.1.under hb6 (by omega)), by rw [List.map_append]; exact hown6, (hfoot.trans h5'.2).then_ (T := fun x => w3.heap.size ≤ x) ⟨hb6.os, hb6.tape, hb6.output, hb6.size, fun x _ hn => hb6.block x (Nat.lt_of_not_le hn)⟩ (fun x hx => .inr hx)⟩
      case measure => simp [intOf]; omega
    · obtain rfl : k = os.length := by omega
      have ha1' := ha1.out
      have ha2' := ha2.out
      rw [List.drop_length, getAll] at ha1' ha2'
      simp only [List.append_nil] at ha1' ha2'
      subst ha1' ha2'
      have hbr4 := hbr3.foot hfoot (by omega)
      have hrd4 := hrd.out
      have he2 := Wire.Err_any r sk wr hrd4
      have hF := F3.trans hfoot
      have hRR := HR.out
      clear ha1 ha2 hrd HR
      by_cases hz : sk.code = 0
      · rw [if_pos hz] at hRR
        rw [hz] at he2
        injection hRR with e1 e2
        subst e1
        have hbu2 := HBU.out pre (by omega) _ _ wr (by have := RV.of_own hown; rw [← hpre] at this; exact this)
        rw [e2] at hbu2
        clear hz e2
        go_wp2_with (first
          | (go_at_call 92; (with_reducible refine he2.mono ?_); clear he2; rintro e w5 ⟨rfl, rfl⟩)
          | (go_at_call 61; (with_reducible refine hbu2.mono ?_); clear hbu2; rintro e w6 ⟨rfl, hb6⟩; have hbr6 := hbr4.below hb6 hbr4.lt; have hrd6 := hrd4.below hb6 (Nat.le_refl _))
          | (refine wpList_store_row rfl 45 _ _ rfl w.heap.size D.cells rfl rfl 45 _ hbr6 (sizeD _) rfl (oneD _) ?_))
        refine bodyPost_ret (results_row_tmp rfl _ _ w.heap.size 45 D.cells (0, 0) _ rfl (hbr6.row _) Tryd.underlying45 rfl (sizeD _)) rfl ?_
        exact ⟨rfl, rd_row hrd6 hrl _, (hF.trans (Foot.of_below _ hb6)).row (Nat.le_refl _) _⟩
      · rw [if_neg hz] at hRR
        injection hRR with e1 e2
        injection e2 with e2 e3
        subst e1 e2 e3
        have ty : ((sk.code : Int) != 0) = true := by simp; omega
        clear hz
        go_wp2_with (first
          | (go_at_call 92; (with_reducible refine he2.mono ?_); clear he2; rintro e w5 ⟨rfl, rfl⟩)
          | (refine wpList_store_row rfl 45 _ _ rfl w.heap.size zeroD.cells rfl rfl 45 _ hbr4 (sizeD _) rfl (oneD _) ?_))
        refine bodyPost_ret (results_row_tmp rfl _ _ w.heap.size 45 zeroD.cells (0, 0) _ rfl (hbr4.row _) Tryd.underlying45 rfl (sizeD _)) rfl ?_
        exact ⟨rfl, rd_row hrd4 hrl _, hF.row (Nat.le_refl _) _⟩

theorem Get_any (r : Nat) (st : RS) (w : World) (h : RdAt w r st) :
    Calls Tryd.prog 93 #[.pointer (some ⟨r, 0, none⟩)] w fun e w' => e = .returned (.tuple #[(getD st).2.1.val, .int .i64 ((getD st).2.2 : Int)]) ∧ RdOut w w' r (getD st).1 := by
  unfold getD
  by_cases hc : (rdByte st).1.code = 0
  · rw [if_pos hc]
    by_cases ho : isOp (rdByte st).2 = true
    · rw [if_pos ho]
      exact Get_rest r st w h hc ho _ _ _ rfl
    · rw [if_neg ho]
      exact Get_op r st w h hc ho
  · rw [if_neg hc]
    exact Get_err r st w h hc
end Go.Proofs.YtlgjbcmkhcgigaaDoor
