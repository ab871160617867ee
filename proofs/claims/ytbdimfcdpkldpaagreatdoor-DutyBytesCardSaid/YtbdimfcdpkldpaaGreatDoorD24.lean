/- The contracts of an operand's put and of deed's Put. -/
import Derived.Test.YtbdimfcdpkldpaaGreatDoorD7
import Derived.Test.YtbdimfcdpkldpaaGreatDoorLD3
import Derived.Test.YtbdimfcdpkldpaaGreatDoorLM1
import Derived.Test.YtbdimfcdpkldpaaGreatDoorLW1
namespace Go.Proofs.YtbdimfcdpkldpaaGreatDoor
open Go.RowKit
open Wire (WrAt WrStep wAdd)

/-- A step of a writer's, behind which it holds l. -/
def WrK (w w' : World) (B b most : Nat) (l : List UInt8) : Prop := ∃ v', WrAt w' B b most v' (some l) ∧ SbF B b w w'
theorem wr_keep {w w' : World} {B b most : Nat} {v : Value} {l bs : List UInt8} (h : WrAt w B b most v (some l)) (hs : WrStep w w' B b most v (wAdd most (some l) bs)) (hl : l.length + bs.length ≤ most) : WrK w w' B b most (l ++ bs) := by
  obtain ⟨v', h1, h2, _⟩ := hs
  have e : wAdd most (some l) bs = some (l ++ bs) := by unfold wAdd; rw [Option.bind_some, if_neg (by omega)]
  rw [e] at h1
  refine ⟨v', h1, h2.mono fun k _ hk => ?_⟩
  rcases hk with hk | hk
  · exact .inl hk
  · have hB := h.2.1 k hk
    obtain ⟨_, hown, _⟩ := h.2.2
    rcases hown.2 with ⟨rfl, _⟩ | ⟨g, cap, cur, rfl, _, hg, _⟩
    · cases hk
    · have e : g = k := by simpa [Value.ownBlock] using hk
      subst e
      exact .inr ⟨hB, cur, hg⟩
theorem WrK.trans {w w1 w2 : World} {B b most : Nat} {l l2 : List UInt8} (h : WrK w w1 B b most l) (k : WrK w1 w2 B b most l2) : WrK w w2 B b most l2 := by
  obtain ⟨_, _, hf⟩ := h
  obtain ⟨v, hv, hf2⟩ := k
  exact ⟨v, hv, hf.trans hf2⟩
theorem wr_blk {w : World} {B b most : Nat} {v : Value} {l : List UInt8} (h : WrAt w B b most v (some l)) : Blk w b 124 #[.int .i64 0, .int .i64 (most : Int), v] := h.2.2.1
theorem wr_no {w : World} {B b most : Nat} {v : Value} {l : List UInt8} (h : WrAt w B b most v (some l)) {e : TypeId} (he : e ≠ 124) : ∀ cs, w.heap[b]? ≠ some (.cells cs e (0, 0)) := by
  have hb := wr_blk h
  intro cs h'
  unfold Blk at hb
  rw [hb] at h'
  injection h' with h'
  injection h' with _ h'
  exact he h'.symm
theorem byte_wrap (x : Nat) : ((x : Int) % 256) = ((UInt8.ofNat x).toNat : Int) := by
  rw [UInt8.toNat_ofNat']
  simp

set_option maxHeartbeats 1000000 in
theorem put_any (o x : Nat) (ho : o < 7) (hx : x < 18446744073709551616) {B b most : Nat} {v : Value} {l : List UInt8} (hl : l.length + (putB o x).length ≤ most) (hm : most ≤ maxLen) (h50 : l.length ≤ 250000) (w : World) (h : WrAt w B b most v (some l)) :
    Calls Tryz.prog 129 #[.int .i64 o, .pointer (some ⟨b, 0, none⟩), .int .u64 x] w fun e w' => e = .returned (.tuple #[]) ∧ WrK w w' B b most (l ++ putB o x) := by
  have h5 : ∀ l', some l = some l' → l'.length ≤ 250000 := fun l' e => by cases e; exact h50
  have hmm : most ≤ maxLen := hm
  clear hm
  have HK : Hid (∀ w', WrStep w w' B b most v (wAdd most (some l) (putB o x)) → WrK w w' B b most (l ++ putB o x)) := Lib.hid (fun w' hs => wr_keep h hs hl)
  by_cases h2 : o ≤ 2
  · have hb := Wire.WByte_any w (UInt8.ofNat x) h5 hmm h
    rw [← byte_wrap] at hb
    rw [show putB o x = [UInt8.ofNat x] by unfold putB; rw [if_pos h2]] at HK ⊢
    clear h5 hmm h hx hl h50
    obtain rfl | rfl | rfl : o = 0 ∨ o = 1 ∨ o = 2 := by omega
    all_goals
      go_enter Tryz.func129, Tryz.ntmps129
      go_wp2_with (go_at_call 128; (with_reducible refine hb.mono ?_); clear hb; rintro e w' ⟨rfl, hs⟩)
      go_end0
      exact ⟨rfl, HK.out _ hs⟩
  · by_cases h6 : o = 6
    · subst h6
      have hb := Wire.WTruth_any w (x == 1) h5 hmm h
      rw [← int_one] at hb
      rw [show putB 6 x = Wire.truB (x == 1) from rfl, ← int_one] at HK ⊢
      clear h5 hmm h hx hl h50
      go_enter Tryz.func129, Tryz.ntmps129
      go_wp2_with (go_at_call 155; (with_reducible refine hb.mono ?_); clear hb; rintro e w' ⟨rfl, hs⟩)
      go_end0
      exact ⟨rfl, HK.out _ hs⟩
    · have hb := Wire.WNum_any w x hx h5 hmm h
      rw [show putB o x = Wire.numB x by unfold putB; rw [if_neg h2, if_neg h6]] at HK ⊢
      clear h5 hmm h hx hl h50
      obtain rfl | rfl | rfl : o = 3 ∨ o = 4 ∨ o = 5 := by omega
      all_goals
        go_enter Tryz.func129, Tryz.ntmps129
        go_wp2_with (go_at_call 43; (with_reducible refine hb.mono ?_); clear hb; rintro e w' ⟨rfl, hs⟩)
        go_end0
        exact ⟨rfl, HK.out _ hs⟩

set_option maxHeartbeats 400000 in
theorem Put_bad (d : Deed) (hd : d.ok) (hg : ¬ goodD d = true) {B b most : Nat} {v : Value} {l : List UInt8} (w : World) (h : WrAt w B b most v (some l)) :
    Calls Tryz.prog 86 #[.pointer (some ⟨b, 0, none⟩), d.val] w fun e w' => e = .returned (.tuple #[]) ∧ WrK w w' B b most l := by
  have hgood := Good_any d hd
  rw [show goodD d = false by simpa using hg] at hgood
  have hblk0 := Blk.new w 109 d.cells
  have hb := below_alloc1 w (.cells d.cells 109)
  have HW := Lib.hid h
  clear hg hd h
  simp only [Deed.val] at hgood ⊢
  go_enter Tryz.func86, Tryz.ntmps86
  go_wp2_with (first
    | (refine wpList_box_agg rfl 109 _ rfl d.cells rfl ?_)
    | (refine wpList_load_row rfl 109 _ rfl w.heap.size rfl 109 _ (0, 0) _ hblk0 Tryz.underlying109 rfl (sizeD _) ?_)
    | (go_at_call 108; (with_reducible refine (hgood _).mono ?_); rintro e w' ⟨rfl, hb2⟩))
  refine bodyPost_ret (results_none rfl _ _ _) rfl ?_
  have hbb := below_pre hb hb2
  exact ⟨rfl, v, HW.out.below hbb (Nat.le_refl _), SbF.of_below hbb⟩

theorem drop_len {L pre suf : List UInt8} (h : pre ++ suf = L) : pre.length + suf.length = L.length := by rw [← h, List.length_append]
set_option maxRecDepth 100000 in
set_option maxHeartbeats 2000000 in
theorem Put_good (d : Deed) (hd : d.ok) (hg : goodD d = true) {B b most : Nat} {v : Value} {l : List UInt8} (hl : l.length + 14 ≤ most) (hm : most ≤ maxLen) (h49 : l.length ≤ 240000) (w : World) (h : WrAt w B b most v (some l)) :
    Calls Tryz.prog 86 #[.pointer (some ⟨b, 0, none⟩), d.val] w fun e w' => e = .returned (.tuple #[]) ∧ WrK w w' B b most (l ++ bytesD d) := by
  have hop := good_op hg
  have hgood := Good_any d hd
  rw [hg] at hgood
  have hops := operands_any d.op hop
  have h7 := Lib.hid (opr_lt d.op hop)
  have h5 := opr_len d.op hop
  have hof := fun o ho7 => of_any o ho7 d hd
  have hofl := Lib.hid (fun o => ofD_lt o d hd)
  have h14 := bytesD_40 d hd hop
  have hb0 : ((d.op : Int) % 256) = ((UInt8.ofNat d.op.toNat).toNat : Int) := by
    rw [← byte_wrap]
    rcases isOp_cases hop with h | h | h | h | h | h | h | h | h | h | h <;> rw [h] <;> rfl
  have HB0 := Lib.hid hb0
  clear hb0
  have hB : Hid ([UInt8.ofNat d.op.toNat] ++ (opr d.op).flatMap (fun o => putB o (ofD o d)) = bytesD d) := Lib.hid rfl
  generalize bytesD d = L at *
  have hblk0 := Blk.new w 109 d.cells
  have hbel0 := below_alloc1 w (.cells d.cells 109)
  have hgb : w.heap.size ≠ b := by have := (wr_blk h).lt; omega
  have hBb : B ≤ b := h.1
  have hWB : B ≤ w.heap.size := by have := (wr_blk h).lt; omega
  clear hg hd hop
  simp only [Deed.val] at hgood hof ⊢
  generalize opr d.op = os at *
  have hc0 : (w.alloc (.cells d.cells 109)).cell? ⟨w.heap.size, 0, none⟩ = some (.int .i64 d.op) := hblk0.cell 0
  have h5k : ∀ l', some l = some l' → l'.length ≤ 250000 := fun l' e => by cases e; omega
  have hmm : most ≤ maxLen := hm
  clear hm
  have H := Lib.hid h
  clear h
  go_enter Tryz.func86, Tryz.ntmps86
  go_wp2_with (first
    | (refine wpList_box_agg rfl 109 _ rfl d.cells rfl ?_)
    | (refine wpList_load_row rfl 109 _ rfl w.heap.size rfl 109 _ (0, 0) _ hblk0 Tryz.underlying109 rfl (sizeD _) ?_)
    | (go_at_call 108; (with_reducible refine (hgood _).mono ?_); clear hgood; rintro e w1 ⟨rfl, hb1⟩; have hblk1 := hblk0.below hb1 hblk0.lt; have hc1 : w1.cell? ⟨w.heap.size, 0, none⟩ = some (.int .i64 d.op) := hblk1.cell 0; have hbw1 := below_pre hbel0 hb1; have hW1 := H.out.below hbw1 (Nat.le_refl _))
    | (go_at_call 128; rw [HB0.out]; refine (Wire.WByte_any _ (UInt8.ofNat d.op.toNat) h5k hmm hW1).mono ?_; rintro e w2 ⟨rfl, hs⟩; have hk2 := wr_keep hW1 hs (by simp; omega); obtain ⟨v2, hW2, hf2⟩ := id hk2; have hblk2 := hf2.blk hblk1 hgb (by decide); have hc2 : w2.cell? ⟨w.heap.size, 0, none⟩ = some (.int .i64 d.op) := hblk2.cell 0)
    | (go_at_call 110; (with_reducible refine (hops _).mono ?_); clear hops; rintro e w3 ⟨lv, rfl, hown3, hb3⟩; obtain ⟨p, c, rfl, _⟩ := id (RV.of_own hown3)))
  have hblk3 := hblk2.below hb3 hblk2.lt
  have hW3 := hW2.below hb3 (Nat.le_refl _)
  have hF3 : SbF B b w w3 := ((SbF.of_below hbw1).trans hf2).trans (SbF.of_below hb3)
  have hown3 := own_mono hown3 (Nat.zero_le w2.heap.size)
  clear hblk0 hblk1 hblk2 hc0 hc1 hc2 hb1 hb3 hbel0 hbw1 hW1 hW2 hf2 hs hk2
  go_loopw [18] (fun t wr => ∃ (k : Nat) (pre : List UInt8) (vr : Value), k ≤ os.length ∧ t = .int .i64 k ∧ Hid (pre ++ (os.drop k).flatMap (fun o => putB o (ofD o d)) = L) ∧ Hid (WrAt wr B b most vr (some (l ++ pre))) ∧ Blk wr w.heap.size 109 d.cells ∧ wr.ownsRow 0 153 1 (.slice p os.length c) os.length (os.map oV) ∧ SbF B b w wr) (fun t _ => os.length - (intOf t).toNat)
  case atStart => exact ⟨0, [UInt8.ofNat d.op.toNat], _, by omega, rfl, hB, Lib.hid hW3, hblk3, hown3, hF3⟩
  case round =>
    obtain ⟨k, pre, vr, hk, rfl, hp, hW, hblk, hown, hF⟩ := hrel
    by_cases hlt : k < os.length
    · obtain ⟨o, ho1⟩ : ∃ o, os[k]? = some o := ⟨_, List.getElem?_eq_getElem hlt⟩
      have ho7 := h7.out o (List.mem_of_getElem? ho1)
      have hp2 := hp.out
      rw [drop_cons os k o ho1, List.flatMap_cons, ← List.append_assoc] at hp2
      have hpl := drop_len hp2
      rw [List.length_append] at hpl
      have HP2 := Lib.hid hp2
      obtain ⟨bl, off, rfl, _, _, hcell0⟩ := (RV.of_own hown).at1 k (oV o) (by rw [List.getElem?_map, ho1]; rfl)
      have hcell : wr.cell? ⟨bl, off + k, none⟩ = some (.int .i64 (o : Int)) := hcell0
      have hofk := hof o ho7 wr
      have hxl := hofl.out o
      have hlen : (l ++ pre).length + (putB o (ofD o d)).length ≤ most := by rw [List.length_append]; omega
      have h50 : (l ++ pre).length ≤ 250000 := by rw [List.length_append]; omega
      have H50 := Lib.hid h50
      clear h50
      clear hp hp2 hpl hcell0 ho1
      have HL := Lib.hid hlen
      have HX := Lib.hid hxl
      clear hlen hxl
      go_wp2_with (first
        | (refine wpList_load_row rfl 109 _ rfl w.heap.size rfl 109 _ (0, 0) _ hblk Tryz.underlying109 rfl (sizeD _) ?_)
        | (go_at_call 112; (with_reducible refine hofk.mono ?_); clear hofk; rintro e w5 ⟨rfl, hb5⟩; have hW5 := hW.out.below hb5 (Nat.le_refl _); have hblk5 := hblk.below hb5 hblk.lt; have hown5 := ownsRow_below hown hb5 (Nat.le_refl _); have hF5 := hF.trans (SbF.of_below hb5))
        | (go_at_call 129; refine (put_any o _ ho7 HX.out HL.out hmm H50.out _ hW5).mono ?_; rintro e w6 ⟨rfl, v6, hW6, hF6⟩))
      go_roundw
      case rel => exact ⟨k + 1, _, v6, by omega, by go_num, HP2, Lib.hid (by rw [← List.append_assoc]; exact hW6), hF6.blk hblk5 hgb (by decide), hF6.own hown5 (by decide) (by decide) (wr_no hW5 (by decide)), hF5.trans hF6⟩
      case measure => simp [intOf]; omega
    · obtain rfl : k = os.length := by omega
      have hp2 := hp.out
      rw [List.drop_length, List.flatMap_nil, List.append_nil] at hp2
      subst hp2
      clear hp
      go_wp2
      go_end0
      exact ⟨rfl, vr, hW.out, hF⟩
end Go.Proofs.YtbdimfcdpkldpaaGreatDoor
