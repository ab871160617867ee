/- Plain mathematics of layer 8: a program's text, the lines of a text, and what they parse to. The contracts of strings.Builder's WriteByte, walked at this dump, and of prog's Text and its reference's. One instruction appended to a slice of one's own. -/
import Derived.Test.YtbdimfcdpkldpaaGreatDoorLD5
import Derived.Test.YtbdimfcdpkldpaaGreatDoorLQ0
import Derived.Lib.IndexLaws
import Derived.Test.YtbdimfcdpkldpaaGreatDoorQ1
import Derived.Test.YtbdimfcdpkldpaaGreatDoorD15
import Derived.Test.YtbdimfcdpkldpaaGreatDoorLN2
import Derived.Test.YtbdimfcdpkldpaaGreatDoorLB
import Derived.Great.BuildSlice
namespace Go.Proofs.YtbdimfcdpkldpaaGreatDoor

/-! ### texts -/
def textP (ps : List Deed) : List UInt8 := ps.flatMap fun d => lineD d ++ [10]
theorem textP_cons (d : Deed) (ps : List Deed) : textP (d :: ps) = lineD d ++ 10 :: textP ps := by simp [textP]
theorem opr_five (op : Int) : (opr op).length ≤ 5 := by
  unfold opr
  generalize op.toNat = n
  unfold oprN
  split <;> decide
theorem lineD_len (d : Deed) (hd : d.ok) : (lineD d).length ≤ 111 := by
  unfold lineD
  split
  · rw [List.length_append]
    have h1 := nameD_len d.op
    have h2 : ∀ os : List Nat, (os.flatMap (fun o => textN o (ofD o d))).length ≤ 21 * os.length := by
      intro os
      induction os with
      | nil => simp
      | cons o os ih =>
        have := textN_len o _ (ofD_lt o d hd)
        rw [List.flatMap_cons, List.length_append, List.length_cons]
        omega
    have h3 := h2 (opr d.op)
    have h4 := opr_five d.op
    omega
  · decide
theorem textP_len : ∀ ps : List Deed, (∀ d ∈ ps, d.ok) → (textP ps).length ≤ 112 * ps.length
  | [], _ => by simp [textP]
  | d :: ps, h => by
    have h1 := lineD_len d (h d (by simp))
    have h2 := textP_len ps (fun e he => h e (by simp [he]))
    rw [textP_cons, List.length_append, List.length_cons, List.length_cons]
    omega

/-- No line feed. -/
def NoLF (l : List UInt8) : Prop := ∀ c ∈ l, c ≠ 10
theorem NoLF.append {a b : List UInt8} (ha : NoLF a) (hb : NoLF b) : NoLF (a ++ b) := fun c hc => (List.mem_append.1 hc).elim (ha c) (hb c)
theorem NoLF.cons {c : UInt8} {l : List UInt8} (hc : c ≠ 10) (h : NoLF l) : NoLF (c :: l) := fun x hx => (List.mem_cons.1 hx).elim (fun e => e ▸ hc) (h x)
theorem NoLF.digits {b : Nat} (hb : b ≤ 16) {l : List UInt8} (h : allD b l = true) : NoLF l := by
  intro c hc e
  have := List.all_eq_true.1 h c hc
  subst e
  have h10 : valB 10 = 16 := by decide
  simp [h10] at this
  omega
theorem noLF_loose : NoLF (32 :: looseL) := by unfold looseL NoLF; decide
theorem noLF_text (o x : Nat) (hx : x < 18446744073709551616) : NoLF (textN o x) := by
  have h1 : NoLF (hexN 16 x) := NoLF.digits (Nat.le_refl _) (hexN_facts 16 x (by rw [show (16 : Nat) ^ 16 = 18446744073709551616 by decide]; exact hx)).2
  have h2 : NoLF (Lib.decDigits x) := NoLF.digits (by decide) (dec_facts (x + 1) x (by omega)).2.1
  clear hx
  have h3 := NoLF.cons (c := 32) (by decide) h1
  have h4 := NoLF.cons (c := 32) (by decide) h2
  have h5 : NoLF [] := by unfold NoLF; decide
  unfold textN
  by_cases e5 : o = 5
  · rw [if_pos e5]; exact h3
  · rw [if_neg e5]
    by_cases e6 : o = 6
    · rw [if_pos e6]
      by_cases e1 : x = 1
      · rw [if_pos e1]; exact noLF_loose
      · rw [if_neg e1]; exact h5
    · rw [if_neg e6]; exact h4
theorem noLF_name (op : Int) : NoLF (nameD op) := by
  unfold nameD
  split
  · generalize op.toNat = n
    unfold nameN
    intro c hc
    split at hc <;> (simp at hc; (repeat' (rcases hc with rfl | hc)) <;> first | decide | (subst hc; decide))
  · intro c hc; simp at hc; subst hc; decide
theorem noLF_line (d : Deed) (hd : d.ok) : NoLF (lineD d) := by
  unfold lineD
  split
  · refine NoLF.append (noLF_name _) ?_
    intro c hc
    obtain ⟨o, _, ho⟩ := List.mem_flatMap.1 hc
    exact noLF_text o _ (ofD_lt o d hd) c ho
  · intro c hc; simp at hc; subst hc; decide
theorem line_ne (d : Deed) (hd : d.ok) (hg : goodD d = true) : lineD d ≠ [] := by
  intro e
  have h := line_words d hd hg
  rw [e] at h
  cases h

/-! ### lines -/
def linesGo : List UInt8 → List UInt8 → List (List UInt8)
  | cur, [] => if cur = [] then [] else [cur]
  | cur, c :: r => if c = 10 then cur :: linesGo [] r else linesGo (cur ++ [c]) r
def linesL (l : List UInt8) : List (List UInt8) := linesGo [] l
theorem lines_chunk : ∀ (a cur r : List UInt8), NoLF a → linesGo cur (a ++ 10 :: r) = (cur ++ a) :: linesGo [] r
  | [], cur, r, _ => by simp [linesGo]
  | c :: a, cur, r, h => by
    have hc : c ≠ 10 := h c (by simp)
    rw [List.cons_append, linesGo, if_neg hc, lines_chunk a _ r (fun x hx => h x (by simp [hx])), List.append_assoc]; rfl
theorem lines_last : ∀ (a cur : List UInt8), NoLF a → linesGo cur a = if cur ++ a = [] then [] else [cur ++ a]
  | [], cur, _ => by simp [linesGo]
  | c :: a, cur, h => by
    have hc : c ≠ 10 := h c (by simp)
    rw [linesGo, if_neg hc, lines_last a _ (fun x hx => h x (by simp [hx])), List.append_assoc]; rfl
theorem lines_text : ∀ (ps : List Deed) (r : List UInt8), (∀ d ∈ ps, d.ok) → linesGo [] (textP ps ++ r) = ps.map lineD ++ linesGo [] r
  | [], r, _ => by simp [textP]
  | d :: ps, r, h => by
    rw [textP_cons, List.append_assoc, List.cons_append, lines_chunk _ _ _ (noLF_line d (h d (by simp))), lines_text ps r (fun e he => h e (by simp [he]))]
    rfl
theorem lines_textP (ps : List Deed) (h : ∀ d ∈ ps, d.ok) : linesL (textP ps) = ps.map lineD := by
  have := lines_text ps [] h
  simpa [linesGo, linesL] using this
theorem textP_snoc (qs : List Deed) (d : Deed) : textP (qs ++ [d]) = textP qs ++ lineD d ++ [10] := by simp [textP]
theorem lines_cut (ps : List Deed) (h : ∀ d ∈ ps, d.ok) (hg : goodP ps = true) : linesL (textP ps).dropLast = ps.map lineD := by
  rcases List.eq_nil_or_concat ps with rfl | ⟨qs, d, rfl⟩
  · rfl
  · rw [List.concat_eq_append] at *
    have hd : d.ok := h d (by simp)
    have hgd : goodD d = true := goodP_mem hg (by simp)
    rw [textP_snoc, List.dropLast_concat, linesL, lines_text qs _ (fun e he => h e (by simp [he])), lines_last _ _ (noLF_line d hd), if_neg (by simpa using line_ne d hd hgd)]
    simp
theorem lines_ne {l : List UInt8} (h : l ≠ []) (cur : List UInt8) : linesGo cur l ≠ [] := by
  induction l generalizing cur with
  | nil => exact absurd rfl h
  | cons c r ih =>
    unfold linesGo
    split
    · simp
    · by_cases hr : r = []
      · subst hr; simp [linesGo]
      · exact ih hr _
theorem lines_short : ∀ (l cur : List UInt8), (linesGo cur l).length ≤ (if cur = [] then 0 else 1) + l.length ∧ ∀ z ∈ linesGo cur l, z.length ≤ cur.length + l.length
  | [], cur => by
    by_cases h : cur = []
    · subst h; simp [linesGo]
    · unfold linesGo
      rw [if_neg h, if_neg h]
      refine ⟨by simp, fun z hz => ?_⟩
      simp at hz
      subst hz
      simp
  | c :: r, cur => by
    unfold linesGo
    split
    · obtain ⟨h1, h2⟩ := lines_short r []
      simp at h1
      refine ⟨by rw [List.length_cons, List.length_cons]; omega, fun z hz => ?_⟩
      rcases List.mem_cons.1 hz with rfl | hz
      · omega
      · have := h2 z hz; simp at this ⊢; omega
    · obtain ⟨h1, h2⟩ := lines_short r (cur ++ [c])
      simp at h1
      refine ⟨by rw [List.length_cons]; omega, fun z hz => ?_⟩
      have := h2 z hz
      simp at this ⊢; omega
theorem linesL_short (l : List UInt8) : (linesL l).length ≤ l.length ∧ ∀ z ∈ linesL l, z.length ≤ l.length := by
  have := lines_short l []
  simpa [linesL] using this

/-- A text cut at its first line feed. -/
def cutB : List UInt8 → List UInt8 × List UInt8 × Bool
  | [] => ([], [], false)
  | c :: r => if c = 10 then ([], r, true) else (c :: (cutB r).1, (cutB r).2.1, (cutB r).2.2)
theorem lines_cutB : ∀ (l cur : List UInt8), cur ≠ [] ∨ l ≠ [] → linesGo cur l = (cur ++ (cutB l).1) :: linesGo [] (cutB l).2.1
  | [], cur, h => by
    have : cur ≠ [] := h.resolve_right (fun e => e rfl)
    simp [linesGo, cutB, this]
  | c :: r, cur, _ => by
    rw [linesGo, cutB]
    by_cases hc : c = 10
    · rw [if_pos hc, if_pos hc, List.append_nil]
    · rw [if_neg hc, if_neg hc, lines_cutB r (cur ++ [c]) (.inl (by simp)), List.append_assoc]; rfl
theorem cutB_len : ∀ l : List UInt8, l ≠ [] → (cutB l).2.1.length < l.length
  | [], h => absurd rfl h
  | c :: r, _ => by
    unfold cutB
    split
    · simp
    · by_cases hr : r = []
      · subst hr; simp [cutB]
      · have := cutB_len r hr; simp; omega
theorem cutB_none : ∀ l : List UInt8, Lib.indexByte l 10 = -1 → cutB l = (l, [], false)
  | [], _ => rfl
  | c :: r, h => by
    unfold Lib.indexByte at h
    have hge := Lib.indexByte_ge r 10
    split at h
    · omega
    · rename_i hb
      have hc : ¬ c = 10 := by simpa using hb
      split at h
      · rename_i h1
        unfold cutB
        rw [if_neg hc, cutB_none r (by simpa using h1)]
      · rename_i h1
        have : ¬ Lib.indexByte r 10 = -1 := by simpa using h1
        omega
theorem cutB_some : ∀ (l : List UInt8) (o : Nat), Lib.indexByte l 10 = o → o < l.length ∧ cutB l = (l.take o, l.drop (o + 1), true)
  | [], o, h => by unfold Lib.indexByte at h; omega
  | c :: r, o, h => by
    unfold Lib.indexByte at h
    have hge := Lib.indexByte_ge r 10
    split at h
    · rename_i hb
      have hc : c = 10 := by simpa using hb
      obtain rfl : o = 0 := by omega
      unfold cutB
      simp [hc]
    · rename_i hb
      have hc : ¬ c = 10 := by simpa using hb
      split at h
      · omega
      · rename_i h1
        have : ¬ Lib.indexByte r 10 = -1 := by simpa using h1
        obtain ⟨o', rfl⟩ : ∃ o', o = o' + 1 := ⟨o - 1, by omega⟩
        obtain ⟨h2, h3⟩ := cutB_some r o' (by omega)
        unfold cutB
        rw [if_neg hc, h3]
        simp
        omega

/-! ### parsing -/
/-- What Parse answers to lines: the instructions, their number or the line at fault, the error. -/
def prsGo (i : Nat) (acc : List Deed) : List (List UInt8) → List Deed × Nat × Nat
  | [] => (acc, acc.length, 0)
  | l :: ls => if (parseD l).2 = 0 then prsGo (i + 1) (acc ++ [(parseD l).1]) ls else ([], i, (parseD l).2)
def prsP (l : List UInt8) : List Deed × Nat × Nat := if 256 < (linesL l).length then ([], 0, 4) else prsGo 0 [] (linesL l)
theorem prsGo_lines : ∀ (ps acc : List Deed) (i : Nat), (∀ d ∈ ps, d.ok) → (∀ d ∈ ps, goodD d = true) → prsGo i acc (ps.map lineD) = (acc ++ ps, acc.length + ps.length, 0)
  | [], acc, i, _, _ => by simp [prsGo]
  | d :: ps, acc, i, h, g => by
    rw [List.map_cons, prsGo, parse_line d (h d (by simp)) (g d (by simp))]
    simp only [if_true]
    rw [prsGo_lines ps _ _ (fun e he => h e (by simp [he])) (fun e he => g e (by simp [he]))]
    simp only [List.append_assoc, List.length_append, List.length_cons, List.length_nil, List.cons_append, List.nil_append, Prod.mk.injEq, true_and, and_true]
    omega
theorem prs_text (ps : List Deed) (h : ∀ d ∈ ps, d.ok) (h0 : checkN ps = 0) : prsP (textP ps) = (ps, ps.length, 0) ∧ prsP (textP ps).dropLast = (ps, ps.length, 0) := by
  obtain ⟨hl, hg⟩ := checkN_zero.1 h0
  have e := prsGo_lines ps [] 0 h (fun d hd => goodP_mem hg hd)
  simp only [List.nil_append, List.length_nil, Nat.zero_add] at e
  unfold prsP
  rw [lines_textP ps h, lines_cut ps h hg, List.length_map, if_neg (by omega), e]
  exact ⟨rfl, rfl⟩
end Go.Proofs.YtbdimfcdpkldpaaGreatDoor

namespace Go.Proofs.YtbdimfcdpkldpaaGreatDoor
open Go.RowKit

set_option maxRecDepth 100000 in
set_option maxHeartbeats 2000000 in
theorem WriteB_any (B b : Nat) (l : List UInt8) (x : UInt8) (w : World) (h : SbAt w B b l) (hlen : l.length + 1 ≤ 2000000) (hBw : B ≤ w.heap.size) :
    Calls Tryz.prog 62 #[.pointer (some ⟨b, 0, none⟩), .int .u8 (x.toNat : Int)] w fun e w' => e = .returned .nilIface ∧ (SbAt w' B b (l ++ [x]) ∧ SbF B b w w') := by
  obtain ⟨i0, hi, hz0, hz1, hz2⟩ := info_parts (show (Tryz.prog.info? 5).map (fun i => (i.zero, i.size, i.bytes)) = some (some (.int .u8 0), 1, 1) by kernel_rfl)
  have hcc := copyCheck_any B b (Lib.byteCells l) w h
  have hBb : B ≤ b := by rcases h with h | h <;> exact h.1
  have hbl : (Lib.byteCells l).length = l.length := Lib.byteCells_length l
  clear h
  go_enter Tryz.func62, Tryz.ntmps62
  go_wp2_with (first
    | (go_at_call 61; refine hcc.mono ?_; clear hcc; rintro e w1 ⟨rfl, h1, hf1⟩; obtain ⟨hB, v, hbk, hown, hne⟩ := h1; have hb1 : Below B w w1 := hf1.below hBw (fun k hk => by omega); have c0 : w1.cell? ⟨b, 0, none⟩ = some (.pointer (some ⟨b, 0, none⟩)) := Blk.cell hbk 0; have c1 : w1.cell? ⟨b, 1, none⟩ = some v := Blk.cell hbk 1)
    | (at_builtin; refine wpList_append_lits rfl _ _ 38 rfl B 5 i0 (.int .u8 0) 1 Tryz.underlying38 hi hz0 hz1 hz2 rfl (by decide) hown rfl _ rfl rfl rfl (by omega) (by have := hb1.size; omega) ?_; intro v' w2 hown' hb12 _ hgrow; have hb2 : Blk w2 b 48 #[.pointer (some ⟨b, 0, none⟩), v] := (hgrow.block b (Blk.lt hbk) hne).trans hbk; have d0 : w2.cell? ⟨b, 0, none⟩ = some (.pointer (some ⟨b, 0, none⟩)) := hb2.cell 0; have d1 : w2.cell? ⟨b, 1, none⟩ = some v := hb2.cell 1; have f1 : w2.frozen? ⟨b, 1, none⟩ = false := hb2.frozen 1; obtain ⟨ao, n', cap, rfl⟩ := own_shape hown'))
  go_ret
  refine ⟨rfl, ?_, ?_⟩
  · unfold SbAt
    rw [Lib.byteCells_append]
    exact .inr (Lib.BuilderAt.put (T := 48) (e := 5) hB hb2 (bs' := Lib.byteCells l ++ Lib.byteCells [x]) (by simpa [Lib.byteCells] using hown') (by decide))
  · have s1 : SbF B b w w1 := hf1.mono (fun k _ hk => .inl hk)
    have s2 : SbF B b w1 w2 := hgrow.mono (fun k _ hk => by
      have := (hown.lt k hk).1
      rcases hown.2 with ⟨rfl, _⟩ | ⟨g, cap, cur, rfl, _, hg, _⟩
      · cases hk
      · have e : g = k := by simpa [Value.ownBlock] using hk
        subst e
        exact .inr ⟨this, cur, hg⟩)
    have s3 : SbF B b w2 (w2.setCell ⟨b, 1, none⟩ (.slice ao n' cap)) := (Foot.refl _ w2).setCell (p := ⟨b, 1, none⟩) (.inl (.inl rfl)) _
    exact (s1.trans s2).trans s3

theorem RP.sb {w w' : World} {G : Nat → Prop} {v : Value} {ps : List Deed} {B b : Nat} (h : RP w G v ps) (hf : SbF B b w w') (hB : B ≤ b) (hG : ∀ k, G k → k < B) : RP w' G v ps :=
  RV.foot h hf (fun k hk hs => by have := hG k hk; rcases hs with e | ⟨e, _⟩ <;> omega)
theorem sV_list (l : List UInt8) : (ByteArray.mk l.toArray).data.toList = l := rfl

set_option maxRecDepth 100000 in
set_option maxHeartbeats 2000000 in
theorem Text_any (p : Option Addr) (c n : Nat) (ps : List Deed) (hn : ps.length = n) (hn6 : n ≤ 300) (hok : ∀ d ∈ ps, d.ok) (G : Nat → Prop) (w : World) (hG : ∀ k, G k → k < w.heap.size) (h : RP w G (.slice p n c) ps) (hT : Tabs w) :
    Calls Tryz.prog 23 #[.slice p n c] w fun e w' => e = .returned (sV (textP ps)) ∧ Below w.heap.size w w' := by
  obtain ⟨T, hT0⟩ : ∃ T, textP ps = T := ⟨_, rfl⟩
  rw [hT0]
  have HT0 : Hid ([] ++ textP (ps.drop 0) = T) := Lib.hid (by simpa using hT0)
  have H := Lib.hid h
  have HN := Lib.hid hn
  have HOK := Lib.hid hok
  have HTB := Lib.hid hT
  clear h hn hok hT0 hT
  have hsb0 := SbAt.new w
  have hb0 := below_alloc1 w (.cells #[.pointer none, .slice none 0 0] 48)
  go_enter Tryz.func23, Tryz.ntmps23
  go_wp2_with (refine wpList_alloc_agg rfl 48 rfl _ zeroS ?_)
  go_loopw [8] (fun t wr => ∃ (k : Nat) (l : List UInt8), k ≤ n ∧ t = .int .i64 k ∧ Hid (l ++ textP (ps.drop k) = T) ∧ l.length ≤ 112 * k ∧ Hid (SbAt wr w.heap.size w.heap.size l) ∧ Hid (RP wr G (.slice p n c) ps) ∧ w.heap.size < wr.heap.size ∧ Below w.heap.size w wr) (fun t _ => n - (intOf t).toNat)
  case atStart => exact ⟨0, [], by omega, rfl, HT0, by simp, Lib.hid hsb0, Lib.hid (H.out.later hb0), by simp, hb0⟩
  case round =>
    obtain ⟨k, l, hk, rfl, hl, hll, hsb, hR, hbs, hb⟩ := hrel
    clear H HT0 hsb0 hb0
    by_cases hlt : k < n
    · obtain ⟨d, hd⟩ : ∃ d, ps[k]? = some d := ⟨_, List.getElem?_eq_getElem (by rw [HN.out]; exact hlt)⟩
      obtain ⟨b, off, rfl, _, _, hra, _⟩ := hR.out.at hd
      have hdk := HOK.out d (List.mem_of_getElem? hd)
      have hl2 := hl.out
      have hdr : ps.drop k = d :: ps.drop (k + 1) := by
        obtain ⟨hh, rfl⟩ := List.getElem?_eq_some_iff.1 hd
        exact List.drop_eq_getElem_cons hh
      rw [hdr, textP_cons, show (10 : UInt8) :: textP (ps.drop (k + 1)) = [10] ++ textP (ps.drop (k + 1)) from rfl, ← List.append_assoc, ← List.append_assoc] at hl2
      have hz := lineD_len d hdk
      have hline := fun W hW => Line_any d hdk W (HTB.out.below (w' := W) hW (Nat.le_refl _))
      unfold sV at hline
      obtain ⟨Z, hZ⟩ : ∃ Z : ByteArray, Z = ⟨(lineD d).toArray⟩ := ⟨_, rfl⟩
      have hZl : Z.data.toList = lineD d := by rw [hZ]
      have hZs : Z.size ≤ 111 := by rw [hZ, size_mk]; exact hz
      rw [← hZ] at hline
      rw [← hZl] at hl2
      simp only [Deed.val] at hline
      have HL2 := Lib.hid hl2
      have HLN := Lib.hid hline
      have hb1 : Below w.heap.size w (wr.alloc (.cells d.cells 109)) := hb.alloc hb.size _
      have hR1 := Lib.hid (hR.out.later (below_alloc1 wr (.cells d.cells 109)))
      have hsb1 := hsb.out.later (below_alloc1 wr (.cells d.cells 109))
      have hs1 : wr.heap.size < (wr.alloc (.cells d.cells 109)).heap.size := by simp
      have HS1 := Lib.hid hs1
      clear hs1 hd hl2 hl hdr hz hZ hZl hline hdk
      go_wp2_with (first
        | (refine wpList_load_deed rfl _ rfl b (off + k * 7) rfl d hra ?_)
        | (refine wpList_alloc_agg rfl 109 rfl zeroD.cells zeroR ?_)
        | (refine wpList_store_row rfl 109 _ _ rfl wr.heap.size d.cells rfl rfl 109 _ (heap_alloc_new wr _) (sizeD _) rfl (oneD _) ?_; rw [World.setRow_alloc_new])
        | (refine wpList_load_row rfl 109 _ rfl wr.heap.size rfl 109 _ (0, 0) _ (heap_alloc_new wr _) Tryz.underlying109 rfl (sizeD _) ?_)
        | (go_at_call 66; (with_reducible refine (HLN.out _ hb1).mono ?_); rintro e w2 ⟨rfl, hb2⟩; have hR2 := Lib.hid (hR1.out.later hb2); have hsb2 := hsb1.later hb2; have hbw2 := below_pre hb1 hb2)
        | (go_at_call 20; refine (WriteS_any _ _ _ Z _ hsb2 (by omega) hbw2.size).mono ?_; rintro e w3 ⟨rfl, hsb3, hf3⟩; have hR3 := Lib.hid (hR2.out.sb hf3 (Nat.le_refl _) hG); have hbw3 := hbw2.trans (hf3.below (Nat.le_refl _) hbw2.size))
        | (go_at_call 62; refine (WriteB_any _ _ _ 10 _ hsb3 (by rw [List.length_append]; have : Z.data.toList.length = Z.size := rfl; omega) hbw3.size).mono ?_; rintro e w4 ⟨rfl, hsb4, hf4⟩; have hR4 := Lib.hid (hR3.out.sb hf4 (Nat.le_refl _) hG); have hbw4 := hbw3.trans (hf4.below (Nat.le_refl _) hbw3.size)))
      have hsz : w.heap.size < w4.heap.size := by have := HS1.out; have := hb2.size; have := hf3.size; have := hf4.size; omega
      go_roundw
      case rel => exact ⟨k + 1, _, by omega, by go_num, HL2, by rw [List.length_append, List.length_append]; have : Z.data.toList.length = Z.size := rfl; simp; omega, Lib.hid hsb4, hR4, hsz, hbw4⟩
      case measure => simp [intOf]; omega
    · obtain rfl : k = n := by omega
      have hl2 := hl.out
      rw [List.drop_of_length_le (by rw [HN.out]; exact Nat.le_refl _), show textP [] = [] from rfl, List.append_nil] at hl2
      subst hl2
      have hst := Tryz.Builder_String_any w.heap.size w.heap.size l wr hsb.out (by omega)
      clear hl hsb
      go_wp2_with (go_at_call 25; (with_reducible refine hst.mono ?_); clear hst; rintro e w5 ⟨rfl, hb5⟩)
      go_ret
      exact ⟨rfl, hb.trans (hb5.mono (by omega))⟩

theorem app_line (S Z : ByteArray) : (S ++ Z ++ ByteArray.mk #[10]).data.toList = S.data.toList ++ Z.data.toList ++ [10] := by
  rw [data_append, data_append]

set_option maxRecDepth 100000 in
set_option maxHeartbeats 2000000 in
theorem RText_any (p : Option Addr) (c n : Nat) (ps : List Deed) (hn : ps.length = n) (hn6 : n ≤ 300) (hok : ∀ d ∈ ps, d.ok) (G : Nat → Prop) (w : World) (h : RP w G (.slice p n c) ps) :
    Calls Tryz.prog 29 #[.slice p n c] w fun e w' => e = .returned (sV (textP ps)) ∧ Below w.heap.size w w' := by
  obtain ⟨T, hT0⟩ : ∃ T, textP ps = T := ⟨_, rfl⟩
  rw [hT0]
  have HT0 : Hid ((ByteArray.mk #[]).data.toList ++ textP (ps.drop 0) = T) := Lib.hid (by simpa using hT0)
  have H := Lib.hid h
  have HN := Lib.hid hn
  have HOK := Lib.hid hok
  clear h hn hok hT0
  go_enter Tryz.func29, Tryz.ntmps29
  go_wp2
  go_loopw [3, 4] (fun s t wr => ∃ (k : Nat) (S : ByteArray), k ≤ n ∧ t = .int .i64 k ∧ s = .string S ∧ Hid (S.data.toList ++ textP (ps.drop k) = T) ∧ S.size ≤ 112 * k ∧ Hid (RP wr G (.slice p n c) ps) ∧ Below w.heap.size w wr) (fun _ t _ => n - (intOf t).toNat)
  case atStart => exact ⟨0, _, by omega, rfl, rfl, HT0, by decide, H, Below.refl _ _⟩
  case round =>
    obtain ⟨k, S, hk, rfl, rfl, hl, hll, hR, hb⟩ := hrel
    clear H HT0
    by_cases hlt : k < n
    · obtain ⟨d, hd⟩ : ∃ d, ps[k]? = some d := ⟨_, List.getElem?_eq_getElem (by rw [HN.out]; exact hlt)⟩
      obtain ⟨b, off, rfl, _, _, hra, _⟩ := hR.out.at hd
      have hdk := HOK.out d (List.mem_of_getElem? hd)
      have hl2 := hl.out
      have hdr : ps.drop k = d :: ps.drop (k + 1) := by
        obtain ⟨hh, rfl⟩ := List.getElem?_eq_some_iff.1 hd
        exact List.drop_eq_getElem_cons hh
      rw [hdr, textP_cons, show (10 : UInt8) :: textP (ps.drop (k + 1)) = [10] ++ textP (ps.drop (k + 1)) from rfl, ← List.append_assoc, ← List.append_assoc] at hl2
      have hz := lineD_len d hdk
      have hline := fun W => RLine_any d hdk W
      unfold sV at hline
      obtain ⟨Z, hZ⟩ : ∃ Z : ByteArray, Z = ⟨(lineD d).toArray⟩ := ⟨_, rfl⟩
      have hZl : Z.data.toList = lineD d := by rw [hZ]
      have hZs : Z.size ≤ 111 := by rw [hZ, size_mk]; exact hz
      rw [← hZ] at hline
      rw [← hZl, ← app_line] at hl2
      have hsz : (S ++ Z ++ ByteArray.mk #[10]).size ≤ 112 * (k + 1) := by
        have : (S ++ Z ++ ByteArray.mk #[10]).data.toList.length = (S ++ Z ++ ByteArray.mk #[10]).size := rfl
        rw [← this, app_line, List.length_append, List.length_append]
        have h1 : S.data.toList.length = S.size := rfl
        have h2 : Z.data.toList.length = Z.size := rfl
        simp only [List.length_cons, List.length_nil]
        omega
      simp only [Deed.val] at hline
      have HL2 := Lib.hid hl2
      have HSZ := Lib.hid hsz
      clear hd hl2 hl hdr hz hZ hZl hdk hsz
      go_wp2_with (first
        | (refine wpList_load_deed rfl _ rfl b (off + k * 7) rfl d hra ?_)
        | (go_at_call 68; (with_reducible refine (hline _).mono ?_); clear hline; rintro e w2 ⟨rfl, hb2⟩))
      go_roundw
      case rel => exact ⟨k + 1, _, by omega, by go_num, rfl, HL2, HSZ.out, Lib.hid (hR.out.later hb2), below_pre hb hb2⟩
      case measure => simp [intOf]; omega
    · obtain rfl : k = n := by omega
      have hl2 := hl.out
      rw [List.drop_of_length_le (by rw [HN.out]; exact Nat.le_refl _), show textP [] = [] from rfl, List.append_nil] at hl2
      have HL2 := Lib.hid hl2
      clear hl hl2
      go_wp2
      go_ret
      have hs : sV T = .string S := by rw [← HL2.out]; rfl
      exact ⟨by rw [hs]; rfl, hb⟩
end Go.Proofs.YtbdimfcdpkldpaaGreatDoor

namespace Go.Proofs.YtbdimfcdpkldpaaGreatDoor
open Go.RowKit

theorem infoDD : (Tryz.prog.info? 109).map (fun i => (i.zero, i.size, i.bytes)) = some (some (.agg zeroD.cells), 7, 56) := by kernel_rfl
theorem flat_snoc (ps : List Deed) (d : Deed) : (ps ++ [d]).flatMap dCells = ps.flatMap dCells ++ dCells d := by simp
theorem own_apart {w : World} {b b' e e' sz sz' n n' : Nat} {v v' : Value} {xs xs' : List Value} (ho : w.ownsRow b e sz v n xs) (hp : w.ownsRow b' e' sz' v' n' xs') (hne : e ≠ e') : ∀ k, v.ownBlock = some k → ¬ v'.ownBlock = some k := by
  intro k hk hk'
  rcases ho.2 with ⟨rfl, _⟩ | ⟨g, cap, cur, rfl, _, hg, _⟩
  · cases hk
  · rcases hp.2 with ⟨rfl, _⟩ | ⟨g', cap', cur', rfl, _, hg', _⟩
    · cases hk'
    · have e1 : g = k := by simpa [Value.ownBlock] using hk
      have e2 : g' = k := by simpa [Value.ownBlock] using hk'
      subst e1
      subst e2
      rw [hg] at hg'
      injection hg' with h
      injection h with _ h
      exact hne h
theorem fill_deed (d : Deed) : Instr.fill (fun i => some (i * 7, 7)) (Array.map (fun x => (Value.agg zeroD.cells).cells[x % (Value.agg zeroD.cells).cells.size]!) (Array.range (1 * 7))) [(0, Value.agg d.cells)] = some d.cells := by kernel_rfl
section
variable {ops : Array Oper} {rest : List Oper} {o : Oper} {a : Act} {W : World} {Q : Exit → Act → World → Prop}
theorem wpList_lit_deed (hgd : o.guard = none) (x : Operand) (ho : o.op = .buildSlice 45 1 #[(0, x)]) (d : Deed) (hx : a.eval x = .agg d.cells)
    (h : wpList Tryz.prog ops Q rest (a.put o.dst (.slice (some ⟨W.heap.size, 0, none⟩) 1 1)) (W.alloc (.cells d.cells 109))) : wpList Tryz.prog ops Q (o :: rest) a W := by
  obtain ⟨i0, hi, hz0, hz1, hz2⟩ := info_parts infoDD
  refine wpList_buildSlice hgd 45 109 1 _ ho d.cells i0 _ Tryz.underlying45 hi hz0 (by rw [hz1]; decide) (by rw [hz1]; decide) ?_ h
  rw [hz1]
  simp only [List.map_toArray, List.map_cons, List.map_nil, hx]
  exact fill_deed d
theorem wpList_append_deed (hgd : o.guard = none) (s x : Operand) (ho : o.op = .call { callee := .builtin .append, args := #[s, x], argTypes := #[45, 45] })
    (B : Nat) {v : Value} {n : Nat} {ps : List Deed} (hown : W.ownsRow B 109 7 v n (ps.flatMap dCells)) (hs : a.eval s = v) (hx : a.eval x = .slice (some ⟨W.heap.size, 0, none⟩) 1 1) (d : Deed) (t' : TypeId)
    (hn : n + 1 ≤ 100000) (hB : B ≤ W.heap.size)
    (h : ∀ v' w', w'.ownsRow B 109 7 v' (n + 1) ((ps ++ [d]).flatMap dCells) → Below B W w' → Foot (fun k => v.ownBlock = some k) W w' → wpList Tryz.prog ops Q rest (a.put o.dst v') w') :
    wpList Tryz.prog ops Q (o :: rest) a (W.alloc (.cells d.cells t')) := by
  obtain ⟨i0, hi, hz0, hz1, hz2⟩ := info_parts infoDD
  have hown1 := hown.alloc (.cells d.cells t')
  have hr : RV (W.alloc (.cells d.cells t')) (fun k => k = W.heap.size) (.slice (some ⟨W.heap.size, 0, none⟩) 1 1) 1 7 (dCells d) := by
    refine ⟨_, _, rfl, Nat.le_refl _, by unfold maxLen; omega, (fun e => by cases e), rfl, .inr ⟨_, 0, rfl, by simp, rfl, fun j u hu => ?_⟩⟩
    rw [Nat.zero_add, cell_of_row _ _ j _ _ _ (heap_alloc_new W _)]
    simpa [dCells] using hu
  refine wpList_append_rv _ hgd s x 45 ho B 109 i0 (.agg zeroD.cells) 7 56 Tryz.underlying45 hi hz0 hz1 hz2 rfl (by decide) v n (ps.flatMap dCells) hs hown1 _ _ 1 (dCells d) hx hr (fun u hu => ?_) (by unfold maxLen; omega) (by omega) (by simp; omega) fun v' w' h2 h3 h4 => ?_
  · simp [dCells, Deed.cells] at hu
    rcases hu with rfl | rfl | rfl | rfl | rfl | rfl | rfl <;> rfl
  · refine h v' w' (by rw [flat_snoc]; exact h2) ?_ ?_
    · exact ((Below.refl B W).alloc hB _).grown h3 (by simp; omega) (fun j hj => (hown1.lt j hj).1)
    · exact ((Foot.refl _ W).alloc _).then_ (Foot.of_grown h3) (fun k hk => .inl hk)
end
end Go.Proofs.YtbdimfcdpkldpaaGreatDoor
