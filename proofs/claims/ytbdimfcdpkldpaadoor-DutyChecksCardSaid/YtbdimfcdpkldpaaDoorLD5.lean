/- The contract of the reference's Parse, where it ends ahead of its loop. The contract of the reference's Parse, its loop, at any operation but a spawn. Plain mathematics: the reference's way of parsing is the program's; an instruction is parsed from its line. Plain mathematics: an instruction is parsed from its line. -/
import Derived.Test.YtbdimfcdpkldpaaDoorLD4
import Derived.Test.YtbdimfcdpkldpaaDoorD15
namespace Go.Proofs.YtbdimfcdpkldpaaDoor
open Go.RowKit

section
variable (s0 : ByteArray) (hs : s0.size ≤ 4000) (w : World)
include hs
end
end Go.Proofs.YtbdimfcdpkldpaaDoor

namespace Go.Proofs.YtbdimfcdpkldpaaDoor
open Go.RowKit

def setP (o x : Nat) (d : Deed) : Deed :=
  match o with
  | 0 => { d with a := (smallN x : Int) }
  | 1 => { d with b := (smallN x : Int) }
  | 2 => { d with r := (smallN x : Int) }
  | 5 => { d with mask := x }
  | 6 => { d with loose := true }
  | _ => { d with n := x }
/-- What the reference's loop makes of words. -/
def refGo : List Nat → List (List UInt8) → Deed → Option Deed
  | o :: os, y :: ws, d => match rdW o y with
    | some x => refGo os ws (setP o x d)
    | none => none
  | _, _, d => some d
theorem refGo_nil (l : List Nat) (d : Deed) : refGo l [] d = some d := by cases l <;> rfl

section
variable (s0 : ByteArray) (hs : s0.size ≤ 4000) (w : World)
include hs
end
end Go.Proofs.YtbdimfcdpkldpaaDoor

namespace Go.Proofs.YtbdimfcdpkldpaaDoor

/-- What the reference's Parse answers. -/
def refEnd (o : Option Deed) : Deed × Nat := match o with
  | none => (zeroD, 3)
  | some d => if goodD d = true then (d, 0) else (zeroD, 5)
def progEnd (op : Int) (ws : List (List UInt8)) : Deed × Nat := if (readR op ws).2 = 0 then bldD op (readR op ws).1 else (zeroD, (readR op ws).2)

theorem smallN_64 (x : Nat) : smallN x < 64 ↔ x < 64 := by unfold smallN; split <;> omega
theorem smallN_8 (x : Nat) : smallN x < 8 ↔ x < 8 := by unfold smallN; split <;> omega
theorem smallN_eq (x : Nat) (h : x < 64) : smallN x = x := by unfold smallN; rw [if_neg (by omega)]

theorem end_one (op : Int) (o : Nat) (ho : opr op = [o]) (_h2 : (op == 2) = false) (ws : List (List UInt8)) (hl : ws.length = 1)
    (hb : ∀ x, bldD op [x] = if goodD (setP o x (opD op)) = true then (setP o x (opD op), 0) else (zeroD, 5)) : refEnd (refGo (opr op) ws (opD op)) = progEnd op ws := by
  match ws, hl with
  | [y], _ =>
    unfold progEnd readR lenOk
    rw [ho]
    cases h : rdW o y with
    | none => simp [refGo, rdAll, h, refEnd]
    | some x => simp [refGo, rdAll, h, refEnd, hb]
theorem end_two (op : Int) (o o' : Nat) (ho : opr op = [o, o']) (_h2 : (op == 2) = false) (ws : List (List UInt8)) (hl : ws.length = 2)
    (hb : ∀ x x', bldD op [x, x'] = if goodD (setP o' x' (setP o x (opD op))) = true then (setP o' x' (setP o x (opD op)), 0) else (zeroD, 5)) : refEnd (refGo (opr op) ws (opD op)) = progEnd op ws := by
  match ws, hl with
  | [y, y'], _ =>
    unfold progEnd readR lenOk
    rw [ho]
    cases h : rdW o y with
    | none => simp [refGo, rdAll, h, refEnd]
    | some x =>
      cases h' : rdW o' y' with
      | none => simp [refGo, rdAll, h, h', refEnd]
      | some x' => simp [refGo, rdAll, h, h', refEnd, hb]

theorem b_one (op : Int) (o x : Nat) (h : (op = 1 ∧ o = 3) ∨ (op = 3 ∧ o = 4) ∨ (op = 4 ∧ o = 2) ∨ (op = 6 ∧ o = 4) ∨ (op = 9 ∧ o = 0) ∨ (op = 11 ∧ o = 0)) : bldD op [x] = if goodD (setP o x (opD op)) = true then (setP o x (opD op), 0) else (zeroD, 5) := by
  have e64 := smallN_64 x
  have e8 := smallN_8 x
  have ee := smallN_eq x
  rcases h with ⟨rfl, rfl⟩ | ⟨rfl, rfl⟩ | ⟨rfl, rfl⟩ | ⟨rfl, rfl⟩ | ⟨rfl, rfl⟩ | ⟨rfl, rfl⟩
  all_goals
    simp only [bldD, opr, oprN, Int.reduceToNat, fitAll, fitsN, setAll, setD, setP, opD, goodD, isOp, onlyD, cpAll, cpD, rangeD, eqD]
    generalize smallN x = X at *
    by_cases h64 : x < 64 <;> by_cases h8 : x < 8 <;> by_cases h1 : x < 1 <;> by_cases h6 : 65536 < x
    all_goals simp [*]
    all_goals (repeat' split) <;> simp_all
    all_goals omega
theorem b_two (op : Int) (o o' x x' : Nat) (h : (op = 7 ∧ o = 2 ∧ o' = 5) ∨ (op = 8 ∧ o = 2 ∧ o' = 1) ∨ (op = 10 ∧ o = 0 ∧ o' = 4)) : bldD op [x, x'] = if goodD (setP o' x' (setP o x (opD op))) = true then (setP o' x' (setP o x (opD op)), 0) else (zeroD, 5) := by
  have e64 := smallN_64 x
  have e8 := smallN_8 x
  have ee := smallN_eq x
  have e8' := smallN_8 x'
  have ee' := smallN_eq x'
  rcases h with ⟨rfl, rfl, rfl⟩ | ⟨rfl, rfl, rfl⟩ | ⟨rfl, rfl, rfl⟩
  all_goals
    simp only [bldD, opr, oprN, Int.reduceToNat, fitAll, fitsN, setAll, setD, setP, opD, goodD, isOp, onlyD, cpAll, cpD, rangeD, eqD]
    generalize smallN x = X at *
    generalize smallN x' = X' at *
    by_cases h64 : x < 64 <;> by_cases h8 : x < 8 <;> by_cases h8' : x' < 8
    all_goals simp [*]
    all_goals (repeat' split) <;> simp_all
    all_goals omega
theorem b_spawn (a b r m : Nat) (l : Nat) (d : Deed) (hd : d = ⟨2, (smallN a : Int), (smallN b : Int), (smallN r : Int), 0, m, l == 1⟩) :
    bldD 2 [a, b, r, m, l] = if goodD d = true then (d, 0) else (zeroD, 5) := by
  subst hd
  have ea := smallN_64 a
  have ee := smallN_eq a
  have eb := smallN_8 b
  have eeb := smallN_eq b
  have er := smallN_8 r
  have eer := smallN_eq r
  simp only [bldD, opr, oprN, Int.reduceToNat, fitAll, fitsN, setAll, setD, opD, goodD, isOp, onlyD, cpAll, cpD, rangeD, eqD]
  generalize smallN a = A at *
  generalize smallN b = B at *
  generalize smallN r = C at *
  generalize (l == 1) = t
  by_cases ha : a < 64 <;> by_cases hb : b < 8 <;> by_cases hr : r < 8
  all_goals simp [*]
  all_goals (repeat' split) <;> simp_all
  all_goals omega
theorem end_spawn (ws : List (List UInt8)) (hl : ws.length = 4 ∨ ws.length = 5) : refEnd (refGo [0, 1, 2, 5, 6] ws (opD 2)) = progEnd 2 ws := by
  have ho : opr 2 = [0, 1, 2, 5, 6] := rfl
  rcases hl with hl | hl
  · match ws, hl with
    | [y0, y1, y2, y3], _ =>
      unfold progEnd readR lenOk
      rw [ho]
      cases h0 : rdW 0 y0 with
      | none => simp [refGo, rdAll, h0, refEnd]
      | some a =>
        cases h1 : rdW 1 y1 with
        | none => simp [refGo, rdAll, h0, h1, refEnd]
        | some b =>
          cases h2 : rdW 2 y2 with
          | none => simp [refGo, rdAll, h0, h1, h2, refEnd]
          | some r =>
            cases h3 : rdW 5 y3 with
            | none => simp [refGo, rdAll, h0, h1, h2, h3, refEnd]
            | some m =>
              have := b_spawn a b r m 0 (setP 5 m (setP 2 r (setP 1 b (setP 0 a (opD 2))))) rfl
              simp [refGo, rdAll, h0, h1, h2, h3, refEnd, this]
  · match ws, hl with
    | [y0, y1, y2, y3, y4], _ =>
      unfold progEnd readR lenOk
      rw [ho]
      cases h0 : rdW 0 y0 with
      | none => simp [refGo, rdAll, h0, refEnd]
      | some a =>
        cases h1 : rdW 1 y1 with
        | none => simp [refGo, rdAll, h0, h1, refEnd]
        | some b =>
          cases h2 : rdW 2 y2 with
          | none => simp [refGo, rdAll, h0, h1, h2, refEnd]
          | some r =>
            cases h3 : rdW 5 y3 with
            | none => simp [refGo, rdAll, h0, h1, h2, h3, refEnd]
            | some m =>
              cases h4 : rdW 6 y4 with
              | none => simp [refGo, rdAll, h0, h1, h2, h3, h4, refEnd]
              | some l =>
                have hl1 : l = 1 := by
                  unfold rdW at h4
                  simp at h4
                  exact h4.2.symm
                subst hl1
                have := b_spawn a b r m 1 (setP 6 1 (setP 5 m (setP 2 r (setP 1 b (setP 0 a (opD 2)))))) rfl
                simp [refGo, rdAll, h0, h1, h2, h3, h4, refEnd, this]
theorem end_all (op : Int) (ho : isOp op = true) (ws : List (List UInt8)) (hl : lenOk op (opr op).length ws.length = true) : refEnd (refGo (opr op) ws (opD op)) = progEnd op ws := by
  have hl' : ws.length = (opr op).length ∨ (ws.length + 1 = (opr op).length ∧ op = 2) := by
    unfold lenOk at hl
    simpa [Bool.or_eq_true, Bool.and_eq_true] using hl
  rcases isOp_cases ho with rfl | rfl | rfl | rfl | rfl | rfl | rfl | rfl | rfl | rfl | rfl
  · exact end_one 1 3 rfl rfl ws (by rcases hl' with h | ⟨_, h⟩; exact h; omega) (fun x => b_one 1 3 x (by simp))
  · exact end_spawn ws (by rcases hl' with h | ⟨h, _⟩; exact .inr h; left; change ws.length + 1 = 5 at h; omega)
  · exact end_one 3 4 rfl rfl ws (by rcases hl' with h | ⟨_, h⟩; exact h; omega) (fun x => b_one 3 4 x (by simp))
  · exact end_one 4 2 rfl rfl ws (by rcases hl' with h | ⟨_, h⟩; exact h; omega) (fun x => b_one 4 2 x (by simp))
  · have h0 : ws = [] := by
      rcases hl' with h | ⟨_, h⟩
      · exact List.eq_nil_of_length_eq_zero h
      · omega
    subst h0
    rfl
  · exact end_one 6 4 rfl rfl ws (by rcases hl' with h | ⟨_, h⟩; exact h; omega) (fun x => b_one 6 4 x (by simp))
  · exact end_two 7 2 5 rfl rfl ws (by rcases hl' with h | ⟨_, h⟩; exact h; omega) (fun x x' => b_two 7 2 5 x x' (by simp))
  · exact end_two 8 2 1 rfl rfl ws (by rcases hl' with h | ⟨_, h⟩; exact h; omega) (fun x x' => b_two 8 2 1 x x' (by simp))
  · exact end_one 9 0 rfl rfl ws (by rcases hl' with h | ⟨_, h⟩; exact h; omega) (fun x => b_one 9 0 x (by simp))
  · exact end_two 10 0 4 rfl rfl ws (by rcases hl' with h | ⟨_, h⟩; exact h; omega) (fun x x' => b_two 10 0 4 x x' (by simp))
  · exact end_one 11 0 rfl rfl ws (by rcases hl' with h | ⟨_, h⟩; exact h; omega) (fun x => b_one 11 0 x (by simp))
theorem short_same (ws : List (List UInt8)) (hl : ws.length = 4) (d : Deed) : refGo [0, 1, 2, 5] ws d = refGo [0, 1, 2, 5, 6] ws d := by
  match ws, hl with
  | [y0, y1, y2, y3], _ =>
    simp only [refGo]
end Go.Proofs.YtbdimfcdpkldpaaDoor

namespace Go.Proofs.YtbdimfcdpkldpaaDoor

/-- The words that an operand adds to a line. -/
def wL (o x : Nat) : List (List UInt8) := if o = 5 then [hexN 16 x] else if o = 6 then (if x = 1 then [looseL] else []) else [Lib.decDigits x]
theorem text_words (o x : Nat) : textN o x = joinT [32] (wL o x) := by
  unfold textN wL
  split
  · simp [joinT]
  · split
    · split <;> simp [joinT]
    · simp [joinT]
theorem joinT_append (bl : List UInt8) : ∀ a b : List (List UInt8), joinT bl (a ++ b) = joinT bl a ++ joinT bl b
  | [], b => rfl
  | w :: a, b => by rw [List.cons_append, joinT, joinT, joinT_append bl a b]; simp
theorem flat_words (f : Nat → Nat) : ∀ os : List Nat, os.flatMap (fun o => textN o (f o)) = joinT [32] (os.flatMap (fun o => wL o (f o)))
  | [] => rfl
  | o :: os => by rw [List.flatMap_cons, List.flatMap_cons, joinT_append, text_words, flat_words f os]
theorem val_blank : valB 32 = 16 := by decide
theorem all_word (b : Nat) (hb : b ≤ 16) (l : List UInt8) (h0 : l ≠ []) (h : allD b l = true) : isWord l := by
  refine ⟨h0, fun c hc e => ?_⟩
  subst e
  have := List.all_eq_true.1 h _ hc
  simp only [decide_eq_true_eq] at this
  rw [val_blank] at this
  omega
theorem dec_word (x : Nat) : isWord (Lib.decDigits x) := by
  obtain ⟨_, a2, a3, _⟩ := dec_facts (x + 1) x (by omega)
  exact all_word 10 (by decide) _ a3 a2
theorem hex_word (x : Nat) (h : x < 18446744073709551616) : isWord (hexN 16 x) := by
  obtain ⟨_, a2⟩ := hexN_facts 16 x (by omega)
  exact all_word 16 (by decide) _ (fun e => by have := hexN_len 16 x; rw [e] at this; cases this) a2
theorem loose_word : isWord looseL := ⟨by decide, by decide⟩
theorem name_word (op : Int) (h : isOp op = true) : isWord (nameN op.toNat) := by
  rcases isOp_cases h with rfl | rfl | rfl | rfl | rfl | rfl | rfl | rfl | rfl | rfl | rfl <;> exact ⟨by decide, by decide⟩
theorem name_op (op : Int) (h : isOp op = true) : (opOf (nameN op.toNat) : Int) = op ∧ ¬ opOf (nameN op.toNat) = 0 := by
  rcases isOp_cases h with rfl | rfl | rfl | rfl | rfl | rfl | rfl | rfl | rfl | rfl | rfl <;> decide
theorem wL_words (o x : Nat) (hx : x < 18446744073709551616) : ∀ w ∈ wL o x, isWord w := by
  intro w hw
  unfold wL at hw
  split at hw
  · rw [List.mem_singleton.1 hw]; exact hex_word x hx
  · split at hw
    · split at hw
      · rw [List.mem_singleton.1 hw]; exact loose_word
      · cases hw
    · rw [List.mem_singleton.1 hw]; exact dec_word x
theorem line_words (d : Deed) (hd : d.ok) (hg : goodD d = true) : wordsGo [] (lineD d) = nameN d.op.toNat :: (opr d.op).flatMap (fun o => wL o (ofD o d)) := by
  have ho := good_op hg
  unfold lineD
  rw [if_pos hg, flat_words]
  unfold nameD
  rw [if_pos ho]
  have := words_join [32] [] (by decide) (by decide) (by decide) (nameN d.op.toNat :: (opr d.op).flatMap (fun o => wL o (ofD o d))) (fun w hw => by
    rcases List.mem_cons.1 hw with e | hw
    · rw [e]; exact name_word _ ho
    · obtain ⟨o, _, hw⟩ := List.mem_flatMap.1 hw
      exact wL_words o _ (ofD_lt o d hd) w hw)
  rwa [List.append_nil, joinL] at this
theorem rd_num (o x : Nat) (h5 : o ≠ 5) (h6 : o ≠ 6) (hx : x < 18446744073709551616) : rdW o (Lib.decDigits x) = some x := by
  unfold rdW
  rw [if_neg h6, if_neg h5, read_dec x hx, if_pos rfl]
theorem rd_hex (x : Nat) (hx : x < 18446744073709551616) : rdW 5 (hexN 16 x) = some x := by
  unfold rdW
  rw [if_neg (by decide), if_pos rfl, hexR_hex x hx, if_pos rfl]
theorem rd_loose : rdW 6 looseL = some 1 := rfl
theorem read_line (d : Deed) (hd : d.ok) (ho : isOp d.op = true) : readR d.op ((opr d.op).flatMap (fun o => wL o (ofD o d))) = (valsD d, 0) := by
  have hx := fun o => ofD_lt o d hd
  have hlo : ofD 6 d = 0 ∨ ofD 6 d = 1 := by unfold ofD; cases d.loose <;> simp
  unfold valsD
  generalize hop : d.op = op at *
  generalize hf : (fun o => ofD o d) = f at *
  have hx' : ∀ o, f o < 18446744073709551616 := fun o => by rw [← hf]; exact hx o
  have hlo' : f 6 = 0 ∨ f 6 = 1 := by rw [← hf]; exact hlo
  have r : ∀ o, o ≠ 5 → o ≠ 6 → rdW o (Lib.decDigits (f o)) = some (f o) := fun o h5 h6 => rd_num o _ h5 h6 (hx' o)
  have r5 := rd_hex (f 5) (hx' 5)
  have e : ∀ o, ofD o d = f o := fun o => by rw [← hf]
  simp only [e]
  rcases isOp_cases ho with rfl | rfl | rfl | rfl | rfl | rfl | rfl | rfl | rfl | rfl | rfl
  · simp [readR, lenOk, opr, oprN, wL, rdAll, r]
  · rcases hlo' with h | h
    · simp [readR, lenOk, opr, oprN, wL, rdAll, r, r5, h]
    · simp [readR, lenOk, opr, oprN, wL, rdAll, r, r5, h, rd_loose]
  · simp [readR, lenOk, opr, oprN, wL, rdAll, r]
  · simp [readR, lenOk, opr, oprN, wL, rdAll, r]
  · simp [readR, lenOk, opr, oprN, rdAll]
  · simp [readR, lenOk, opr, oprN, wL, rdAll, r]
  · simp [readR, lenOk, opr, oprN, wL, rdAll, r, r5]
  · simp [readR, lenOk, opr, oprN, wL, rdAll, r]
  · simp [readR, lenOk, opr, oprN, wL, rdAll, r]
  · simp [readR, lenOk, opr, oprN, wL, rdAll, r]
  · simp [readR, lenOk, opr, oprN, wL, rdAll, r]
theorem bld_vals (d : Deed) (hd : d.ok) (hg : goodD d = true) : bldD d.op (valsD d) = (d, 0) := by
  rw [← good_same d hd] at hg
  unfold goodC at hg
  simp only [Bool.and_eq_true, beq_iff_eq] at hg
  exact Prod.ext ((eqD_iff _ _).1 hg.2.2) hg.2.1
theorem parse_line (d : Deed) (hd : d.ok) (hg : goodD d = true) : parseD (lineD d) = (d, 0) := by
  have ho := good_op hg
  obtain ⟨h1, h2⟩ := name_op d.op ho
  unfold parseD
  rw [line_words d hd hg]
  simp only [if_neg h2]
  rw [h1, read_line d hd ho, if_pos rfl, bld_vals d hd hg]
theorem parse_bad : parseD [63] = (zeroD, 15) := rfl
end Go.Proofs.YtbdimfcdpkldpaaDoor
