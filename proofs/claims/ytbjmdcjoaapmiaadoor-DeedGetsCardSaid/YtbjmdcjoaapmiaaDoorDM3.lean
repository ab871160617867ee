/- Plain mathematics: an instruction is parsed from its line. -/
import Derived.Test.YtbjmdcjoaapmiaaDoorDM2
namespace Go.Proofs.YtbjmdcjoaapmiaaDoor

/-- The words that an operand adds to a line. -/
def wL (o x : Nat) : List (List UInt8) := if o = 5 then [hexN 16 x] else if o = 6 then (if x = 1 then [looseL] else []) else [Lib.decDigits x]
theorem text_words (o x : Nat) : textN o x = joinT [32] (wL o x) := by
  unfold textN wL
  split
  · simp [joinT]
  · split
    · split <;> simp [joinT]
    · simp [joinT]
theorem joinT_append (bl : List UInt8) : ∀ a b : List (List UInt8), joinT bl (a ++ b) = joinT bl a ++ joinT bl b
  | [], b => rfl
  | w :: a, b => by rw [List.cons_append, joinT, joinT, joinT_append bl a b]; simp
theorem flat_words (f : Nat → Nat) : ∀ os : List Nat, os.flatMap (fun o => textN o (f o)) = joinT [32] (os.flatMap (fun o => wL o (f o)))
  | [] => rfl
  | o :: os => by rw [List.flatMap_cons, List.flatMap_cons, joinT_append, text_words, flat_words f os]
theorem val_blank : valB 32 = 16 := by decide
theorem all_word (b : Nat) (hb : b ≤ 16) (l : List UInt8) (h0 : l ≠ []) (h : allD b l = true) : isWord l := by
  refine ⟨h0, fun c hc e => ?_⟩
  subst e
  have := List.all_eq_true.1 h _ hc
  simp only [decide_eq_true_eq] at this
  rw [val_blank] at this
  omega
theorem dec_word (x : Nat) : isWord (Lib.decDigits x) := by
  obtain ⟨_, a2, a3, _⟩ := dec_facts (x + 1) x (by omega)
  exact all_word 10 (by decide) _ a3 a2
theorem hex_word (x : Nat) (h : x < 18446744073709551616) : isWord (hexN 16 x) := by
  obtain ⟨_, a2⟩ := hexN_facts 16 x (by omega)
  exact all_word 16 (by decide) _ (fun e => by have := hexN_len 16 x; rw [e] at this; cases this) a2
theorem loose_word : isWord looseL := ⟨by decide, by decide⟩
theorem name_word (op : Int) (h : isOp op = true) : isWord (nameN op.toNat) := by
  rcases isOp_cases h with rfl | rfl | rfl | rfl | rfl | rfl | rfl | rfl | rfl | rfl | rfl <;> exact ⟨by decide, by decide⟩
theorem name_op (op : Int) (h : isOp op = true) : (opOf (nameN op.toNat) : Int) = op ∧ ¬ opOf (nameN op.toNat) = 0 := by
  rcases isOp_cases h with rfl | rfl | rfl | rfl | rfl | rfl | rfl | rfl | rfl | rfl | rfl <;> decide
theorem wL_words (o x : Nat) (hx : x < 18446744073709551616) : ∀ w ∈ wL o x, isWord w := by
  intro w hw
  unfold wL at hw
  split at hw
  · rw [List.mem_singleton.1 hw]; exact hex_word x hx
  · split at hw
    · split at hw
      · rw [List.mem_singleton.1 hw]; exact loose_word
      · cases hw
    · rw [List.mem_singleton.1 hw]; exact dec_word x
theorem line_words (d : Deed) (hd : d.ok) (hg : goodD d = true) : wordsGo [] (lineD d) = nameN d.op.toNat :: (opr d.op).flatMap (fun o => wL o (ofD o d)) := by
  have ho := good_op hg
  unfold lineD
  rw [if_pos hg, flat_words]
  unfold nameD
  rw [if_pos ho]
  have := words_join [32] [] (by decide) (by decide) (by decide) (nameN d.op.toNat :: (opr d.op).flatMap (fun o => wL o (ofD o d))) (fun w hw => by
    rcases List.mem_cons.1 hw with e | hw
    · rw [e]; exact name_word _ ho
    · obtain ⟨o, _, hw⟩ := List.mem_flatMap.1 hw
      exact wL_words o _ (ofD_lt o d hd) w hw)
  rwa [List.append_nil, joinL] at this
theorem rd_num (o x : Nat) (h5 : o ≠ 5) (h6 : o ≠ 6) (hx : x < 18446744073709551616) : rdW o (Lib.decDigits x) = some x := by
  unfold rdW
  rw [if_neg h6, if_neg h5, read_dec x hx, if_pos rfl]
theorem rd_hex (x : Nat) (hx : x < 18446744073709551616) : rdW 5 (hexN 16 x) = some x := by
  unfold rdW
  rw [if_neg (by decide), if_pos rfl, hexR_hex x hx, if_pos rfl]
theorem rd_loose : rdW 6 looseL = some 1 := rfl
theorem read_line (d : Deed) (hd : d.ok) (ho : isOp d.op = true) : readR d.op ((opr d.op).flatMap (fun o => wL o (ofD o d))) = (valsD d, 0) := by
  have hx := fun o => ofD_lt o d hd
  have hlo : ofD 6 d = 0 ∨ ofD 6 d = 1 := by unfold ofD; cases d.loose <;> simp
  unfold valsD
  generalize hop : d.op = op at *
  generalize hf : (fun o => ofD o d) = f at *
  have hx' : ∀ o, f o < 18446744073709551616 := fun o => by rw [← hf]; exact hx o
  have hlo' : f 6 = 0 ∨ f 6 = 1 := by rw [← hf]; exact hlo
  have r : ∀ o, o ≠ 5 → o ≠ 6 → rdW o (Lib.decDigits (f o)) = some (f o) := fun o h5 h6 => rd_num o _ h5 h6 (hx' o)
  have r5 := rd_hex (f 5) (hx' 5)
  have e : ∀ o, ofD o d = f o := fun o => by rw [← hf]
  simp only [e]
  rcases isOp_cases ho with rfl | rfl | rfl | rfl | rfl | rfl | rfl | rfl | rfl | rfl | rfl
  · simp [readR, lenOk, opr, oprN, wL, rdAll, r]
  · rcases hlo' with h | h
    · simp [readR, lenOk, opr, oprN, wL, rdAll, r, r5, h]
    · simp [readR, lenOk, opr, oprN, wL, rdAll, r, r5, h, rd_loose]
  · simp [readR, lenOk, opr, oprN, wL, rdAll, r]
  · simp [readR, lenOk, opr, oprN, wL, rdAll, r]
  · simp [readR, lenOk, opr, oprN, rdAll]
  · simp [readR, lenOk, opr, oprN, wL, rdAll, r]
  · simp [readR, lenOk, opr, oprN, wL, rdAll, r, r5]
  · simp [readR, lenOk, opr, oprN, wL, rdAll, r]
  · simp [readR, lenOk, opr, oprN, wL, rdAll, r]
  · simp [readR, lenOk, opr, oprN, wL, rdAll, r]
  · simp [readR, lenOk, opr, oprN, wL, rdAll, r]
theorem bld_vals (d : Deed) (hd : d.ok) (hg : goodD d = true) : bldD d.op (valsD d) = (d, 0) := by
  rw [← good_same d hd] at hg
  unfold goodC at hg
  simp only [Bool.and_eq_true, beq_iff_eq] at hg
  exact Prod.ext ((eqD_iff _ _).1 hg.2.2) hg.2.1
theorem parse_line (d : Deed) (hd : d.ok) (hg : goodD d = true) : parseD (lineD d) = (d, 0) := by
  have ho := good_op hg
  obtain ⟨h1, h2⟩ := name_op d.op ho
  unfold parseD
  rw [line_words d hd hg]
  simp only [if_neg h2]
  rw [h1, read_line d hd ho, if_pos rfl, bld_vals d hd hg]
theorem parse_bad : parseD [63] = (zeroD, 15) := rfl
end Go.Proofs.YtbjmdcjoaapmiaaDoor
