/- Plain mathematics: the reference's way of parsing is the program's; an instruction is parsed from its line. -/
import Derived.Test.YtbjmdcjoaapmiaaDoorD20
namespace Go.Proofs.YtbjmdcjoaapmiaaDoor

/-- What the reference's Parse answers. -/
def refEnd (o : Option Deed) : Deed × Nat := match o with
  | none => (zeroD, 3)
  | some d => if goodD d = true then (d, 0) else (zeroD, 5)
def progEnd (op : Int) (ws : List (List UInt8)) : Deed × Nat := if (readR op ws).2 = 0 then bldD op (readR op ws).1 else (zeroD, (readR op ws).2)

theorem smallN_64 (x : Nat) : smallN x < 64 ↔ x < 64 := by unfold smallN; split <;> omega
theorem smallN_8 (x : Nat) : smallN x < 8 ↔ x < 8 := by unfold smallN; split <;> omega
theorem smallN_eq (x : Nat) (h : x < 64) : smallN x = x := by unfold smallN; rw [if_neg (by omega)]

theorem end_one (op : Int) (o : Nat) (ho : opr op = [o]) (_h2 : (op == 2) = false) (ws : List (List UInt8)) (hl : ws.length = 1)
    (hb : ∀ x, bldD op [x] = if goodD (setP o x (opD op)) = true then (setP o x (opD op), 0) else (zeroD, 5)) : refEnd (refGo (opr op) ws (opD op)) = progEnd op ws := by
  match ws, hl with
  | [y], _ =>
    unfold progEnd readR lenOk
    rw [ho]
    cases h : rdW o y with
    | none => simp [refGo, rdAll, h, refEnd]
    | some x => simp [refGo, rdAll, h, refEnd, hb]
theorem end_two (op : Int) (o o' : Nat) (ho : opr op = [o, o']) (_h2 : (op == 2) = false) (ws : List (List UInt8)) (hl : ws.length = 2)
    (hb : ∀ x x', bldD op [x, x'] = if goodD (setP o' x' (setP o x (opD op))) = true then (setP o' x' (setP o x (opD op)), 0) else (zeroD, 5)) : refEnd (refGo (opr op) ws (opD op)) = progEnd op ws := by
  match ws, hl with
  | [y, y'], _ =>
    unfold progEnd readR lenOk
    rw [ho]
    cases h : rdW o y with
    | none => simp [refGo, rdAll, h, refEnd]
    | some x =>
      cases h' : rdW o' y' with
      | none => simp [refGo, rdAll, h, h', refEnd]
      | some x' => simp [refGo, rdAll, h, h', refEnd, hb]

theorem b_one (op : Int) (o x : Nat) (h : (op = 1 ∧ o = 3) ∨ (op = 3 ∧ o = 4) ∨ (op = 4 ∧ o = 2) ∨ (op = 6 ∧ o = 4) ∨ (op = 9 ∧ o = 0) ∨ (op = 11 ∧ o = 0)) : bldD op [x] = if goodD (setP o x (opD op)) = true then (setP o x (opD op), 0) else (zeroD, 5) := by
  have e64 := smallN_64 x
  have e8 := smallN_8 x
  have ee := smallN_eq x
  rcases h with ⟨rfl, rfl⟩ | ⟨rfl, rfl⟩ | ⟨rfl, rfl⟩ | ⟨rfl, rfl⟩ | ⟨rfl, rfl⟩ | ⟨rfl, rfl⟩
  all_goals
    simp only [bldD, opr, oprN, Int.reduceToNat, fitAll, fitsN, setAll, setD, setP, opD, goodD, isOp, onlyD, cpAll, cpD, rangeD, eqD]
    generalize smallN x = X at *
    by_cases h64 : x < 64 <;> by_cases h8 : x < 8 <;> by_cases h1 : x < 1 <;> by_cases h6 : 65536 < x
    all_goals simp [*]
    all_goals (repeat' split) <;> simp_all
    all_goals omega
theorem b_two (op : Int) (o o' x x' : Nat) (h : (op = 7 ∧ o = 2 ∧ o' = 5) ∨ (op = 8 ∧ o = 2 ∧ o' = 1) ∨ (op = 10 ∧ o = 0 ∧ o' = 4)) : bldD op [x, x'] = if goodD (setP o' x' (setP o x (opD op))) = true then (setP o' x' (setP o x (opD op)), 0) else (zeroD, 5) := by
  have e64 := smallN_64 x
  have e8 := smallN_8 x
  have ee := smallN_eq x
  have e8' := smallN_8 x'
  have ee' := smallN_eq x'
  rcases h with ⟨rfl, rfl, rfl⟩ | ⟨rfl, rfl, rfl⟩ | ⟨rfl, rfl, rfl⟩
  all_goals
    simp only [bldD, opr, oprN, Int.reduceToNat, fitAll, fitsN, setAll, setD, setP, opD, goodD, isOp, onlyD, cpAll, cpD, rangeD, eqD]
    generalize smallN x = X at *
    generalize smallN x' = X' at *
    by_cases h64 : x < 64 <;> by_cases h8 : x < 8 <;> by_cases h8' : x' < 8
    all_goals simp [*]
    all_goals (repeat' split) <;> simp_all
    all_goals omega
theorem b_spawn (a b r m : Nat) (l : Nat) (d : Deed) (hd : d = ⟨2, (smallN a : Int), (smallN b : Int), (smallN r : Int), 0, m, l == 1⟩) :
    bldD 2 [a, b, r, m, l] = if goodD d = true then (d, 0) else (zeroD, 5) := by
  subst hd
  have ea := smallN_64 a
  have ee := smallN_eq a
  have eb := smallN_8 b
  have eeb := smallN_eq b
  have er := smallN_8 r
  have eer := smallN_eq r
  simp only [bldD, opr, oprN, Int.reduceToNat, fitAll, fitsN, setAll, setD, opD, goodD, isOp, onlyD, cpAll, cpD, rangeD, eqD]
  generalize smallN a = A at *
  generalize smallN b = B at *
  generalize smallN r = C at *
  generalize (l == 1) = t
  by_cases ha : a < 64 <;> by_cases hb : b < 8 <;> by_cases hr : r < 8
  all_goals simp [*]
  all_goals (repeat' split) <;> simp_all
  all_goals omega
theorem end_spawn (ws : List (List UInt8)) (hl : ws.length = 4 ∨ ws.length = 5) : refEnd (refGo [0, 1, 2, 5, 6] ws (opD 2)) = progEnd 2 ws := by
  have ho : opr 2 = [0, 1, 2, 5, 6] := rfl
  rcases hl with hl | hl
  · match ws, hl with
    | [y0, y1, y2, y3], _ =>
      unfold progEnd readR lenOk
      rw [ho]
      cases h0 : rdW 0 y0 with
      | none => simp [refGo, rdAll, h0, refEnd]
      | some a =>
        cases h1 : rdW 1 y1 with
        | none => simp [refGo, rdAll, h0, h1, refEnd]
        | some b =>
          cases h2 : rdW 2 y2 with
          | none => simp [refGo, rdAll, h0, h1, h2, refEnd]
          | some r =>
            cases h3 : rdW 5 y3 with
            | none => simp [refGo, rdAll, h0, h1, h2, h3, refEnd]
            | some m =>
              have := b_spawn a b r m 0 (setP 5 m (setP 2 r (setP 1 b (setP 0 a (opD 2))))) rfl
              simp [refGo, rdAll, h0, h1, h2, h3, refEnd, this]
  · match ws, hl with
    | [y0, y1, y2, y3, y4], _ =>
      unfold progEnd readR lenOk
      rw [ho]
      cases h0 : rdW 0 y0 with
      | none => simp [refGo, rdAll, h0, refEnd]
      | some a =>
        cases h1 : rdW 1 y1 with
        | none => simp [refGo, rdAll, h0, h1, refEnd]
        | some b =>
          cases h2 : rdW 2 y2 with
          | none => simp [refGo, rdAll, h0, h1, h2, refEnd]
          | some r =>
            cases h3 : rdW 5 y3 with
            | none => simp [refGo, rdAll, h0, h1, h2, h3, refEnd]
            | some m =>
              cases h4 : rdW 6 y4 with
              | none => simp [refGo, rdAll, h0, h1, h2, h3, h4, refEnd]
              | some l =>
                have hl1 : l = 1 := by
                  unfold rdW at h4
                  simp at h4
                  exact h4.2.symm
                subst hl1
                have := b_spawn a b r m 1 (setP 6 1 (setP 5 m (setP 2 r (setP 1 b (setP 0 a (opD 2)))))) rfl
                simp [refGo, rdAll, h0, h1, h2, h3, h4, refEnd, this]
theorem end_all (op : Int) (ho : isOp op = true) (ws : List (List UInt8)) (hl : lenOk op (opr op).length ws.length = true) : refEnd (refGo (opr op) ws (opD op)) = progEnd op ws := by
  have hl' : ws.length = (opr op).length ∨ (ws.length + 1 = (opr op).length ∧ op = 2) := by
    unfold lenOk at hl
    simpa [Bool.or_eq_true, Bool.and_eq_true] using hl
  rcases isOp_cases ho with rfl | rfl | rfl | rfl | rfl | rfl | rfl | rfl | rfl | rfl | rfl
  · exact end_one 1 3 rfl rfl ws (by rcases hl' with h | ⟨_, h⟩; exact h; omega) (fun x => b_one 1 3 x (by simp))
  · exact end_spawn ws (by rcases hl' with h | ⟨h, _⟩; exact .inr h; left; change ws.length + 1 = 5 at h; omega)
  · exact end_one 3 4 rfl rfl ws (by rcases hl' with h | ⟨_, h⟩; exact h; omega) (fun x => b_one 3 4 x (by simp))
  · exact end_one 4 2 rfl rfl ws (by rcases hl' with h | ⟨_, h⟩; exact h; omega) (fun x => b_one 4 2 x (by simp))
  · have h0 : ws = [] := by
      rcases hl' with h | ⟨_, h⟩
      · exact List.eq_nil_of_length_eq_zero h
      · omega
    subst h0
    rfl
  · exact end_one 6 4 rfl rfl ws (by rcases hl' with h | ⟨_, h⟩; exact h; omega) (fun x => b_one 6 4 x (by simp))
  · exact end_two 7 2 5 rfl rfl ws (by rcases hl' with h | ⟨_, h⟩; exact h; omega) (fun x x' => b_two 7 2 5 x x' (by simp))
  · exact end_two 8 2 1 rfl rfl ws (by rcases hl' with h | ⟨_, h⟩; exact h; omega) (fun x x' => b_two 8 2 1 x x' (by simp))
  · exact end_one 9 0 rfl rfl ws (by rcases hl' with h | ⟨_, h⟩; exact h; omega) (fun x => b_one 9 0 x (by simp))
  · exact end_two 10 0 4 rfl rfl ws (by rcases hl' with h | ⟨_, h⟩; exact h; omega) (fun x x' => b_two 10 0 4 x x' (by simp))
  · exact end_one 11 0 rfl rfl ws (by rcases hl' with h | ⟨_, h⟩; exact h; omega) (fun x => b_one 11 0 x (by simp))
theorem short_same (ws : List (List UInt8)) (hl : ws.length = 4) (d : Deed) : refGo [0, 1, 2, 5] ws d = refGo [0, 1, 2, 5, 6] ws d := by
  match ws, hl with
  | [y0, y1, y2, y3], _ =>
    simp only [refGo]
end Go.Proofs.YtbjmdcjoaapmiaaDoor
