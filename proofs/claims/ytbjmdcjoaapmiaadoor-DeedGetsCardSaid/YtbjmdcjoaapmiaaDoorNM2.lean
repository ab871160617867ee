/- The words of a text: plain mathematics, no run of the program. -/
import Derived.Test.YtbjmdcjoaapmiaaDoorNM
namespace Go.Proofs.YtbjmdcjoaapmiaaDoor

/-- The words of what is left of a text, with the word that has begun. -/
def wordsGo : List UInt8 → List UInt8 → List (List UInt8)
  | cur, [] => if cur = [] then [] else [cur]
  | cur, c :: r => if c = 32 then (if cur = [] then wordsGo [] r else cur :: wordsGo [] r) else wordsGo (cur ++ [c]) r
def addW (ws : List (List UInt8)) (w : List UInt8) : List (List UInt8) := if w = [] then ws else ws ++ [w]
theorem addW_nil (ws : List (List UInt8)) : addW ws [] = ws := by unfold addW; rw [if_pos rfl]
theorem addW_some (ws : List (List UInt8)) {w : List UInt8} (h : w ≠ []) : addW ws w = ws ++ [w] := by unfold addW; rw [if_neg h]

theorem go_chunk : ∀ (ch cur rest : List UInt8), (∀ c ∈ ch, c ≠ 32) → wordsGo cur (ch ++ rest) = wordsGo (cur ++ ch) rest
  | [], cur, rest, _ => by simp
  | c :: ch, cur, rest, h => by
    rw [List.cons_append, wordsGo, if_neg (h c (by simp)), go_chunk ch _ rest (fun d hd => h d (by simp [hd])), List.append_assoc]
    rfl
theorem go_blank (ws : List (List UInt8)) (cur rest : List UInt8) : ws ++ wordsGo cur (32 :: rest) = addW ws cur ++ wordsGo [] rest := by
  rw [wordsGo, if_pos rfl]
  by_cases h : cur = []
  · rw [if_pos h, h, addW_nil]
  · rw [if_neg h, addW_some ws h]; simp
theorem go_end (ws : List (List UInt8)) (cur : List UInt8) : ws ++ wordsGo cur [] = addW ws cur := by
  rw [wordsGo]
  by_cases h : cur = []
  · rw [if_pos h, h, addW_nil]; simp
  · rw [if_neg h, addW_some ws h]

/-- A word: some bytes, and no blank among them. -/
def isWord (w : List UInt8) : Prop := w ≠ [] ∧ ∀ c ∈ w, c ≠ 32
theorem go_words : ∀ (l cur : List UInt8), (∀ c ∈ cur, c ≠ 32) → ∀ w ∈ wordsGo cur l, isWord w
  | [], cur, h, w, hw => by
    rw [wordsGo] at hw
    split at hw
    · simp at hw
    · rename_i h0
      rw [List.mem_singleton.1 hw]
      exact ⟨h0, h⟩
  | c :: r, cur, h, w, hw => by
    rw [wordsGo] at hw
    split at hw
    · split at hw
      · exact go_words r [] (fun _ h => by simp at h) w hw
      · rename_i h0
        rcases List.mem_cons.1 hw with e | hw
        · rw [e]; exact ⟨h0, h⟩
        · exact go_words r [] (fun _ h => by simp at h) w hw
    · rename_i hc
      refine go_words r (cur ++ [c]) (fun d hd => ?_) w hw
      rcases List.mem_append.1 hd with hd | hd
      · exact h d hd
      · rw [List.mem_singleton.1 hd]; exact hc
/-- How long all words together are. -/
def total (ws : List (List UInt8)) : Nat := (ws.map List.length).sum
theorem total_cons (w : List UInt8) (ws : List (List UInt8)) : total (w :: ws) = w.length + total ws := by simp [total]
theorem total_append (a b : List (List UInt8)) : total (a ++ b) = total a + total b := by simp [total]
theorem go_total : ∀ (l cur : List UInt8), total (wordsGo cur l) ≤ cur.length + l.length
  | [], cur => by
    rw [wordsGo]
    split
    · simp [total]
    · simp [total]
  | c :: r, cur => by
    rw [wordsGo]
    have h0 := go_total r []
    split
    · split
      · simp at h0 ⊢; omega
      · rw [total_cons]; simp at h0 ⊢; omega
    · have := go_total r (cur ++ [c])
      simp at this ⊢; omega
theorem len_total : ∀ (ws : List (List UInt8)), (∀ w ∈ ws, isWord w) → ws.length ≤ total ws
  | [], _ => by simp [total]
  | w :: ws, h => by
    have ih := len_total ws (fun v hv => h v (by simp [hv]))
    have := (h w (by simp)).1
    have : 1 ≤ w.length := List.length_pos_iff.2 this
    rw [total_cons, List.length_cons]; omega

/-! ### words put together -/
def joinT (bl : List UInt8) : List (List UInt8) → List UInt8
  | [] => []
  | w :: r => bl ++ (w ++ joinT bl r)
def joinL (bl : List UInt8) : List (List UInt8) → List UInt8
  | [] => []
  | w :: r => w ++ joinT bl r
theorem joinT_snoc (bl : List UInt8) : ∀ (ws : List (List UInt8)) (w : List UInt8), joinT bl (ws ++ [w]) = joinT bl ws ++ (bl ++ w)
  | [], w => by simp [joinT]
  | v :: ws, w => by rw [List.cons_append, joinT, joinT_snoc bl ws w, joinT]; simp
theorem joinL_snoc (bl : List UInt8) (ws : List (List UInt8)) (w : List UInt8) (h : ws ≠ []) : joinL bl (ws ++ [w]) = joinL bl ws ++ (bl ++ w) := by
  cases ws with
  | nil => exact absurd rfl h
  | cons v ws => rw [List.cons_append, joinL, joinT_snoc, joinL]; simp
theorem joinL_one (bl w : List UInt8) : joinL bl [w] = w := by simp [joinL, joinT]
theorem joinT_len (bl : List UInt8) : ∀ ws, (joinT bl ws).length = total ws + ws.length * bl.length
  | [] => by simp [joinT, total]
  | w :: r => by rw [joinT, List.length_append, List.length_append, joinT_len bl r, total_cons, List.length_cons, Nat.succ_mul]; omega
theorem joinL_len (bl : List UInt8) (ws : List (List UInt8)) : (joinL bl ws).length ≤ total ws + ws.length * bl.length := by
  cases ws with
  | nil => simp [joinL]
  | cons w r => rw [joinL, List.length_append, joinT_len bl r, total_cons, List.length_cons, Nat.succ_mul]; omega

theorem go_blanks : ∀ (bl rest : List UInt8), (∀ c ∈ bl, c = 32) → wordsGo [] (bl ++ rest) = wordsGo [] rest
  | [], _, _ => rfl
  | c :: bl, rest, h => by
    rw [List.cons_append, h c (by simp), wordsGo, if_pos rfl, if_pos rfl]
    exact go_blanks bl rest (fun d hd => h d (by simp [hd]))
theorem go_tail (bl t : List UInt8) (hb : bl ≠ []) (hbl : ∀ c ∈ bl, c = 32) (ht : ∀ c ∈ t, c = 32) : ∀ (ws : List (List UInt8)) (cur : List UInt8), cur ≠ [] → (∀ w ∈ ws, isWord w) → wordsGo cur (joinT bl ws ++ t) = cur :: ws
  | [], cur, hc, _ => by
    rw [joinT, List.nil_append]
    cases t with
    | nil => rw [wordsGo, if_neg hc]
    | cons d t =>
      have := go_blanks t [] (fun e he => ht e (by simp [he]))
      rw [List.append_nil] at this
      rw [ht d (by simp), wordsGo, if_pos rfl, if_neg hc, this]
      rfl
  | w :: ws, cur, hc, h => by
    obtain ⟨d, bl', rfl⟩ : ∃ d b', bl = d :: b' := by cases bl with
      | nil => exact absurd rfl hb
      | cons d b' => exact ⟨d, b', rfl⟩
    have hw := h w (by simp)
    have h1 := go_chunk w [] (joinT (d :: bl') ws ++ t) hw.2
    rw [List.nil_append, go_tail (d :: bl') t hb hbl ht ws w hw.1 (fun v hv => h v (by simp [hv]))] at h1
    have h2 := go_blanks bl' (w ++ (joinT (d :: bl') ws ++ t)) (fun e he => hbl e (by simp [he]))
    rw [joinT, List.append_assoc, List.append_assoc, List.cons_append, hbl d (by simp), wordsGo, if_pos rfl, if_neg hc]
    rw [hbl d (by simp)] at h1 h2
    rw [h2, h1]
/-- The words of words put together. -/
theorem words_join (bl t : List UInt8) (hb : bl ≠ []) (hbl : ∀ c ∈ bl, c = 32) (ht : ∀ c ∈ t, c = 32) (ws : List (List UInt8)) (h : ∀ w ∈ ws, isWord w) : wordsGo [] (joinL bl ws ++ t) = ws := by
  cases ws with
  | nil =>
    have := go_blanks t [] ht
    rw [List.append_nil] at this
    rw [joinL, List.nil_append, this]; rfl
  | cons w ws =>
    have hw := h w (by simp)
    rw [joinL, List.append_assoc, go_chunk w [] _ hw.2]
    exact go_tail bl t hb hbl ht ws w hw.1 (fun v hv => h v (by simp [hv]))
end Go.Proofs.YtbjmdcjoaapmiaaDoor
