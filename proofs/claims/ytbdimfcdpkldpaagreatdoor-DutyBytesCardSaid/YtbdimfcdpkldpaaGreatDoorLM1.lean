/- Plain mathematics: an instruction's bytes, what bytes tell, and that an instruction is read from its bytes. Plain mathematics: what the reference's Get makes of values is what build answers. Plain mathematics of layer 8: a program's bytes, what bytes tell, round trips. Plain mathematics of layer 8: a program that bytes tell has those bytes. -/
import Derived.Test.YtbdimfcdpkldpaaGreatDoorLD5
import Derived.Test.YtbdimfcdpkldpaaGreatDoorLQ0
namespace Go.Proofs.YtbdimfcdpkldpaaGreatDoor
open Wire (RS rdByte rdNum truth numB truB)

/-- An operand as bytes. -/
def putB (o x : Nat) : List UInt8 := if o ≤ 2 then [UInt8.ofNat x] else if o = 6 then truB (x == 1) else numB x
theorem putB_len (o x : Nat) (hx : x < 18446744073709551616) : (putB o x).length ≤ 9 := by
  have := Wire.numB_len x hx
  unfold putB truB
  split
  · simp
  · split
    · simp
    · exact this
/-- An instruction's bytes. -/
def bytesD (d : Deed) : List UInt8 := UInt8.ofNat d.op.toNat :: (opr d.op).flatMap (fun o => putB o (ofD o d))
theorem bytesD_40 (d : Deed) (hd : d.ok) (ho : isOp d.op = true) : (bytesD d).length ≤ 14 := by
  have h := fun o => putB_len o _ (ofD_lt o d hd)
  have s : ∀ o, o ≤ 2 → (putB o (ofD o d)).length = 1 := fun o ho => by unfold putB; rw [if_pos ho]; rfl
  have s6 : (putB 6 (ofD 6 d)).length = 1 := rfl
  have h3 := h 3
  have h4 := h 4
  have h5 := h 5
  have s0 := s 0 (by decide)
  have s1 := s 1 (by decide)
  have s2 := s 2 (by decide)
  unfold bytesD
  generalize hop : d.op = op at *
  rcases isOp_cases ho with rfl | rfl | rfl | rfl | rfl | rfl | rfl | rfl | rfl | rfl | rfl
  all_goals
    simp only [opr, oprN, Int.reduceToNat, List.flatMap_cons, List.flatMap_nil, List.length_cons, List.length_append, List.length_nil]
    omega

/-- An operand read. -/
def getO (o : Nat) (st : RS) : RS × Nat :=
  if o ≤ 2 then rdByte st else if o = 6 then ((truth (rdByte st)).1, if (truth (rdByte st)).2 = true then 1 else 0) else rdNum st
def getAll : List Nat → RS → RS × List Nat
  | [], st => (st, [])
  | o :: os, st => ((getAll os (getO o st).1).1, (getO o st).2 :: (getAll os (getO o st).1).2)
theorem getAll_len : ∀ (os : List Nat) (st : RS), (getAll os st).2.length = os.length
  | [], _ => rfl
  | o :: os, st => by rw [getAll, List.length_cons, List.length_cons, getAll_len os]
/-- What Get answers behind its first byte k. -/
def getRest (k : Nat) (st : RS) : RS × Deed × Nat :=
  if (getAll (opr k) st).1.code = 0 then ((getAll (opr k) st).1, bldD k (getAll (opr k) st).2) else ((getAll (opr k) st).1, zeroD, (getAll (opr k) st).1.code)
def getD (st : RS) : RS × Deed × Nat :=
  if (rdByte st).1.code = 0 then (if isOp (rdByte st).2 = true then getRest (rdByte st).2 (rdByte st).1 else ((rdByte st).1, zeroD, 3)) else ((rdByte st).1, zeroD, (rdByte st).1.code)

theorem be_split (n x : Nat) (h : x < 256 ^ n) : Wire.val (Wire.be n x) = x := by rw [Wire.val_be, Nat.mod_eq_of_lt h]
theorem be_head (n x : Nat) (hn : 0 < n) (h : x < 256 ^ n) (h2 : 256 ^ (n - 1) ≤ x) (r : List UInt8) : ¬ (Wire.be n x ++ r).getD 0 0 = 0 := by
  obtain ⟨m, rfl⟩ : ∃ m, n = m + 1 := ⟨n - 1, by omega⟩
  rw [Wire.be_cons, List.cons_append, List.getD_cons_zero]
  simp only [Nat.add_sub_cancel] at h2
  have hp : 0 < 256 ^ m := Nat.pow_pos (by decide)
  have h3 : 1 ≤ x / 256 ^ m := (Nat.one_le_div_iff hp).2 h2
  have h4 : x / 256 ^ m < 256 := by rw [Nat.div_lt_iff_lt_mul hp]; rw [Nat.pow_succ] at h; omega
  intro e
  have := congrArg UInt8.toNat e
  rw [UInt8.toNat_ofNat_of_lt' (by show x / 256 ^ m % 256 < 256; omega), Nat.mod_eq_of_lt h4] at this
  simp at this
  omega
theorem rd_numB (x : Nat) (hx : x < 18446744073709551616) (r : List UInt8) : rdNum (.ok (numB x ++ r)) = (.ok r, x) := by
  obtain ⟨n8, nx, np⟩ := Wire.nb_facts x hx
  have e : (UInt8.ofNat (Wire.nb x)).toNat = Wire.nb x := UInt8.toNat_ofNat_of_lt' (by show Wire.nb x < 256; omega)
  have hl := Wire.be_len (Wire.nb x) x
  unfold numB
  rw [List.cons_append]
  unfold rdNum
  simp only [e]
  rw [if_neg (by omega), if_neg (by rw [List.length_append, hl]; omega), if_neg]
  · rw [List.drop_left' hl, List.take_left' hl, be_split _ _ nx]
  · rintro ⟨h0, h1⟩
    exact be_head _ _ h0 nx (np h0) r h1
theorem get_put (o x : Nat) (h2 : o ≤ 2 → x < 256) (h6 : o = 6 → x ≤ 1) (hx : x < 18446744073709551616) (r : List UInt8) : getO o (.ok (putB o x ++ r)) = (.ok r, x) := by
  unfold getO putB
  by_cases h : o ≤ 2
  · rw [if_pos h, if_pos h]
    show (RS.ok r, (UInt8.ofNat x).toNat) = _
    rw [UInt8.toNat_ofNat_of_lt' (h2 h)]
  · rw [if_neg h, if_neg h]
    by_cases h' : o = 6
    · rw [if_pos h', if_pos h']
      have := h6 h'
      obtain rfl | rfl : x = 0 ∨ x = 1 := by omega
      · rfl
      · rfl
    · rw [if_neg h', if_neg h', rd_numB x hx]
theorem get_all (f : Nat → Nat) (hf : ∀ o, f o < 18446744073709551616) (h6 : f 6 ≤ 1) : ∀ (os : List Nat), (∀ o ∈ os, o ≤ 2 → f o < 256) → ∀ r, getAll os (.ok (os.flatMap (fun o => putB o (f o)) ++ r)) = (.ok r, os.map f)
  | [], _, r => rfl
  | o :: os, h, r => by
    rw [List.flatMap_cons, List.append_assoc, getAll, get_put o (f o) (h o (by simp)) (fun e => by rw [e]; exact h6) (hf o), get_all f hf h6 os (fun q hq => h q (List.mem_cons_of_mem _ hq)) r, List.map_cons]
theorem fit_mem : ∀ (os : List Nat) (f : Nat → Nat), fitAll os (os.map f) = true → ∀ o ∈ os, fitsN o (f o) = true
  | [], _, _, _, h => by cases h
  | o :: os, f, hf, q, hq => by
    rw [List.map_cons, fitAll, Bool.and_eq_true] at hf
    rcases List.mem_cons.1 hq with e | hq
    · rw [e]; exact hf.1
    · exact fit_mem os f hf.2 q hq
theorem fit_le {o x : Nat} (h : fitsN o x = true) (ho : o ≤ 2) : x < 64 := by
  obtain rfl | rfl | rfl : o = 0 ∨ o = 1 ∨ o = 2 := by omega
  all_goals simp [fitsN] at h; omega
theorem get_bytes (d : Deed) (hd : d.ok) (hg : goodD d = true) : getD (.ok (bytesD d)) = (.ok [], d, 0) := by
  have ho := good_op hg
  have hb := bld_vals d hd hg
  have hfit : fitAll (opr d.op) (valsD d) = true := by
    unfold bldD at hb
    split at hb
    · assumption
    · cases hb
  have h11 : d.op.toNat < 256 := by rcases isOp_cases ho with h | h | h | h | h | h | h | h | h | h | h <;> rw [h] <;> decide
  have hi : ((d.op.toNat : Nat) : Int) = d.op := by rcases isOp_cases ho with h | h | h | h | h | h | h | h | h | h | h <;> rw [h] <;> rfl
  have hr : rdByte (.ok (bytesD d)) = (.ok ((opr d.op).flatMap (fun o => putB o (ofD o d)) ++ []), d.op.toNat) := by
    rw [List.append_nil]
    show (RS.ok _, (UInt8.ofNat d.op.toNat).toNat) = _
    rw [UInt8.toNat_ofNat_of_lt' h11]
  have ha := get_all (fun o => ofD o d) (fun o => ofD_lt o d hd) (by show ofD 6 d ≤ 1; unfold ofD; cases d.loose <;> simp) (opr d.op) (fun o hmem h2 => by
    have := fit_mem (opr d.op) (fun o => ofD o d) hfit o hmem
    have := fit_le this h2
    show ofD o d < 256
    omega) []
  unfold getD
  rw [hr]
  simp only [Wire.RS.code, if_true]
  rw [hi, if_pos ho]
  unfold getRest
  rw [hi, ha]
  simp only [Wire.RS.code, if_true]
  rw [show (opr d.op).map (fun o => ofD o d) = valsD d from rfl, hb]
end Go.Proofs.YtbdimfcdpkldpaaGreatDoor

namespace Go.Proofs.YtbdimfcdpkldpaaGreatDoor
open Wire (RS)

theorem end_get (op : Int) (ho : isOp op = true) (xs : List Nat) (hl : xs.length = (opr op).length) :
    bldD op xs = if goodD (setAll (opr op) xs (opD op)) = true then (setAll (opr op) xs (opD op), 0) else (zeroD, 5) := by
  have key : fitAll (opr op) xs = goodD (setAll (opr op) xs (opD op)) := by
    rw [Bool.eq_iff_iff]
    rcases isOp_cases ho with rfl | rfl | rfl | rfl | rfl | rfl | rfl | rfl | rfl | rfl | rfl
    · match xs, hl with
      | [x], _ => simp [opr, oprN, fitAll, fitsN, setAll, setD, opD, goodD, isOp, onlyD, cpAll, cpD, rangeD, eqD] <;> omega
    · match xs, hl with
      | [x, y, z, m, l], _ => simp [opr, oprN, fitAll, fitsN, setAll, setD, opD, goodD, isOp, onlyD, cpAll, cpD, rangeD, eqD] <;> omega
    · match xs, hl with
      | [x], _ => simp [opr, oprN, fitAll, fitsN, setAll, setD, opD, goodD, isOp, onlyD, cpAll, cpD, rangeD, eqD] <;> omega
    · match xs, hl with
      | [x], _ => simp [opr, oprN, fitAll, fitsN, setAll, setD, opD, goodD, isOp, onlyD, cpAll, cpD, rangeD, eqD] <;> omega
    · match xs, hl with
      | [], _ => simp [opr, oprN, fitAll, setAll, opD, goodD, isOp, onlyD, cpAll, rangeD, eqD] <;> omega
    · match xs, hl with
      | [x], _ => simp [opr, oprN, fitAll, fitsN, setAll, setD, opD, goodD, isOp, onlyD, cpAll, cpD, rangeD, eqD] <;> omega
    · match xs, hl with
      | [x, y], _ => simp [opr, oprN, fitAll, fitsN, setAll, setD, opD, goodD, isOp, onlyD, cpAll, cpD, rangeD, eqD] <;> omega
    · match xs, hl with
      | [x, y], _ => simp [opr, oprN, fitAll, fitsN, setAll, setD, opD, goodD, isOp, onlyD, cpAll, cpD, rangeD, eqD] <;> omega
    · match xs, hl with
      | [x], _ => simp [opr, oprN, fitAll, fitsN, setAll, setD, opD, goodD, isOp, onlyD, cpAll, cpD, rangeD, eqD] <;> omega
    · match xs, hl with
      | [x, y], _ => simp [opr, oprN, fitAll, fitsN, setAll, setD, opD, goodD, isOp, onlyD, cpAll, cpD, rangeD, eqD] <;> omega
    · match xs, hl with
      | [x], _ => simp [opr, oprN, fitAll, fitsN, setAll, setD, opD, goodD, isOp, onlyD, cpAll, cpD, rangeD, eqD] <;> omega
  unfold bldD
  rw [key]
def getGo : List Nat → RS → Deed → RS × Deed
  | [], st, d => (st, d)
  | o :: os, st, d => getGo os (getO o st).1 (setD o (getO o st).2 d)
theorem getGo_eq : ∀ (os : List Nat) (st : RS) (d : Deed), getGo os st d = ((getAll os st).1, setAll os (getAll os st).2 d)
  | [], st, d => rfl
  | o :: os, st, d => by rw [getGo, getGo_eq os, getAll, setAll]
end Go.Proofs.YtbdimfcdpkldpaaGreatDoor

namespace Go.Proofs.YtbdimfcdpkldpaaGreatDoor
open Wire (RS rdByte rdNum truth numB truB)

/-- A program's bytes. -/
def bytesP (ps : List Deed) : List UInt8 := numB ps.length ++ ps.flatMap bytesD
theorem flat_len14 : ∀ ps : List Deed, (∀ d ∈ ps, d.ok) → (∀ d ∈ ps, goodD d = true) → (ps.flatMap bytesD).length ≤ 14 * ps.length
  | [], _, _ => by simp
  | d :: ps, h, g => by
    have h1 := bytesD_40 d (h d (by simp)) (good_op (g d (by simp)))
    have h2 := flat_len14 ps (fun e he => h e (by simp [he])) (fun e he => g e (by simp [he]))
    rw [List.flatMap_cons, List.length_append, List.length_cons]
    omega
theorem bytesP_len (ps : List Deed) (h : ∀ d ∈ ps, d.ok) (h0 : checkN ps = 0) : (bytesP ps).length ≤ 3593 := by
  obtain ⟨hl, hg⟩ := checkN_zero.1 h0
  have h1 := flat_len14 ps h (fun d hd => goodP_mem hg hd)
  have h2 := Wire.numB_len ps.length (by omega)
  unfold bytesP
  rw [List.length_append]
  omega

/-- A program's instructions read: how many are left to read. -/
def getN : Nat → List Deed → RS → RS × List Deed × Nat
  | 0, acc, st => (st, acc, 0)
  | n + 1, acc, st => if (getD st).2.2 = 0 then getN n (acc ++ [(getD st).2.1]) (getD st).1 else ((getD st).1, [], (getD st).2.2)
/-- What Get answers. -/
def getP (st : RS) : RS × List Deed × Nat :=
  if (rdNum st).1.code = 0 then (if 256 < (rdNum st).2 then ((rdNum st).1, [], 4) else getN (rdNum st).2 [] (rdNum st).1) else ((rdNum st).1, [], (rdNum st).1.code)
/-- What Decode answers. -/
def doneR : RS → Nat
  | .ok [] => 0
  | .ok (_ :: _) => 3
  | .err e => e
def decP (l : List UInt8) : List Deed × Nat :=
  if (getP (.ok l)).2.2 = 0 then (if doneR (getP (.ok l)).1 = 0 then ((getP (.ok l)).2.1, 0) else ([], doneR (getP (.ok l)).1)) else ([], (getP (.ok l)).2.2)

/-! ### what was written is read -/
theorem get_bytes_r (d : Deed) (hd : d.ok) (hg : goodD d = true) (r : List UInt8) : getD (.ok (bytesD d ++ r)) = (.ok r, d, 0) := by
  have ho := good_op hg
  have hb := bld_vals d hd hg
  have hfit : fitAll (opr d.op) (valsD d) = true := by
    unfold bldD at hb
    split at hb
    · assumption
    · cases hb
  have h11 : d.op.toNat < 256 := by rcases isOp_cases ho with h | h | h | h | h | h | h | h | h | h | h <;> rw [h] <;> decide
  have hi : ((d.op.toNat : Nat) : Int) = d.op := by rcases isOp_cases ho with h | h | h | h | h | h | h | h | h | h | h <;> rw [h] <;> rfl
  have hr : rdByte (.ok (bytesD d ++ r)) = (.ok ((opr d.op).flatMap (fun o => putB o (ofD o d)) ++ r), d.op.toNat) := by
    show (RS.ok _, (UInt8.ofNat d.op.toNat).toNat) = _
    rw [UInt8.toNat_ofNat_of_lt' h11]
    rfl
  have ha := get_all (fun o => ofD o d) (fun o => ofD_lt o d hd) (by show ofD 6 d ≤ 1; unfold ofD; cases d.loose <;> simp) (opr d.op) (fun o hmem h2 => by
    have := fit_mem (opr d.op) (fun o => ofD o d) hfit o hmem
    have := fit_le this h2
    show ofD o d < 256
    omega) r
  unfold getD
  rw [hr]
  simp only [Wire.RS.code, if_true]
  rw [hi, if_pos ho]
  unfold getRest
  rw [hi, ha]
  simp only [Wire.RS.code, if_true]
  rw [show (opr d.op).map (fun o => ofD o d) = valsD d from rfl, hb]
theorem getN_bytes : ∀ (ps acc : List Deed) (r : List UInt8), (∀ d ∈ ps, d.ok) → (∀ d ∈ ps, goodD d = true) → getN ps.length acc (.ok (ps.flatMap bytesD ++ r)) = (.ok r, acc ++ ps, 0)
  | [], acc, r, _, _ => by simp [getN]
  | d :: ps, acc, r, h, g => by
    rw [List.length_cons, getN, List.flatMap_cons, List.append_assoc, get_bytes_r d (h d (by simp)) (g d (by simp))]
    simp only [if_true]
    rw [getN_bytes ps _ r (fun e he => h e (by simp [he])) (fun e he => g e (by simp [he])), List.append_assoc]
    rfl
theorem getP_bytes (ps : List Deed) (h : ∀ d ∈ ps, d.ok) (h0 : checkN ps = 0) (r : List UInt8) : getP (.ok (bytesP ps ++ r)) = (.ok r, ps, 0) := by
  obtain ⟨hl, hg⟩ := checkN_zero.1 h0
  unfold getP bytesP
  rw [List.append_assoc, rd_numB _ (by omega)]
  simp only [Wire.RS.code, if_true]
  rw [if_neg (by omega), getN_bytes ps [] r h (fun d hd => goodP_mem hg hd)]
  rfl
theorem decP_bytes (ps : List Deed) (h : ∀ d ∈ ps, d.ok) (h0 : checkN ps = 0) : decP (bytesP ps) = (ps, 0) := by
  have := getP_bytes ps h h0 []
  rw [List.append_nil] at this
  unfold decP
  rw [this]
  rfl

/-! ### what was read is written so -/
theorem numB_of_read (c : UInt8) (l : List UInt8) (h8 : ¬ 8 < c.toNat) (hl : ¬ l.length < c.toNat) (hz : ¬ (0 < c.toNat ∧ l.getD 0 0 = 0)) : numB (Wire.val (l.take c.toNat)) = c :: l.take c.toNat ∧ Wire.val (l.take c.toNat) < 18446744073709551616 := by
  have hlen : (l.take c.toNat).length = c.toNat := by rw [List.length_take]; omega
  have hlt := Wire.val_lt (l.take c.toNat)
  rw [hlen] at hlt
  have h2 : 256 ^ c.toNat ≤ 256 ^ 8 := Nat.pow_le_pow_right (by decide) (by omega)
  have h3 : (256 : Nat) ^ 8 = 18446744073709551616 := by decide
  have hx : Wire.val (l.take c.toNat) < 18446744073709551616 := by omega
  have hnb : Wire.nb (Wire.val (l.take c.toNat)) = c.toNat := by
    refine Wire.nb_uniq _ _ hx hlt fun hp => ?_
    cases l with
    | nil => simp at hl; omega
    | cons d l =>
      obtain ⟨k, hk⟩ : ∃ k, c.toNat = k + 1 := ⟨c.toNat - 1, by omega⟩
      have hd : 0 < d.toNat := by
        rcases Nat.eq_zero_or_pos d.toNat with e | e
        · exact absurd ⟨hp, by simp; exact UInt8.toNat_inj.1 (by simpa using e)⟩ hz
        · exact e
      rw [hk, List.take_succ_cons, Wire.val_cons, Nat.add_sub_cancel]
      have hl2 : (l.take k).length = k := by
        rw [hk, List.take_succ_cons, List.length_cons] at hlen; omega
      rw [hl2]
      calc 256 ^ k = 1 * 256 ^ k := by omega
        _ ≤ d.toNat * 256 ^ k := Nat.mul_le_mul_right _ hd
        _ ≤ _ := Nat.le_add_right _ _
  refine ⟨?_, hx⟩
  rw [numB, hnb]
  have hb := Wire.be_val (l.take c.toNat)
  rw [hlen] at hb
  rw [hb]
  simp
theorem rdNum_back {l r : List UInt8} {x : Nat} (h : rdNum (.ok l) = (.ok r, x)) : l = numB x ++ r ∧ x < 18446744073709551616 := by
  cases l with
  | nil => cases h
  | cons c l =>
    unfold rdNum at h
    simp only at h
    split at h
    · cases h
    · rename_i h8
      split at h
      · cases h
      · rename_i hl
        split at h
        · cases h
        · rename_i hz
          simp only [Prod.mk.injEq, RS.ok.injEq] at h
          obtain ⟨rfl, rfl⟩ := h
          obtain ⟨h1, h2⟩ := numB_of_read c l h8 hl hz
          refine ⟨?_, h2⟩
          rw [h1, List.cons_append, List.take_append_drop]
theorem rdByte_back {l r : List UInt8} {x : Nat} (h : rdByte (.ok l) = (.ok r, x)) : l = UInt8.ofNat x :: r ∧ x < 256 := by
  cases l with
  | nil => cases h
  | cons c l =>
    simp only [rdByte, Prod.mk.injEq, RS.ok.injEq] at h
    obtain ⟨rfl, rfl⟩ := h
    exact ⟨by simp, c.toNat_lt⟩
theorem getO_back {o : Nat} {l r : List UInt8} {x : Nat} (h : getO o (.ok l) = (.ok r, x)) : l = putB o x ++ r ∧ x < 18446744073709551616 ∧ (o = 6 → x ≤ 1) := by
  unfold getO at h
  unfold putB
  by_cases h2 : o ≤ 2
  · rw [if_pos h2] at h ⊢
    obtain ⟨h3, h4⟩ := rdByte_back h
    exact ⟨h3, by omega, fun e => by omega⟩
  · rw [if_neg h2] at h ⊢
    by_cases h6 : o = 6
    · rw [if_pos h6] at h ⊢
      cases l with
      | nil => cases h
      | cons c l =>
        have hb : rdByte (.ok (c :: l)) = (.ok l, c.toNat) := rfl
        rw [hb] at h
        have ht : truth (.ok l, c.toNat) = if 1 < c.toNat then (.err 3, false) else (.ok l, c.toNat == 1) := rfl
        by_cases h1 : 1 < c.toNat
        · rw [if_pos h1] at ht; rw [ht] at h; cases h
        · rw [if_neg h1] at ht
          rw [ht] at h
          simp only [Prod.mk.injEq, RS.ok.injEq, beq_iff_eq] at h
          obtain ⟨rfl, rfl⟩ := h
          rcases (show c.toNat = 0 ∨ c.toNat = 1 by omega) with e | e
          · have : c = 0 := UInt8.toNat_inj.1 (by simpa using e)
            subst this
            exact ⟨rfl, by decide, fun _ => by decide⟩
          · have : c = 1 := UInt8.toNat_inj.1 (by simpa using e)
            subst this
            exact ⟨rfl, by decide, fun _ => by decide⟩
    · rw [if_neg h6] at h ⊢
      obtain ⟨h3, h4⟩ := rdNum_back h
      exact ⟨h3, h4, fun e => absurd e h6⟩
theorem code_ok {st : RS} (h : st.code = 0) (hp : ∀ e, st = .err e → 0 < e) : ∃ l, st = .ok l := by
  cases st with
  | ok l => exact ⟨l, rfl⟩
  | err e => have := hp e rfl; simp [Wire.RS.code] at h; omega
def PosR (st : RS) : Prop := ∀ e, st = .err e → 0 < e
theorem pos_ok (l : List UInt8) : PosR (.ok l) := fun e h => by cases h
theorem pos_byte {st : RS} (h : PosR st) : PosR (rdByte st).1 := by
  cases st with
  | ok l =>
    cases l with
    | nil => intro e he; cases he; decide
    | cons c l => exact pos_ok _
  | err e => exact h
theorem pos_num {st : RS} (h : PosR st) : PosR (rdNum st).1 := by
  cases st with
  | ok l =>
    cases l with
    | nil => intro e he; cases he; decide
    | cons c l =>
      unfold rdNum
      simp only
      intro e he
      split at he
      · cases he; decide
      · split at he
        · cases he; decide
        · split at he
          · cases he; decide
          · cases he
  | err e => exact h
theorem pos_getO {st : RS} (o : Nat) (h : PosR st) : PosR (getO o st).1 := by
  unfold getO
  split
  · exact pos_byte h
  · split
    · have h1 := pos_byte h
      generalize rdByte st = q at *
      obtain ⟨q, x⟩ := q
      cases q with
      | ok l =>
        simp only [truth]
        split
        · intro e he; cases he; decide
        · exact pos_ok _
      | err e => exact h1
    · exact pos_num h
theorem pos_getAll : ∀ (os : List Nat) (st : RS), PosR st → PosR (getAll os st).1
  | [], _, h => h
  | o :: os, _st, h => pos_getAll os _ (pos_getO o h)
theorem getO_err (o e : Nat) : (getO o (.err e)).1 = .err e := by
  unfold getO
  split
  · rfl
  · split <;> rfl
theorem getAll_err : ∀ (os : List Nat) (e : Nat), (getAll os (.err e)).1 = .err e
  | [], _ => rfl
  | o :: os, e => by rw [getAll]; simp only; rw [getO_err]; exact getAll_err os e
theorem getAll_back : ∀ (os : List Nat) (l r : List UInt8) (xs : List Nat), getAll os (.ok l) = (.ok r, xs) → l = (os.zip xs).flatMap (fun p => putB p.1 p.2) ++ r ∧ (∀ x ∈ xs, x < 18446744073709551616) ∧ (∀ p ∈ os.zip xs, p.1 = 6 → p.2 ≤ 1) ∧ xs.length = os.length
  | [], l, r, xs, h => by
    simp only [getAll, Prod.mk.injEq, RS.ok.injEq] at h
    obtain ⟨rfl, rfl⟩ := h
    simp
  | o :: os, l, r, xs, h => by
    rw [getAll] at h
    simp only [Prod.mk.injEq] at h
    obtain ⟨h1, rfl⟩ := h
    cases hq : (getO o (.ok l)).1 with
    | err e => rw [hq, getAll_err] at h1; cases h1
    | ok m =>
      rw [hq] at h1
      obtain ⟨a1, a2, a3⟩ := getO_back (o := o) (l := l) (r := m) (x := (getO o (.ok l)).2) (by rw [← hq])
      obtain ⟨b1, b2, b3, b4⟩ := getAll_back os m r (getAll os (.ok m)).2 (by rw [← h1])
      refine ⟨?_, ?_, ?_, by simp [b4]⟩
      · rw [List.zip_cons_cons, List.flatMap_cons, List.append_assoc, ← b1]; exact a1
      · intro x hx
        rcases List.mem_cons.1 hx with rfl | hx
        · exact a2
        · exact b2 x hx
      · intro p hp
        rw [List.zip_cons_cons] at hp
        rcases List.mem_cons.1 hp with rfl | hp
        · exact a3
        · exact b3 p hp
end Go.Proofs.YtbdimfcdpkldpaaGreatDoor

namespace Go.Proofs.YtbdimfcdpkldpaaGreatDoor
open Wire (RS rdByte rdNum truth numB truB)

theorem wrapN_nat (x : Nat) : wrapN (x : Int) = x := by unfold wrapN; rw [if_pos (by omega)]; omega
theorem setD_op (o x : Nat) (d : Deed) : (setD o x d).op = d.op := by unfold setD; split <;> rfl
theorem setAll_op : ∀ (os xs : List Nat) (d : Deed), (setAll os xs d).op = d.op
  | [], _, _ => by simp [setAll]
  | _ :: _, [], _ => by simp [setAll]
  | o :: os, x :: xs, d => by rw [setAll, setAll_op os xs, setD_op]
theorem setAll_small : ∀ (os xs : List Nat) (d : Deed), (∀ x ∈ xs, x < 18446744073709551616) → d.n < 18446744073709551616 ∧ d.mask < 18446744073709551616 → (setAll os xs d).n < 18446744073709551616 ∧ (setAll os xs d).mask < 18446744073709551616
  | [], _, _, _, h => by simpa [setAll] using h
  | _ :: _, [], _, _, h => by simpa [setAll] using h
  | o :: os, x :: xs, d, hx, h => by
    rw [setAll]
    refine setAll_small os xs _ (fun y hy => hx y (List.mem_cons_of_mem _ hy)) ?_
    have h1 := hx x (by simp)
    unfold setD
    split
    · exact h
    · exact h
    · exact h
    · exact ⟨h.1, h1⟩
    · exact h
    · exact ⟨h1, h.2⟩
theorem bool_one (x : Nat) (h : x ≤ 1) : (if (x == 1) = true then 1 else 0) = x := by
  obtain rfl | rfl : x = 0 ∨ x = 1 := by omega
  · rfl
  · rfl
theorem vals_set (op : Int) (ho : isOp op = true) (xs : List Nat) (hl : xs.length = (opr op).length) (h6 : ∀ p ∈ (opr op).zip xs, p.1 = 6 → p.2 ≤ 1) : valsD (setAll (opr op) xs (opD op)) = xs := by
  unfold valsD
  rw [setAll_op]
  show (opr (opD op).op).map _ = xs
  rw [show (opD op).op = op from rfl]
  rcases isOp_cases ho with rfl | rfl | rfl | rfl | rfl | rfl | rfl | rfl | rfl | rfl | rfl
  · match xs, hl with
    | [x], _ => simp [opr, oprN, setAll, setD, ofD, opD]
  · match xs, hl with
    | [a, b, c, d, e], _ =>
      have := h6 (6, e) (by simp [opr, oprN]) rfl
      simp only [opr, oprN, Int.reduceToNat, setAll, setD, ofD, opD, wrapN_nat, List.map_cons, List.map_nil, bool_one e this]
  · match xs, hl with
    | [x], _ => simp [opr, oprN, setAll, setD, ofD, opD]
  · match xs, hl with
    | [x], _ => simp [opr, oprN, setAll, setD, ofD, opD, wrapN_nat]
  · match xs, hl with
    | [], _ => rfl
  · match xs, hl with
    | [x], _ => simp [opr, oprN, setAll, setD, ofD, opD]
  · match xs, hl with
    | [x, y], _ => simp [opr, oprN, setAll, setD, ofD, opD, wrapN_nat]
  · match xs, hl with
    | [x, y], _ => simp [opr, oprN, setAll, setD, ofD, opD, wrapN_nat]
  · match xs, hl with
    | [x], _ => simp [opr, oprN, setAll, setD, ofD, opD, wrapN_nat]
  · match xs, hl with
    | [x, y], _ => simp [opr, oprN, setAll, setD, ofD, opD, wrapN_nat]
  · match xs, hl with
    | [x], _ => simp [opr, oprN, setAll, setD, ofD, opD, wrapN_nat]
theorem zip_map : ∀ (os : List Nat) (f : Nat → Nat), (os.zip (os.map f)).flatMap (fun p => putB p.1 p.2) = os.flatMap (fun o => putB o (f o))
  | [], _ => rfl
  | o :: os, f => by rw [List.map_cons, List.zip_cons_cons, List.flatMap_cons, List.flatMap_cons, zip_map os f]
theorem ok_of_good {d : Deed} (hg : goodD d = true) (h : d.n < 18446744073709551616 ∧ d.mask < 18446744073709551616) : d.ok := by
  have ho := isOp_cases (good_op hg)
  unfold goodD rangeD at hg
  simp only [Bool.and_eq_true, decide_eq_true_eq] at hg
  obtain ⟨_, ⟨⟨⟨⟨h1, h2⟩, h3⟩, h4⟩, h5⟩, h6⟩ := hg
  exact ⟨by omega, by omega, by omega, by omega, h.1, h.2⟩

theorem getD_back {l r : List UInt8} {d : Deed} (h : getD (.ok l) = (.ok r, d, 0)) : l = bytesD d ++ r ∧ d.ok ∧ goodD d = true := by
  unfold getD at h
  by_cases hc : (rdByte (.ok l)).1.code = 0
  · rw [if_pos hc] at h
    by_cases ho : isOp (rdByte (.ok l)).2 = true
    · rw [if_pos ho] at h
      obtain ⟨m, hm⟩ := code_ok hc (pos_byte (pos_ok l))
      obtain ⟨k1, k2⟩ := rdByte_back (l := l) (r := m) (x := (rdByte (.ok l)).2) (by rw [← hm])
      rw [hm] at h
      generalize (rdByte (.ok l)).2 = k at *
      unfold getRest at h
      by_cases hz : (getAll (opr k) (.ok m)).1.code = 0
      · rw [if_pos hz] at h
        obtain ⟨m2, hm2⟩ := code_ok hz (pos_getAll _ _ (pos_ok m))
        simp only [Prod.mk.injEq] at h
        obtain ⟨h1, h2⟩ := h
        have h3 : m2 = r := by rw [hm2] at h1; injection h1
        subst h3
        obtain ⟨a1, a2, a3, a4⟩ := getAll_back (opr k) m m2 (getAll (opr k) (.ok m)).2 (by rw [← hm2])
        generalize (getAll (opr k) (.ok m)).2 = xs at *
        have he := end_get (k : Int) ho xs a4
        rw [h2] at he
        by_cases hg : goodD (setAll (opr k) xs (opD k)) = true
        · rw [if_pos hg] at he
          simp only [Prod.mk.injEq, and_true] at he
          rw [← he] at hg
          have hop : d.op = (k : Int) := by rw [he, setAll_op]; rfl
          have hv : valsD d = xs := by rw [he]; exact vals_set k ho xs a4 a3
          have hs := setAll_small (opr k) xs (opD k) a2 ⟨show (0 : Nat) < 18446744073709551616 by decide, show (0 : Nat) < 18446744073709551616 by decide⟩
          rw [← he] at hs
          refine ⟨?_, ok_of_good hg hs, hg⟩
          rw [k1, a1]
          unfold bytesD
          rw [hop, List.cons_append]
          have hz2 := zip_map (opr k) (fun o => ofD o d)
          have hv2 : (opr (k : Int)).map (fun o => ofD o d) = xs := by rw [← hop]; exact hv
          rw [hv2] at hz2
          rw [hz2]
          rfl
        · rw [if_neg hg] at he
          simp at he
      · rw [if_neg hz] at h
        simp only [Prod.mk.injEq] at h
        exact absurd h.2.2 hz
    · rw [if_neg ho] at h
      simp at h
  · rw [if_neg hc] at h
    simp only [Prod.mk.injEq] at h
    exact absurd h.2.2 hc
theorem getD_state {st : RS} (h : (getD st).2.2 = 0) (hp : PosR st) : ∃ l r, st = .ok l ∧ (getD st).1 = .ok r := by
  unfold getD at h ⊢
  by_cases hc : (rdByte st).1.code = 0
  · rw [if_pos hc] at h ⊢
    obtain ⟨m, hm⟩ := code_ok hc (pos_byte hp)
    have hst : ∃ l, st = .ok l := by
      cases st with
      | ok l => exact ⟨l, rfl⟩
      | err e => cases hm
    obtain ⟨l, rfl⟩ := hst
    refine ⟨l, ?_⟩
    by_cases ho : isOp (rdByte (.ok l)).2 = true
    · rw [if_pos ho] at h ⊢
      unfold getRest at h ⊢
      by_cases hz : (getAll (opr (rdByte (.ok l)).2) (rdByte (.ok l)).1).1.code = 0
      · rw [if_pos hz]
        obtain ⟨m2, hm2⟩ := code_ok hz (pos_getAll _ _ (pos_byte (pos_ok l)))
        exact ⟨m2, rfl, hm2⟩
      · rw [if_neg hz] at h
        exact absurd h hz
    · rw [if_neg ho] at h
      simp at h
  · rw [if_neg hc] at h
    exact absurd h hc
theorem getN_back : ∀ (n : Nat) (acc : List Deed) (l r : List UInt8) (ps : List Deed), getN n acc (.ok l) = (.ok r, ps, 0) → ∃ qs, ps = acc ++ qs ∧ qs.length = n ∧ l = qs.flatMap bytesD ++ r ∧ (∀ d ∈ qs, d.ok) ∧ (∀ d ∈ qs, goodD d = true)
  | 0, acc, l, r, ps, h => by
    simp only [getN, Prod.mk.injEq, RS.ok.injEq] at h
    obtain ⟨rfl, rfl, _⟩ := h
    exact ⟨[], by simp, rfl, by simp, by simp, by simp⟩
  | n + 1, acc, l, r, ps, h => by
    unfold getN at h
    by_cases hz : (getD (.ok l)).2.2 = 0
    · rw [if_pos hz] at h
      obtain ⟨l', m, hl', hm⟩ := getD_state hz (pos_ok l)
      obtain ⟨a1, a2, a3⟩ := getD_back (l := l) (r := m) (d := (getD (.ok l)).2.1) (by rw [← hm, ← hz])
      rw [hm] at h
      obtain ⟨qs, b1, b2, b3, b4, b5⟩ := getN_back n _ m r ps h
      refine ⟨(getD (.ok l)).2.1 :: qs, ?_, by simp [b2], ?_, ?_, ?_⟩
      · rw [b1, List.append_assoc]; rfl
      · rw [List.flatMap_cons, List.append_assoc, ← b3]; exact a1
      · intro d hd
        rcases List.mem_cons.1 hd with rfl | hd
        · exact a2
        · exact b4 d hd
      · intro d hd
        rcases List.mem_cons.1 hd with rfl | hd
        · exact a3
        · exact b5 d hd
    · rw [if_neg hz] at h
      simp only [Prod.mk.injEq] at h
      exact absurd h.2.2 hz
theorem getN_state : ∀ (n : Nat) (acc : List Deed) (l : List UInt8), (getN n acc (.ok l)).2.2 = 0 → ∃ r, (getN n acc (.ok l)).1 = .ok r
  | 0, _, l, _ => ⟨l, rfl⟩
  | n + 1, acc, l, h => by
    unfold getN at h ⊢
    by_cases hz : (getD (.ok l)).2.2 = 0
    · rw [if_pos hz] at h ⊢
      obtain ⟨_, m, _, hm⟩ := getD_state hz (pos_ok l)
      rw [hm] at h ⊢
      exact getN_state n _ m h
    · rw [if_neg hz] at h
      exact absurd h hz
theorem getP_back {l r : List UInt8} {ps : List Deed} (h : getP (.ok l) = (.ok r, ps, 0)) : l = bytesP ps ++ r ∧ (∀ d ∈ ps, d.ok) ∧ checkN ps = 0 := by
  unfold getP at h
  by_cases hc : (rdNum (.ok l)).1.code = 0
  · rw [if_pos hc] at h
    obtain ⟨m, hm⟩ := code_ok hc (pos_num (pos_ok l))
    obtain ⟨k1, k2⟩ := rdNum_back (l := l) (r := m) (x := (rdNum (.ok l)).2) (by rw [← hm])
    rw [hm] at h
    generalize (rdNum (.ok l)).2 = n at *
    by_cases hn : 256 < n
    · rw [if_pos hn] at h
      simp at h
    · rw [if_neg hn] at h
      obtain ⟨qs, b1, b2, b3, b4, b5⟩ := getN_back n [] m r ps h
      rw [List.nil_append] at b1
      subst b1
      refine ⟨?_, b4, checkN_zero.2 ⟨by omega, goodP_all b5⟩⟩
      unfold bytesP
      rw [k1, b3, b2, List.append_assoc]
  · rw [if_neg hc] at h
    simp only [Prod.mk.injEq] at h
    exact absurd h.2.2 hc
theorem getP_state {l : List UInt8} (h : (getP (.ok l)).2.2 = 0) : ∃ r, (getP (.ok l)).1 = .ok r := by
  unfold getP at h ⊢
  by_cases hc : (rdNum (.ok l)).1.code = 0
  · rw [if_pos hc] at h ⊢
    obtain ⟨m, hm⟩ := code_ok hc (pos_num (pos_ok l))
    rw [hm] at h ⊢
    by_cases hn : 256 < (rdNum (.ok l)).2
    · rw [if_pos hn] at h
      simp at h
    · rw [if_neg hn] at h ⊢
      exact getN_state _ _ m h
  · rw [if_neg hc] at h
    exact absurd h hc
theorem decP_back {l : List UInt8} (h : (decP l).2 = 0) : l = bytesP (decP l).1 ∧ (∀ d ∈ (decP l).1, d.ok) ∧ checkN (decP l).1 = 0 := by
  unfold decP at h ⊢
  by_cases hz : (getP (.ok l)).2.2 = 0
  · rw [if_pos hz] at h ⊢
    obtain ⟨r, hr⟩ := getP_state hz
    by_cases hd : doneR (getP (.ok l)).1 = 0
    · rw [if_pos hd]
      rw [hr] at hd
      have hrn : r = [] := by
        cases r with
        | nil => rfl
        | cons c r => simp [doneR] at hd
      subst hrn
      have := getP_back (l := l) (r := []) (ps := (getP (.ok l)).2.1) (by rw [← hr, ← hz])
      rw [List.append_nil] at this
      exact this
    · rw [if_neg hd] at h
      exact absurd h hd
  · rw [if_neg hz] at h
    exact absurd h hz
theorem decP_bad {l : List UInt8} (h : ¬ (decP l).2 = 0) : (decP l).1 = [] := by
  unfold decP at h ⊢
  split
  · split
    · rename_i h1 h2
      rw [if_pos h1, if_pos h2] at h
      exact absurd rfl h
    · rfl
  · rfl
end Go.Proofs.YtbdimfcdpkldpaaGreatDoor
