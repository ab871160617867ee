/- Texts merged: DM4 D25 D26 D24 D27 D28 DM5. -/
import Derived.Test.YtbjmdcjoaapmiaaDoorDM3
import Derived.Test.YtbjmdcjoaapmiaaDoorD5
import Derived.Test.YtbjmdcjoaapmiaaDoorWZ
import Derived.Test.YtbjmdcjoaapmiaaDoorB4
import Derived.Test.YtbjmdcjoaapmiaaDoorD8
import Derived.Test.YtbjmdcjoaapmiaaDoorD13
import Derived.Test.YtbjmdcjoaapmiaaDoorW4
import Derived.Test.YtbjmdcjoaapmiaaDoorD15
import Derived.Test.YtbjmdcjoaapmiaaDoorD23
namespace Go.Proofs.YtbjmdcjoaapmiaaDoor
open Wire (RS rdByte rdNum truth numB truB)

/-- An operand as bytes. -/
def putB (o x : Nat) : List UInt8 := if o ≤ 2 then [UInt8.ofNat x] else if o = 6 then truB (x == 1) else numB x
theorem putB_len (o x : Nat) (hx : x < 18446744073709551616) : (putB o x).length ≤ 9 := by
  have := Wire.numB_len x hx
  unfold putB truB
  split
  · simp
  · split
    · simp
    · exact this
/-- An instruction's bytes. -/
def bytesD (d : Deed) : List UInt8 := UInt8.ofNat d.op.toNat :: (opr d.op).flatMap (fun o => putB o (ofD o d))
theorem bytesD_40 (d : Deed) (hd : d.ok) (ho : isOp d.op = true) : (bytesD d).length ≤ 14 := by
  have h := fun o => putB_len o _ (ofD_lt o d hd)
  have s : ∀ o, o ≤ 2 → (putB o (ofD o d)).length = 1 := fun o ho => by unfold putB; rw [if_pos ho]; rfl
  have s6 : (putB 6 (ofD 6 d)).length = 1 := rfl
  have h3 := h 3
  have h4 := h 4
  have h5 := h 5
  have s0 := s 0 (by decide)
  have s1 := s 1 (by decide)
  have s2 := s 2 (by decide)
  unfold bytesD
  generalize hop : d.op = op at *
  rcases isOp_cases ho with rfl | rfl | rfl | rfl | rfl | rfl | rfl | rfl | rfl | rfl | rfl
  all_goals
    simp only [opr, oprN, Int.reduceToNat, List.flatMap_cons, List.flatMap_nil, List.length_cons, List.length_append, List.length_nil]
    omega

/-- An operand read. -/
def getO (o : Nat) (st : RS) : RS × Nat :=
  if o ≤ 2 then rdByte st else if o = 6 then ((truth (rdByte st)).1, if (truth (rdByte st)).2 = true then 1 else 0) else rdNum st
def getAll : List Nat → RS → RS × List Nat
  | [], st => (st, [])
  | o :: os, st => ((getAll os (getO o st).1).1, (getO o st).2 :: (getAll os (getO o st).1).2)
theorem getAll_len : ∀ (os : List Nat) (st : RS), (getAll os st).2.length = os.length
  | [], _ => rfl
  | o :: os, st => by rw [getAll, List.length_cons, List.length_cons, getAll_len os]
/-- What Get answers behind its first byte k. -/
def getRest (k : Nat) (st : RS) : RS × Deed × Nat :=
  if (getAll (opr k) st).1.code = 0 then ((getAll (opr k) st).1, bldD k (getAll (opr k) st).2) else ((getAll (opr k) st).1, zeroD, (getAll (opr k) st).1.code)
def getD (st : RS) : RS × Deed × Nat :=
  if (rdByte st).1.code = 0 then (if isOp (rdByte st).2 = true then getRest (rdByte st).2 (rdByte st).1 else ((rdByte st).1, zeroD, 3)) else ((rdByte st).1, zeroD, (rdByte st).1.code)

theorem be_split (n x : Nat) (h : x < 256 ^ n) : Wire.val (Wire.be n x) = x := by rw [Wire.val_be, Nat.mod_eq_of_lt h]
theorem be_head (n x : Nat) (hn : 0 < n) (h : x < 256 ^ n) (h2 : 256 ^ (n - 1) ≤ x) (r : List UInt8) : ¬ (Wire.be n x ++ r).getD 0 0 = 0 := by
  obtain ⟨m, rfl⟩ : ∃ m, n = m + 1 := ⟨n - 1, by omega⟩
  rw [Wire.be_cons, List.cons_append, List.getD_cons_zero]
  simp only [Nat.add_sub_cancel] at h2
  have hp : 0 < 256 ^ m := Nat.pow_pos (by decide)
  have h3 : 1 ≤ x / 256 ^ m := (Nat.one_le_div_iff hp).2 h2
  have h4 : x / 256 ^ m < 256 := by rw [Nat.div_lt_iff_lt_mul hp]; rw [Nat.pow_succ] at h; omega
  intro e
  have := congrArg UInt8.toNat e
  rw [UInt8.toNat_ofNat_of_lt' (by show x / 256 ^ m % 256 < 256; omega), Nat.mod_eq_of_lt h4] at this
  simp at this
  omega
theorem rd_numB (x : Nat) (hx : x < 18446744073709551616) (r : List UInt8) : rdNum (.ok (numB x ++ r)) = (.ok r, x) := by
  obtain ⟨n8, nx, np⟩ := Wire.nb_facts x hx
  have e : (UInt8.ofNat (Wire.nb x)).toNat = Wire.nb x := UInt8.toNat_ofNat_of_lt' (by show Wire.nb x < 256; omega)
  have hl := Wire.be_len (Wire.nb x) x
  unfold numB
  rw [List.cons_append]
  unfold rdNum
  simp only [e]
  rw [if_neg (by omega), if_neg (by rw [List.length_append, hl]; omega), if_neg]
  · rw [List.drop_left' hl, List.take_left' hl, be_split _ _ nx]
  · rintro ⟨h0, h1⟩
    exact be_head _ _ h0 nx (np h0) r h1
theorem get_put (o x : Nat) (h2 : o ≤ 2 → x < 256) (h6 : o = 6 → x ≤ 1) (hx : x < 18446744073709551616) (r : List UInt8) : getO o (.ok (putB o x ++ r)) = (.ok r, x) := by
  unfold getO putB
  by_cases h : o ≤ 2
  · rw [if_pos h, if_pos h]
    show (RS.ok r, (UInt8.ofNat x).toNat) = _
    rw [UInt8.toNat_ofNat_of_lt' (h2 h)]
  · rw [if_neg h, if_neg h]
    by_cases h' : o = 6
    · rw [if_pos h', if_pos h']
      have := h6 h'
      obtain rfl | rfl : x = 0 ∨ x = 1 := by omega
      · rfl
      · rfl
    · rw [if_neg h', if_neg h', rd_numB x hx]
theorem get_all (f : Nat → Nat) (hf : ∀ o, f o < 18446744073709551616) (h6 : f 6 ≤ 1) : ∀ (os : List Nat), (∀ o ∈ os, o ≤ 2 → f o < 256) → ∀ r, getAll os (.ok (os.flatMap (fun o => putB o (f o)) ++ r)) = (.ok r, os.map f)
  | [], _, r => rfl
  | o :: os, h, r => by
    rw [List.flatMap_cons, List.append_assoc, getAll, get_put o (f o) (h o (by simp)) (fun e => by rw [e]; exact h6) (hf o), get_all f hf h6 os (fun q hq => h q (List.mem_cons_of_mem _ hq)) r, List.map_cons]
theorem fit_mem : ∀ (os : List Nat) (f : Nat → Nat), fitAll os (os.map f) = true → ∀ o ∈ os, fitsN o (f o) = true
  | [], _, _, _, h => by cases h
  | o :: os, f, hf, q, hq => by
    rw [List.map_cons, fitAll, Bool.and_eq_true] at hf
    rcases List.mem_cons.1 hq with e | hq
    · rw [e]; exact hf.1
    · exact fit_mem os f hf.2 q hq
theorem fit_le {o x : Nat} (h : fitsN o x = true) (ho : o ≤ 2) : x < 64 := by
  obtain rfl | rfl | rfl : o = 0 ∨ o = 1 ∨ o = 2 := by omega
  all_goals simp [fitsN] at h; omega
theorem get_bytes (d : Deed) (hd : d.ok) (hg : goodD d = true) : getD (.ok (bytesD d)) = (.ok [], d, 0) := by
  have ho := good_op hg
  have hb := bld_vals d hd hg
  have hfit : fitAll (opr d.op) (valsD d) = true := by
    unfold bldD at hb
    split at hb
    · assumption
    · cases hb
  have h11 : d.op.toNat < 256 := by rcases isOp_cases ho with h | h | h | h | h | h | h | h | h | h | h <;> rw [h] <;> decide
  have hi : ((d.op.toNat : Nat) : Int) = d.op := by rcases isOp_cases ho with h | h | h | h | h | h | h | h | h | h | h <;> rw [h] <;> rfl
  have hr : rdByte (.ok (bytesD d)) = (.ok ((opr d.op).flatMap (fun o => putB o (ofD o d)) ++ []), d.op.toNat) := by
    rw [List.append_nil]
    show (RS.ok _, (UInt8.ofNat d.op.toNat).toNat) = _
    rw [UInt8.toNat_ofNat_of_lt' h11]
  have ha := get_all (fun o => ofD o d) (fun o => ofD_lt o d hd) (by show ofD 6 d ≤ 1; unfold ofD; cases d.loose <;> simp) (opr d.op) (fun o hmem h2 => by
    have := fit_mem (opr d.op) (fun o => ofD o d) hfit o hmem
    have := fit_le this h2
    show ofD o d < 256
    omega) []
  unfold getD
  rw [hr]
  simp only [Wire.RS.code, if_true]
  rw [hi, if_pos ho]
  unfold getRest
  rw [hi, ha]
  simp only [Wire.RS.code, if_true]
  rw [show (opr d.op).map (fun o => ofD o d) = valsD d from rfl, hb]
end Go.Proofs.YtbjmdcjoaapmiaaDoor

namespace Go.Proofs.YtbjmdcjoaapmiaaDoor
open Go.RowKit
open Wire (RS rdByte rdNum truth RdAt RdOut)

set_option maxHeartbeats 1000000 in
theorem get_any (o r : Nat) (ho : o < 7) (st : RS) (w : World) (h : RdAt w r st) :
    Calls Tryd.prog 54 #[.int .i64 o, .pointer (some ⟨r, 0, none⟩)] w fun e w' => e = .returned (.int .u64 ((getO o st).2 : Nat)) ∧ RdOut w w' r (getO o st).1 := by
  by_cases h2 : o ≤ 2
  · have hb := Wire.RByte_any r st w h
    have hs := Wire.rdByte_snd st
    rw [show getO o st = rdByte st by unfold getO; rw [if_pos h2]]
    generalize rdByte st = q at *
    clear h
    obtain rfl | rfl | rfl : o = 0 ∨ o = 1 ∨ o = 2 := by omega
    all_goals
      go_enter Tryd.func54, Tryd.ntmps54
      go_wp2_with (go_at_call 52; (with_reducible refine hb.mono ?_); clear hb; rintro e w' ⟨rfl, hs⟩)
      go_ret
      exact ⟨rfl, hs⟩
  · by_cases h6 : o = 6
    · subst h6
      have hb := Wire.RTruth_any' r st w h
      rw [show getO 6 st = ((truth (rdByte st)).1, if (truth (rdByte st)).2 = true then 1 else 0) from rfl]
      generalize truth (rdByte st) = q at *
      obtain ⟨q1, q2⟩ := q
      clear h
      cases q2
      all_goals
        go_enter Tryd.func54, Tryd.ntmps54
        go_wp2_with (go_at_call 74; (with_reducible refine hb.mono ?_); clear hb; rintro e w' ⟨rfl, hs⟩)
        go_ret
        exact ⟨rfl, hs⟩
    · have hb := Wire.RdNum_any r st w h
      rw [show getO o st = rdNum st by unfold getO; rw [if_neg h2, if_neg h6]]
      generalize rdNum st = q at *
      clear h
      obtain rfl | rfl | rfl : o = 3 ∨ o = 4 ∨ o = 5 := by omega
      all_goals
        go_enter Tryd.func54, Tryd.ntmps54
        go_wp2_with (go_at_call 75; (with_reducible refine hb.mono ?_); clear hb; rintro e w' ⟨rfl, hs⟩)
        go_ret
        exact ⟨rfl, hs⟩

set_option maxHeartbeats 400000 in
theorem Get_nil (w : World) :
    Calls Tryd.prog 23 #[.pointer none] w fun e w' => e = .returned (.tuple #[.agg zeroD.cells, .int .i64 14]) ∧ Below w.heap.size w w' := by
  have hbr0 := Blk.new w 24 zeroD.cells
  have hb0 := below_alloc1 w (.cells zeroD.cells 24)
  go_enter Tryd.func23, Tryd.ntmps23
  go_wp2_with (first
    | (refine wpList_alloc_agg rfl 24 rfl zeroD.cells zeroR ?_)
    | (go_at_call 52; (with_reducible refine (Wire.RByte_nil _).mono ?_); rintro e w' ⟨rfl, rfl⟩)
    | (go_at_call 53; (with_reducible refine (Wire.Err_nil _).mono ?_); rintro e w' ⟨rfl, rfl⟩)
    | (refine wpList_store_row rfl 24 _ _ rfl w.heap.size zeroD.cells rfl rfl 24 _ hbr0 (sizeD _) rfl (oneD _) ?_))
  refine bodyPost_ret (results_row_tmp rfl _ _ w.heap.size 24 zeroD.cells (0, 0) _ rfl (hbr0.row _) Tryd.underlying24 rfl (sizeD _)) rfl ?_
  exact ⟨rfl, hb0.trans (foot_row _ (Nat.le_refl _))⟩

theorem Foot.row {S : Nat → Prop} {w w1 : World} (h : Foot S w w1) {g : Nat} (hg : w.heap.size ≤ g) (cs : Array Value) : Foot S w (w1.setRow g cs) := h.then_ (foot_setRow w1 g cs) (fun x (hx : x = g) => .inr (by omega))
theorem rd_row {w : World} {r g : Nat} {st : RS} (h : RdAt w r st) (hg : r < g) (cs : Array Value) : RdAt (w.setRow g cs) r st := h.under (foot_row (B := g) cs (Nat.le_refl _)) hg

section
variable (r : Nat) (st : RS) (w : World) (h : RdAt w r st)
include h
set_option maxHeartbeats 1000000 in
theorem Get_err (hc : ¬ (rdByte st).1.code = 0) :
    Calls Tryd.prog 23 #[.pointer (some ⟨r, 0, none⟩)] w fun e w' => e = .returned (.tuple #[.agg zeroD.cells, .int .i64 ((rdByte st).1.code : Int)]) ∧ RdOut w w' r (rdByte st).1 := by
  have hbr0 := Blk.new w 24 zeroD.cells
  have hrl := h.lt
  have h0 := h.below (below_alloc1 w (.cells zeroD.cells 24)) (Nat.le_refl _)
  have F0 := (Foot.refl (fun k => k = r) w).alloc (.cells zeroD.cells 24)
  have hb := Wire.RByte_any r st _ h0
  have hs := Wire.rdByte_snd st
  generalize rdByte st = q at *
  have he := fun W hW => Wire.Err_any r q.1 W hW
  have ty : ((q.1.code : Int) != 0) = true := by simp; omega
  clear h h0 hc
  go_enter Tryd.func23, Tryd.ntmps23
  go_wp2_with (first
    | (refine wpList_alloc_agg rfl 24 rfl zeroD.cells zeroR ?_)
    | (go_at_call 52; (with_reducible refine hb.mono ?_); clear hb; rintro e w1 ⟨rfl, h1⟩; have hbr1 := hbr0.foot h1.2 (by omega))
    | (go_at_call 53; refine (he _ h1.1).mono ?_; clear he; rintro e w2 ⟨rfl, rfl⟩)
    | (refine wpList_store_row rfl 24 _ _ rfl w.heap.size zeroD.cells rfl rfl 24 _ hbr1 (sizeD _) rfl (oneD _) ?_))
  refine bodyPost_ret (results_row_tmp rfl _ _ w.heap.size 24 zeroD.cells (0, 0) _ rfl (hbr1.row _) Tryd.underlying24 rfl (sizeD _)) rfl ?_
  exact ⟨rfl, rd_row h1.1 hrl _, (F0.trans h1.2).row (Nat.le_refl _) _⟩
set_option maxHeartbeats 1000000 in
theorem Get_op (hc : (rdByte st).1.code = 0) (ho : ¬ isOp (rdByte st).2 = true) :
    Calls Tryd.prog 23 #[.pointer (some ⟨r, 0, none⟩)] w fun e w' => e = .returned (.tuple #[.agg zeroD.cells, .int .i64 3]) ∧ RdOut w w' r (rdByte st).1 := by
  have hbr0 := Blk.new w 24 zeroD.cells
  have hrl := h.lt
  have h0 := h.below (below_alloc1 w (.cells zeroD.cells 24)) (Nat.le_refl _)
  have F0 := (Foot.refl (fun k => k = r) w).alloc (.cells zeroD.cells 24)
  have hb := Wire.RByte_any r st _ h0
  have hs := Wire.rdByte_snd st
  have hop := isOp_any (rdByte st).2
  rw [show isOp (rdByte st).2 = false by simpa using ho] at hop
  generalize rdByte st = q at *
  have he : ∀ W, RdAt W r q.1 → Calls Tryd.prog 53 #[.pointer (some ⟨r, 0, none⟩)] W fun e w' => e = .returned (.int .i64 0) ∧ W = w' := fun W hW => by have := Wire.Err_any r q.1 W hW; rw [hc] at this; exact this
  clear h h0 hc ho
  go_enter Tryd.func23, Tryd.ntmps23
  go_wp2_with (first
    | (refine wpList_alloc_agg rfl 24 rfl zeroD.cells zeroR ?_)
    | (go_at_call 52; (with_reducible refine hb.mono ?_); clear hb; rintro e w1 ⟨rfl, h1⟩; have hbr1 := hbr0.foot h1.2 (by omega))
    | (go_at_call 53; refine (he _ h1.1).mono ?_; clear he; rintro e w2 ⟨rfl, rfl⟩)
    | (go_at_call 28; refine (hop _).mono ?_; clear hop; rintro e w2 ⟨rfl, rfl⟩)
    | (refine wpList_store_row rfl 24 _ _ rfl w.heap.size zeroD.cells rfl rfl 24 _ hbr1 (sizeD _) rfl (oneD _) ?_))
  refine bodyPost_ret (results_row_tmp rfl _ _ w.heap.size 24 zeroD.cells (0, 0) _ rfl (hbr1.row _) Tryd.underlying24 rfl (sizeD _)) rfl ?_
  exact ⟨rfl, rd_row h1.1 hrl _, (F0.trans h1.2).row (Nat.le_refl _) _⟩
end
end Go.Proofs.YtbjmdcjoaapmiaaDoor

namespace Go.Proofs.YtbjmdcjoaapmiaaDoor
open Go.RowKit
open Wire (RS rdByte rdNum truth RdAt RdOut)

theorem getO_lt (o : Nat) (st : RS) : (getO o st).2 < 18446744073709551616 := by
  unfold getO
  split
  · have := Wire.rdByte_snd st; omega
  · split
    · show (if (truth (rdByte st)).2 = true then 1 else 0) < 18446744073709551616
      split <;> omega
    · exact Wire.rdNum_lt st

set_option maxRecDepth 100000 in
set_option maxHeartbeats 4000000 in
theorem Get_rest (r : Nat) (st : RS) (w : World) (h : RdAt w r st) (hc : (rdByte st).1.code = 0) (ho : isOp (rdByte st).2 = true) (D : Deed) (y : Nat) (S2 : RS)
    (hR : getRest (rdByte st).2 (rdByte st).1 = (S2, D, y)) :
    Calls Tryd.prog 23 #[.pointer (some ⟨r, 0, none⟩)] w fun e w' => e = .returned (.tuple #[.agg D.cells, .int .i64 (y : Int)]) ∧ RdOut w w' r S2 := by
  obtain ⟨i0, hi, hz0, hz1, hz2⟩ := info_parts infoU
  have hbr0 := Blk.new w 24 zeroD.cells
  have hrl := h.lt
  have h0 := h.below (below_alloc1 w (.cells zeroD.cells 24)) (Nat.le_refl _)
  have F0 := (Foot.refl (fun k => k = r) w).alloc (.cells zeroD.cells 24)
  have hb := Wire.RByte_any r st _ h0
  have hs := Wire.rdByte_snd st
  have hop := isOp_any (rdByte st).2
  rw [ho] at hop
  have hops := operands_any ((rdByte st).2 : Int) ho
  have h7 := Lib.hid (opr_lt ((rdByte st).2 : Int) ho)
  have h5 := opr_len ((rdByte st).2 : Int) ho
  have hbu := fun xs hx v G W hv => build_any ((rdByte st).2 : Int) ho xs hx v G W hv
  generalize rdByte st = q at *
  have he : ∀ W, RdAt W r q.1 → Calls Tryd.prog 53 #[.pointer (some ⟨r, 0, none⟩)] W fun e w' => e = .returned (.int .i64 0) ∧ W = w' := fun W hW => by have := Wire.Err_any r q.1 W hW; rw [hc] at this; exact this
  obtain ⟨q1, k0⟩ := q
  simp only at hb hs hop hops h7 h5 hbu he hR
  unfold getRest at hR
  have hll := getAll_len (opr (k0 : Int)) q1
  have hA : getAll ((opr (k0 : Int)).drop 0) q1 = getAll (opr (k0 : Int)) q1 := rfl
  generalize getAll (opr (k0 : Int)) q1 = A at *
  obtain ⟨A1, A2⟩ := A
  simp only [Deed.val] at hR hll hbu
  generalize opr (k0 : Int) = os at *
  have HA1 : Hid ((getAll (os.drop 0) q1).1 = A1) := Lib.hid (by rw [hA])
  have HA2 : Hid ([] ++ (getAll (os.drop 0) q1).2 = A2) := Lib.hid (by rw [hA]; rfl)
  have HR := Lib.hid hR
  have HBU := Lib.hid hbu
  clear h h0 hc ho hR hbu hA
  go_enter Tryd.func23, Tryd.ntmps23
  go_wp2_with (first
    | (refine wpList_alloc_agg rfl 24 rfl zeroD.cells zeroR ?_)
    | (go_at_call 52; (with_reducible refine hb.mono ?_); clear hb; rintro e w1 ⟨rfl, h1⟩; have hbr1 := hbr0.foot h1.2 (by omega))
    | (go_at_call 53; refine (he _ h1.1).mono ?_; clear he; rintro e w2 ⟨rfl, rfl⟩)
    | (go_at_call 28; refine (hop _).mono ?_; clear hop; rintro e w2 ⟨rfl, rfl⟩)
    | (go_at_call 33; (with_reducible refine (hops _).mono ?_); clear hops; rintro e w3 ⟨lv, rfl, hown3, hb3⟩; obtain ⟨p, c, rfl, _⟩ := id (RV.of_own hown3)))
  have hbr3 := hbr1.below hb3 hbr1.lt
  have hrd3 := h1.1.below hb3 (Nat.le_refl _)
  have F3 : Foot (fun k => k = r) w w3 := (F0.trans h1.2).trans (Foot.of_below _ hb3)
  have hs1 : w.heap.size + 1 ≤ w1.heap.size := by have := h1.2.size; simpa using this
  have hs3 := hb3.size
  clear hbr0 hbr1 F0 h1 hb3
  go_loopw [6, 26] (fun v t wr => ∃ (k : Nat) (pre : List Nat) (sk : RS), k ≤ os.length ∧ t = .int .i64 k ∧ pre.length = k ∧ Hid ((getAll (os.drop k) sk).1 = A1) ∧ Hid (pre ++ (getAll (os.drop k) sk).2 = A2) ∧ Hid (RdAt wr r sk) ∧ wr.ownsRow w3.heap.size 22 1 v k (pre.map uV) ∧ Foot (fun k => k = r) w3 wr) (fun _ t _ => os.length - (intOf t).toNat)
  case atStart => exact ⟨0, [], q1, by omega, rfl, rfl, HA1, HA2, Lib.hid hrd3, World.ownsRow_nil _ _ _ _, Foot.refl _ _⟩
  case round =>
    obtain ⟨k, pre, sk, hk, rfl, hpre, ha1, ha2, hrd, hown, hfoot⟩ := hrel
    have hsz := hfoot.size
    by_cases hlt : k < os.length
    · obtain ⟨o, ho1⟩ : ∃ o, os[k]? = some o := ⟨_, List.getElem?_eq_getElem hlt⟩
      have ho7 := h7.out o (List.mem_of_getElem? ho1)
      have ha1' := ha1.out
      have ha2' := ha2.out
      rw [drop_cons os k o ho1, getAll] at ha1' ha2'
      have hget := get_any o r ho7 sk wr hrd.out
      have hown3k := hfoot.own hown3 (fun j hj e => by have := (hown3.lt j hj).1; omega)
      obtain ⟨b, off, rfl, _, _, hcell0⟩ := (RV.of_own hown3k).at1 k (oV o) (by rw [List.getElem?_map, ho1]; rfl)
      have hcell : wr.cell? ⟨b, off + k, none⟩ = some (.int .i64 (o : Int)) := hcell0
      generalize getO o sk = z at *
      have HZ1 := Lib.hid ha1'
      have HZ2 : Hid ((pre ++ [z.2]) ++ (getAll (os.drop (k + 1)) z.1).2 = A2) := Lib.hid (by rw [List.append_assoc]; exact ha2')
      clear ha1 ha2 ha1' ha2' ho1 hcell0 hown3k
      go_wp2_with (first
        | (go_at_call 54; (with_reducible refine hget.mono ?_); clear hget; rintro e w5 ⟨rfl, h5'⟩; have hown5 := h5'.2.own hown (fun j hj e => by have := (hown.lt j hj).1; omega); have hs5 := h5'.2.size)
        | (at_builtin; refine wpList_append_lits rfl _ _ 53 rfl w3.heap.size 22 i0 (.int .u64 0) 8 Tryd.underlying53 hi hz0 hz1 hz2 rfl (by decide) hown5 rfl _ rfl rfl rfl (by omega) (by omega) ?_; intro v' w6 hown6 hb6 _ _))
      go_roundw
      case rel => exact ⟨k + 1, pre ++ [z.2], z.1, by omega, by go_num, by simp [hpre], HZ1, HZ2, Lib.hid (h5'.1.under hb6 (by omega)), by rw [List.map_append]; exact hown6, (hfoot.trans h5'.2).then_ (T := fun x => w3.heap.size ≤ x) ⟨hb6.os, hb6.tape, hb6.output, hb6.size, fun x _ hn => hb6.block x (Nat.lt_of_not_le hn)⟩ (fun x hx => .inr hx)⟩
      case measure => simp [intOf]; omega
    · obtain rfl : k = os.length := by omega
      have ha1' := ha1.out
      have ha2' := ha2.out
      rw [List.drop_length, getAll] at ha1' ha2'
      simp only [List.append_nil] at ha1' ha2'
      subst ha1' ha2'
      have hbr4 := hbr3.foot hfoot (by omega)
      have hrd4 := hrd.out
      have he2 := Wire.Err_any r sk wr hrd4
      have hF := F3.trans hfoot
      have hRR := HR.out
      clear ha1 ha2 hrd HR
      by_cases hz : sk.code = 0
      · rw [if_pos hz] at hRR
        rw [hz] at he2
        injection hRR with e1 e2
        subst e1
        have hbu2 := HBU.out pre (by omega) _ _ wr (by have := RV.of_own hown; rw [← hpre] at this; exact this)
        rw [e2] at hbu2
        clear hz e2
        go_wp2_with (first
          | (go_at_call 53; (with_reducible refine he2.mono ?_); clear he2; rintro e w5 ⟨rfl, rfl⟩)
          | (go_at_call 29; (with_reducible refine hbu2.mono ?_); clear hbu2; rintro e w6 ⟨rfl, hb6⟩; have hbr6 := hbr4.below hb6 hbr4.lt; have hrd6 := hrd4.below hb6 (Nat.le_refl _))
          | (refine wpList_store_row rfl 24 _ _ rfl w.heap.size D.cells rfl rfl 24 _ hbr6 (sizeD _) rfl (oneD _) ?_))
        refine bodyPost_ret (results_row_tmp rfl _ _ w.heap.size 24 D.cells (0, 0) _ rfl (hbr6.row _) Tryd.underlying24 rfl (sizeD _)) rfl ?_
        exact ⟨rfl, rd_row hrd6 hrl _, (hF.trans (Foot.of_below _ hb6)).row (Nat.le_refl _) _⟩
      · rw [if_neg hz] at hRR
        injection hRR with e1 e2
        injection e2 with e2 e3
        subst e1 e2 e3
        have ty : ((sk.code : Int) != 0) = true := by simp; omega
        clear hz
        go_wp2_with (first
          | (go_at_call 53; (with_reducible refine he2.mono ?_); clear he2; rintro e w5 ⟨rfl, rfl⟩)
          | (refine wpList_store_row rfl 24 _ _ rfl w.heap.size zeroD.cells rfl rfl 24 _ hbr4 (sizeD _) rfl (oneD _) ?_))
        refine bodyPost_ret (results_row_tmp rfl _ _ w.heap.size 24 zeroD.cells (0, 0) _ rfl (hbr4.row _) Tryd.underlying24 rfl (sizeD _)) rfl ?_
        exact ⟨rfl, rd_row hrd4 hrl _, hF.row (Nat.le_refl _) _⟩

theorem Get_any (r : Nat) (st : RS) (w : World) (h : RdAt w r st) :
    Calls Tryd.prog 23 #[.pointer (some ⟨r, 0, none⟩)] w fun e w' => e = .returned (.tuple #[(getD st).2.1.val, .int .i64 ((getD st).2.2 : Int)]) ∧ RdOut w w' r (getD st).1 := by
  unfold getD
  by_cases hc : (rdByte st).1.code = 0
  · rw [if_pos hc]
    by_cases ho : isOp (rdByte st).2 = true
    · rw [if_pos ho]
      exact Get_rest r st w h hc ho _ _ _ rfl
    · rw [if_neg ho]
      exact Get_op r st w h hc ho
  · rw [if_neg hc]
    exact Get_err r st w h hc
end Go.Proofs.YtbjmdcjoaapmiaaDoor

namespace Go.Proofs.YtbjmdcjoaapmiaaDoor
open Go.RowKit
open Wire (WrAt WrStep wAdd)

/-- A step of a writer's, behind which it holds l. -/
def WrK (w w' : World) (B b most : Nat) (l : List UInt8) : Prop := ∃ v', WrAt w' B b most v' (some l) ∧ SbF B b w w'
theorem wr_keep {w w' : World} {B b most : Nat} {v : Value} {l bs : List UInt8} (h : WrAt w B b most v (some l)) (hs : WrStep w w' B b most v (wAdd most (some l) bs)) (hl : l.length + bs.length ≤ most) : WrK w w' B b most (l ++ bs) := by
  obtain ⟨v', h1, h2, _⟩ := hs
  have e : wAdd most (some l) bs = some (l ++ bs) := by unfold wAdd; rw [Option.bind_some, if_neg (by omega)]
  rw [e] at h1
  refine ⟨v', h1, h2.mono fun k _ hk => ?_⟩
  rcases hk with hk | hk
  · exact .inl hk
  · have hB := h.2.1 k hk
    obtain ⟨_, hown, _⟩ := h.2.2
    rcases hown.2 with ⟨rfl, _⟩ | ⟨g, cap, cur, rfl, _, hg, _⟩
    · cases hk
    · have e : g = k := by simpa [Value.ownBlock] using hk
      subst e
      exact .inr ⟨hB, cur, hg⟩
theorem WrK.trans {w w1 w2 : World} {B b most : Nat} {l l2 : List UInt8} (h : WrK w w1 B b most l) (k : WrK w1 w2 B b most l2) : WrK w w2 B b most l2 := by
  obtain ⟨_, _, hf⟩ := h
  obtain ⟨v, hv, hf2⟩ := k
  exact ⟨v, hv, hf.trans hf2⟩
theorem wr_blk {w : World} {B b most : Nat} {v : Value} {l : List UInt8} (h : WrAt w B b most v (some l)) : Blk w b 83 #[.int .i64 0, .int .i64 (most : Int), v] := h.2.2.1
theorem wr_no {w : World} {B b most : Nat} {v : Value} {l : List UInt8} (h : WrAt w B b most v (some l)) {e : TypeId} (he : e ≠ 83) : ∀ cs, w.heap[b]? ≠ some (.cells cs e (0, 0)) := by
  have hb := wr_blk h
  intro cs h'
  unfold Blk at hb
  rw [hb] at h'
  injection h' with h'
  injection h' with _ h'
  exact he h'.symm
theorem byte_wrap (x : Nat) : ((x : Int) % 256) = ((UInt8.ofNat x).toNat : Int) := by
  rw [UInt8.toNat_ofNat']
  simp

set_option maxHeartbeats 1000000 in
theorem put_any (o x : Nat) (ho : o < 7) (hx : x < 18446744073709551616) {B b most : Nat} {v : Value} {l : List UInt8} (hl : l.length + (putB o x).length ≤ most) (hm : most ≤ 1000) (w : World) (h : WrAt w B b most v (some l)) :
    Calls Tryd.prog 49 #[.int .i64 o, .pointer (some ⟨b, 0, none⟩), .int .u64 x] w fun e w' => e = .returned (.tuple #[]) ∧ WrK w w' B b most (l ++ putB o x) := by
  have h5 : ∀ l', some l = some l' → l'.length ≤ 5000 := fun l' e => by cases e; omega
  have hmm : most ≤ maxLen := by unfold maxLen; omega
  have HK : Hid (∀ w', WrStep w w' B b most v (wAdd most (some l) (putB o x)) → WrK w w' B b most (l ++ putB o x)) := Lib.hid (fun w' hs => wr_keep h hs hl)
  by_cases h2 : o ≤ 2
  · have hb := Wire.WByte_any w (UInt8.ofNat x) h5 hmm h
    rw [← byte_wrap] at hb
    rw [show putB o x = [UInt8.ofNat x] by unfold putB; rw [if_pos h2]] at HK ⊢
    clear h5 hmm h hx hl
    obtain rfl | rfl | rfl : o = 0 ∨ o = 1 ∨ o = 2 := by omega
    all_goals
      go_enter Tryd.func49, Tryd.ntmps49
      go_wp2_with (go_at_call 48; (with_reducible refine hb.mono ?_); clear hb; rintro e w' ⟨rfl, hs⟩)
      go_end0
      exact ⟨rfl, HK.out _ hs⟩
  · by_cases h6 : o = 6
    · subst h6
      have hb := Wire.WTruth_any w (x == 1) h5 hmm h
      rw [← int_one] at hb
      rw [show putB 6 x = Wire.truB (x == 1) from rfl, ← int_one] at HK ⊢
      clear h5 hmm h hx hl
      go_enter Tryd.func49, Tryd.ntmps49
      go_wp2_with (go_at_call 71; (with_reducible refine hb.mono ?_); clear hb; rintro e w' ⟨rfl, hs⟩)
      go_end0
      exact ⟨rfl, HK.out _ hs⟩
    · have hb := Wire.WNum_any w x hx h5 hmm h
      rw [show putB o x = Wire.numB x by unfold putB; rw [if_neg h2, if_neg h6]] at HK ⊢
      clear h5 hmm h hx hl
      obtain rfl | rfl | rfl : o = 3 ∨ o = 4 ∨ o = 5 := by omega
      all_goals
        go_enter Tryd.func49, Tryd.ntmps49
        go_wp2_with (go_at_call 72; (with_reducible refine hb.mono ?_); clear hb; rintro e w' ⟨rfl, hs⟩)
        go_end0
        exact ⟨rfl, HK.out _ hs⟩

set_option maxHeartbeats 400000 in
theorem Put_bad (d : Deed) (hd : d.ok) (hg : ¬ goodD d = true) {B b most : Nat} {v : Value} {l : List UInt8} (w : World) (h : WrAt w B b most v (some l)) :
    Calls Tryd.prog 20 #[.pointer (some ⟨b, 0, none⟩), d.val] w fun e w' => e = .returned (.tuple #[]) ∧ WrK w w' B b most l := by
  have hgood := Good_any d hd
  rw [show goodD d = false by simpa using hg] at hgood
  have hblk0 := Blk.new w 24 d.cells
  have hb := below_alloc1 w (.cells d.cells 24)
  have HW := Lib.hid h
  clear hg hd h
  simp only [Deed.val] at hgood ⊢
  go_enter Tryd.func20, Tryd.ntmps20
  go_wp2_with (first
    | (refine wpList_box_agg rfl 24 _ rfl d.cells rfl ?_)
    | (refine wpList_load_row rfl 24 _ rfl w.heap.size rfl 24 _ (0, 0) _ hblk0 Tryd.underlying24 rfl (sizeD _) ?_)
    | (go_at_call 8; (with_reducible refine (hgood _).mono ?_); rintro e w' ⟨rfl, hb2⟩))
  refine bodyPost_ret (results_none rfl _ _ _) rfl ?_
  have hbb := below_pre hb hb2
  exact ⟨rfl, v, HW.out.below hbb (Nat.le_refl _), SbF.of_below hbb⟩

theorem drop_len {L pre suf : List UInt8} (h : pre ++ suf = L) : pre.length + suf.length = L.length := by rw [← h, List.length_append]
set_option maxRecDepth 100000 in
set_option maxHeartbeats 2000000 in
theorem Put_good (d : Deed) (hd : d.ok) (hg : goodD d = true) {B b most : Nat} {v : Value} {l : List UInt8} (hl : l.length + 14 ≤ most) (hm : most ≤ 1000) (w : World) (h : WrAt w B b most v (some l)) :
    Calls Tryd.prog 20 #[.pointer (some ⟨b, 0, none⟩), d.val] w fun e w' => e = .returned (.tuple #[]) ∧ WrK w w' B b most (l ++ bytesD d) := by
  have hop := good_op hg
  have hgood := Good_any d hd
  rw [hg] at hgood
  have hops := operands_any d.op hop
  have h7 := Lib.hid (opr_lt d.op hop)
  have h5 := opr_len d.op hop
  have hof := fun o ho7 => of_any o ho7 d hd
  have hofl := Lib.hid (fun o => ofD_lt o d hd)
  have h14 := bytesD_40 d hd hop
  have hb0 : ((d.op : Int) % 256) = ((UInt8.ofNat d.op.toNat).toNat : Int) := by
    rw [← byte_wrap]
    rcases isOp_cases hop with h | h | h | h | h | h | h | h | h | h | h <;> rw [h] <;> rfl
  have HB0 := Lib.hid hb0
  clear hb0
  have hB : Hid ([UInt8.ofNat d.op.toNat] ++ (opr d.op).flatMap (fun o => putB o (ofD o d)) = bytesD d) := Lib.hid rfl
  generalize bytesD d = L at *
  have hblk0 := Blk.new w 24 d.cells
  have hbel0 := below_alloc1 w (.cells d.cells 24)
  have hgb : w.heap.size ≠ b := by have := (wr_blk h).lt; omega
  have hBb : B ≤ b := h.1
  have hWB : B ≤ w.heap.size := by have := (wr_blk h).lt; omega
  clear hg hd hop
  simp only [Deed.val] at hgood hof ⊢
  generalize opr d.op = os at *
  have hc0 : (w.alloc (.cells d.cells 24)).cell? ⟨w.heap.size, 0, none⟩ = some (.int .i64 d.op) := hblk0.cell 0
  have h5k : ∀ l', some l = some l' → l'.length ≤ 5000 := fun l' e => by cases e; omega
  have hmm : most ≤ maxLen := by unfold maxLen; omega
  have H := Lib.hid h
  clear h
  go_enter Tryd.func20, Tryd.ntmps20
  go_wp2_with (first
    | (refine wpList_box_agg rfl 24 _ rfl d.cells rfl ?_)
    | (refine wpList_load_row rfl 24 _ rfl w.heap.size rfl 24 _ (0, 0) _ hblk0 Tryd.underlying24 rfl (sizeD _) ?_)
    | (go_at_call 8; (with_reducible refine (hgood _).mono ?_); clear hgood; rintro e w1 ⟨rfl, hb1⟩; have hblk1 := hblk0.below hb1 hblk0.lt; have hc1 : w1.cell? ⟨w.heap.size, 0, none⟩ = some (.int .i64 d.op) := hblk1.cell 0; have hbw1 := below_pre hbel0 hb1; have hW1 := H.out.below hbw1 (Nat.le_refl _))
    | (go_at_call 48; rw [HB0.out]; refine (Wire.WByte_any _ (UInt8.ofNat d.op.toNat) h5k hmm hW1).mono ?_; rintro e w2 ⟨rfl, hs⟩; have hk2 := wr_keep hW1 hs (by simp; omega); obtain ⟨v2, hW2, hf2⟩ := id hk2; have hblk2 := hf2.blk hblk1 hgb (by decide); have hc2 : w2.cell? ⟨w.heap.size, 0, none⟩ = some (.int .i64 d.op) := hblk2.cell 0)
    | (go_at_call 33; (with_reducible refine (hops _).mono ?_); clear hops; rintro e w3 ⟨lv, rfl, hown3, hb3⟩; obtain ⟨p, c, rfl, _⟩ := id (RV.of_own hown3)))
  have hblk3 := hblk2.below hb3 hblk2.lt
  have hW3 := hW2.below hb3 (Nat.le_refl _)
  have hF3 : SbF B b w w3 := ((SbF.of_below hbw1).trans hf2).trans (SbF.of_below hb3)
  have hown3 := own_mono hown3 (Nat.zero_le w2.heap.size)
  clear hblk0 hblk1 hblk2 hc0 hc1 hc2 hb1 hb3 hbel0 hbw1 hW1 hW2 hf2 hs hk2
  go_loopw [18] (fun t wr => ∃ (k : Nat) (pre : List UInt8) (vr : Value), k ≤ os.length ∧ t = .int .i64 k ∧ Hid (pre ++ (os.drop k).flatMap (fun o => putB o (ofD o d)) = L) ∧ Hid (WrAt wr B b most vr (some (l ++ pre))) ∧ Blk wr w.heap.size 24 d.cells ∧ wr.ownsRow 0 67 1 (.slice p os.length c) os.length (os.map oV) ∧ SbF B b w wr) (fun t _ => os.length - (intOf t).toNat)
  case atStart => exact ⟨0, [UInt8.ofNat d.op.toNat], _, by omega, rfl, hB, Lib.hid hW3, hblk3, hown3, hF3⟩
  case round =>
    obtain ⟨k, pre, vr, hk, rfl, hp, hW, hblk, hown, hF⟩ := hrel
    by_cases hlt : k < os.length
    · obtain ⟨o, ho1⟩ : ∃ o, os[k]? = some o := ⟨_, List.getElem?_eq_getElem hlt⟩
      have ho7 := h7.out o (List.mem_of_getElem? ho1)
      have hp2 := hp.out
      rw [drop_cons os k o ho1, List.flatMap_cons, ← List.append_assoc] at hp2
      have hpl := drop_len hp2
      rw [List.length_append] at hpl
      have HP2 := Lib.hid hp2
      obtain ⟨bl, off, rfl, _, _, hcell0⟩ := (RV.of_own hown).at1 k (oV o) (by rw [List.getElem?_map, ho1]; rfl)
      have hcell : wr.cell? ⟨bl, off + k, none⟩ = some (.int .i64 (o : Int)) := hcell0
      have hofk := hof o ho7 wr
      have hxl := hofl.out o
      have hlen : (l ++ pre).length + (putB o (ofD o d)).length ≤ most := by rw [List.length_append]; omega
      clear hp hp2 hpl hcell0 ho1
      have HL := Lib.hid hlen
      have HX := Lib.hid hxl
      clear hlen hxl
      go_wp2_with (first
        | (refine wpList_load_row rfl 24 _ rfl w.heap.size rfl 24 _ (0, 0) _ hblk Tryd.underlying24 rfl (sizeD _) ?_)
        | (go_at_call 35; (with_reducible refine hofk.mono ?_); clear hofk; rintro e w5 ⟨rfl, hb5⟩; have hW5 := hW.out.below hb5 (Nat.le_refl _); have hblk5 := hblk.below hb5 hblk.lt; have hown5 := ownsRow_below hown hb5 (Nat.le_refl _); have hF5 := hF.trans (SbF.of_below hb5))
        | (go_at_call 49; refine (put_any o _ ho7 HX.out HL.out hm _ hW5).mono ?_; rintro e w6 ⟨rfl, v6, hW6, hF6⟩))
      go_roundw
      case rel => exact ⟨k + 1, _, v6, by omega, by go_num, HP2, Lib.hid (by rw [← List.append_assoc]; exact hW6), hF6.blk hblk5 hgb (by decide), hF6.own hown5 (by decide) (by decide) (wr_no hW5 (by decide)), hF5.trans hF6⟩
      case measure => simp [intOf]; omega
    · obtain rfl : k = os.length := by omega
      have hp2 := hp.out
      rw [List.drop_length, List.flatMap_nil, List.append_nil] at hp2
      subst hp2
      clear hp
      go_wp2
      go_end0
      exact ⟨rfl, vr, hW.out, hF⟩
end Go.Proofs.YtbjmdcjoaapmiaaDoor

namespace Go.Proofs.YtbjmdcjoaapmiaaDoor
open Go.RowKit

theorem byte_of (z : Int) (h0 : 0 ≤ z) : z % 256 = ((UInt8.ofNat (wrapN z)).toNat : Int) := by
  rw [← byte_wrap, wrapN_back z h0]

set_option maxRecDepth 100000 in
set_option maxHeartbeats 8000000 in
theorem RBytes_any (d : Deed) (hd : d.ok) (hg : goodD d = true) (w : World) :
    Calls Tryd.prog 24 #[d.val] w fun e w' => ∃ v, e = .returned v ∧ w'.ownsRow w.heap.size 5 1 v (bytesD d).length ((bytesD d).map Wire.bV) ∧ Below w.heap.size w w' := by
  obtain ⟨i0, hi0, hz0, hz1, hz2⟩ := info_parts Wire.infoB
  have hop := good_op hg
  have hparts := Parts_any d.op hop
  have h7 := Lib.hid (opr_lt d.op hop)
  have h5 := opr_len d.op hop
  have hix := Lib.hid (parts_ix d.op)
  have hsz := partsL_size d.op
  have h14 := bytesD_40 d hd hop
  have hrange : 0 ≤ d.a ∧ 0 ≤ d.b ∧ 0 ≤ d.r := by
    unfold goodD rangeD at hg
    simp only [Bool.and_eq_true, decide_eq_true_eq] at hg
    exact ⟨hg.2.1.1.1.1.1, hg.2.1.1.1.2, hg.2.1.2⟩
  have ha := Lib.hid (byte_of d.a hrange.1)
  have hb := Lib.hid (byte_of d.b hrange.2.1)
  have hr := Lib.hid (byte_of d.r hrange.2.2)
  have ho0 : ((d.op : Int) % 256) = ((UInt8.ofNat d.op.toNat).toNat : Int) := by
    rw [← byte_wrap]
    rcases isOp_cases hop with h | h | h | h | h | h | h | h | h | h | h <;> rw [h] <;> rfl
  have HO0 := Lib.hid ho0
  have hL : Hid ([UInt8.ofNat d.op.toNat] ++ (opr d.op).flatMap (fun o => putB o (ofD o d)) = bytesD d) := Lib.hid rfl
  generalize bytesD d = L at *
  have hblk0 := Blk.new w 24 d.cells
  have hb0 := below_alloc1 w (.cells d.cells 24)
  clear hg hop hrange ho0
  simp only [Deed.val]
  unfold sV at hparts
  generalize (ByteArray.mk (partsL d.op).toArray) = s at *
  generalize opr d.op = os at *
  have hc0 : (w.alloc (.cells d.cells 24)).cell? ⟨w.heap.size, 0, none⟩ = some (.int .i64 d.op) := hblk0.cell 0
  have hblk1 := hblk0.alloc (.cells #[.int .u8 (d.op % 256)] 5)
  have hc1 : ((w.alloc (.cells d.cells 24)).alloc (.cells #[.int .u8 (d.op % 256)] 5)).cell? ⟨w.heap.size, 0, none⟩ = some (.int .i64 d.op) := hblk1.cell 0
  have hbel1 := below_alloc2 w (.cells d.cells 24) (.cells #[.int .u8 (d.op % 256)] 5)
  have hl1 := World.ownsRow_lit (e := 5) (size := 1) (w.alloc (.cells d.cells 24)) #[.int .u8 (d.op % 256)] 1 (Nat.le_refl _) (by decide) rfl
  go_enter Tryd.func24, Tryd.ntmps24
  go_wp2_with (first
    | (refine wpList_box_agg rfl 24 _ rfl d.cells rfl ?_)
    | (go_at_call 40; (with_reducible refine (hparts _).mono ?_); clear hparts; rintro e w3 ⟨rfl, hb3⟩))
  have hblk3 := hblk1.below hb3 hblk1.lt
  have hbw3 : Below w.heap.size w w3 := below_pre hbel1 hb3
  have hown3 := own_mono (ownsRow_below hl1 hb3 (Nat.le_refl _)) (show w.heap.size ≤ _ by simp)
  rw [show (w.alloc (.cells d.cells 24)).heap.size = w.heap.size + 1 by simp] at hown3
  clear hblk0 hblk1 hc0 hc1 hb0 hb3 hbel1 hl1
  go_loopw [3, 5] (fun v t wr => ∃ (k : Nat) (pre : List UInt8), k ≤ os.length ∧ t = .int .i64 k ∧ Hid (pre ++ (os.drop k).flatMap (fun o => putB o (ofD o d)) = L) ∧ wr.ownsRow w.heap.size 5 1 v pre.length (pre.map Wire.bV) ∧ Blk wr w.heap.size 24 d.cells ∧ Below w.heap.size w wr) (fun _ t _ => os.length - (intOf t).toNat)
  case atStart => exact ⟨0, [UInt8.ofNat d.op.toNat], by omega, rfl, hL, by rw [List.map_singleton, Wire.bV, ← HO0.out]; exact hown3, hblk3, hbw3⟩
  case round =>
    clear hL hown3
    obtain ⟨k, pre, hk, rfl, hl, hown, hblk, hbw⟩ := hrel
    have hl2 := hl.out
    have hpl := drop_len hl2
    clear hl
    by_cases hlt : k < os.length
    · obtain ⟨o, ho1⟩ : ∃ o, os[k]? = some o := ⟨_, List.getElem?_eq_getElem hlt⟩
      have ho7 := h7.out o (List.mem_of_getElem? ho1)
      rw [drop_cons os k o ho1, List.flatMap_cons, ← List.append_assoc] at hl2
      have hi := hix.out k o ho1
      have hbs := hbw.size
      have hp14 : pre.length ≤ 14 := by omega
      clear ho1 hpl
      obtain ⟨pv, cv, rfl, _⟩ := id (RV.of_own hown)
      rcases o_cases ho7 with rfl | rfl | rfl | rfl | rfl | rfl | rfl
      · replace hi : ∀ W, (Instr.index 9 (.string s) (.int .i64 (k : Int))).run Tryd.prog W = .ok (.int .u8 65) W := hi
        have hcell : wr.cell? ⟨w.heap.size, 1, none⟩ = some (.int .i64 d.a) := hblk.cell 1
        have HL2 : Hid ((pre ++ [UInt8.ofNat (wrapN d.a)]) ++ (os.drop (k + 1)).flatMap (fun o => putB o (ofD o d)) = L) := Lib.hid hl2
        clear hl2
        go_wp2_with (at_builtin; refine wpList_append_lits rfl _ _ 38 rfl w.heap.size 5 i0 (.int .u8 0) 1 Tryd.underlying38 hi0 hz0 hz1 hz2 rfl (by decide) hown rfl _ rfl rfl rfl (by omega) (by omega) ?_; intro v' w6 hown6 hb6 _ hf6)
        go_roundw
        case rel => exact ⟨k + 1, pre ++ [UInt8.ofNat (wrapN d.a)], by omega, by go_num, HL2, by rw [List.length_append, List.map_append, List.map_singleton, Wire.bV, ← ha.out]; exact hown6, hblk.foot hf6 (own_ne_blk hown hblk (by decide)), hbw.trans hb6⟩
        case measure => simp [intOf]; omega
      · replace hi : ∀ W, (Instr.index 9 (.string s) (.int .i64 (k : Int))).run Tryd.prog W = .ok (.int .u8 66) W := hi
        have hcell : wr.cell? ⟨w.heap.size, 2, none⟩ = some (.int .i64 d.b) := hblk.cell 2
        have HL2 : Hid ((pre ++ [UInt8.ofNat (wrapN d.b)]) ++ (os.drop (k + 1)).flatMap (fun o => putB o (ofD o d)) = L) := Lib.hid hl2
        clear hl2
        go_wp2_with (at_builtin; refine wpList_append_lits rfl _ _ 38 rfl w.heap.size 5 i0 (.int .u8 0) 1 Tryd.underlying38 hi0 hz0 hz1 hz2 rfl (by decide) hown rfl _ rfl rfl rfl (by omega) (by omega) ?_; intro v' w6 hown6 hb6 _ hf6)
        go_roundw
        case rel => exact ⟨k + 1, pre ++ [UInt8.ofNat (wrapN d.b)], by omega, by go_num, HL2, by rw [List.length_append, List.map_append, List.map_singleton, Wire.bV, ← hb.out]; exact hown6, hblk.foot hf6 (own_ne_blk hown hblk (by decide)), hbw.trans hb6⟩
        case measure => simp [intOf]; omega
      · replace hi : ∀ W, (Instr.index 9 (.string s) (.int .i64 (k : Int))).run Tryd.prog W = .ok (.int .u8 82) W := hi
        have hcell : wr.cell? ⟨w.heap.size, 3, none⟩ = some (.int .i64 d.r) := hblk.cell 3
        have HL2 : Hid ((pre ++ [UInt8.ofNat (wrapN d.r)]) ++ (os.drop (k + 1)).flatMap (fun o => putB o (ofD o d)) = L) := Lib.hid hl2
        clear hl2
        go_wp2_with (at_builtin; refine wpList_append_lits rfl _ _ 38 rfl w.heap.size 5 i0 (.int .u8 0) 1 Tryd.underlying38 hi0 hz0 hz1 hz2 rfl (by decide) hown rfl _ rfl rfl rfl (by omega) (by omega) ?_; intro v' w6 hown6 hb6 _ hf6)
        go_roundw
        case rel => exact ⟨k + 1, pre ++ [UInt8.ofNat (wrapN d.r)], by omega, by go_num, HL2, by rw [List.length_append, List.map_append, List.map_singleton, Wire.bV, ← hr.out]; exact hown6, hblk.foot hf6 (own_ne_blk hown hblk (by decide)), hbw.trans hb6⟩
        case measure => simp [intOf]; omega
      · replace hi : ∀ W, (Instr.index 9 (.string s) (.int .i64 (k : Int))).run Tryd.prog W = .ok (.int .u8 78) W := hi
        have hcell : wr.cell? ⟨w.heap.size, 4, none⟩ = some (.int .u64 (d.n : Int)) := hblk.cell 4
        have hcl := Wire.RNum_any d.n hd.n wr
        have hln : (Wire.numB d.n).length ≤ 9 := Wire.numB_len _ hd.n
        rw [show putB 3 (ofD 3 d) = Wire.numB d.n from rfl] at hl2
        generalize Wire.numB d.n = q at *
        have HL2 : Hid ((pre ++ q) ++ (os.drop (k + 1)).flatMap (fun o => putB o (ofD o d)) = L) := Lib.hid hl2
        clear hl2
        go_wp2_with (first
          | (go_at_call 55; (with_reducible refine hcl.mono ?_); clear hcl; rintro e w5 ⟨v5, rfl, hown5, hb5⟩; have hr5 := RV.of_own hown5; obtain ⟨p5, c5, rfl, _⟩ := id hr5; have hownv := ownsRow_below hown hb5 (Nat.le_refl _))
          | (at_builtin; refine wpList_append_rv _ rfl _ _ 38 rfl w.heap.size 5 i0 (.int .u8 0) 1 1 Tryd.underlying38 hi0 hz0 hz1 hz2 rfl (by decide) _ _ _ rfl hownv _ _ _ _ rfl hr5 (all_one Wire.bV Wire.bV_one _) (by unfold maxLen; omega) (by omega) (by have := hb5.size; omega) ?_; intro v' w6 hown6 hgrow0 _; have hgrow : World.grownBy w5 w6 (Value.slice pv pre.length cv).ownBlock := hgrow0; clear hgrow0))
        have hblk5 := hblk.below hb5 hblk.lt
        have hbw5 : Below w.heap.size w w5 := hbw.trans (hb5.mono hbw.size)
        go_roundw
        case rel => exact ⟨k + 1, pre ++ q, by omega, by go_num, HL2, by rw [List.length_append, List.map_append]; exact hown6, hblk5.foot (Foot.of_grown hgrow) (own_ne_blk hownv hblk5 (by decide)), hbw5.grown hgrow hbw5.size (fun j hj => (hownv.lt j hj).1)⟩
        case measure => simp [intOf]; omega
      · replace hi : ∀ W, (Instr.index 9 (.string s) (.int .i64 (k : Int))).run Tryd.prog W = .ok (.int .u8 78) W := hi
        have hcell : wr.cell? ⟨w.heap.size, 4, none⟩ = some (.int .u64 (d.n : Int)) := hblk.cell 4
        have hcl := Wire.RNum_any d.n hd.n wr
        have hln : (Wire.numB d.n).length ≤ 9 := Wire.numB_len _ hd.n
        rw [show putB 4 (ofD 4 d) = Wire.numB d.n from rfl] at hl2
        generalize Wire.numB d.n = q at *
        have HL2 : Hid ((pre ++ q) ++ (os.drop (k + 1)).flatMap (fun o => putB o (ofD o d)) = L) := Lib.hid hl2
        clear hl2
        go_wp2_with (first
          | (go_at_call 55; (with_reducible refine hcl.mono ?_); clear hcl; rintro e w5 ⟨v5, rfl, hown5, hb5⟩; have hr5 := RV.of_own hown5; obtain ⟨p5, c5, rfl, _⟩ := id hr5; have hownv := ownsRow_below hown hb5 (Nat.le_refl _))
          | (at_builtin; refine wpList_append_rv _ rfl _ _ 38 rfl w.heap.size 5 i0 (.int .u8 0) 1 1 Tryd.underlying38 hi0 hz0 hz1 hz2 rfl (by decide) _ _ _ rfl hownv _ _ _ _ rfl hr5 (all_one Wire.bV Wire.bV_one _) (by unfold maxLen; omega) (by omega) (by have := hb5.size; omega) ?_; intro v' w6 hown6 hgrow0 _; have hgrow : World.grownBy w5 w6 (Value.slice pv pre.length cv).ownBlock := hgrow0; clear hgrow0))
        have hblk5 := hblk.below hb5 hblk.lt
        have hbw5 : Below w.heap.size w w5 := hbw.trans (hb5.mono hbw.size)
        go_roundw
        case rel => exact ⟨k + 1, pre ++ q, by omega, by go_num, HL2, by rw [List.length_append, List.map_append]; exact hown6, hblk5.foot (Foot.of_grown hgrow) (own_ne_blk hownv hblk5 (by decide)), hbw5.grown hgrow hbw5.size (fun j hj => (hownv.lt j hj).1)⟩
        case measure => simp [intOf]; omega
      · replace hi : ∀ W, (Instr.index 9 (.string s) (.int .i64 (k : Int))).run Tryd.prog W = .ok (.int .u8 77) W := hi
        have hcell : wr.cell? ⟨w.heap.size, 5, none⟩ = some (.int .u64 (d.mask : Int)) := hblk.cell 5
        have hcl := Wire.RNum_any d.mask hd.mask wr
        have hln : (Wire.numB d.mask).length ≤ 9 := Wire.numB_len _ hd.mask
        rw [show putB 5 (ofD 5 d) = Wire.numB d.mask from rfl] at hl2
        generalize Wire.numB d.mask = q at *
        have HL2 : Hid ((pre ++ q) ++ (os.drop (k + 1)).flatMap (fun o => putB o (ofD o d)) = L) := Lib.hid hl2
        clear hl2
        go_wp2_with (first
          | (go_at_call 55; (with_reducible refine hcl.mono ?_); clear hcl; rintro e w5 ⟨v5, rfl, hown5, hb5⟩; have hr5 := RV.of_own hown5; obtain ⟨p5, c5, rfl, _⟩ := id hr5; have hownv := ownsRow_below hown hb5 (Nat.le_refl _))
          | (at_builtin; refine wpList_append_rv _ rfl _ _ 38 rfl w.heap.size 5 i0 (.int .u8 0) 1 1 Tryd.underlying38 hi0 hz0 hz1 hz2 rfl (by decide) _ _ _ rfl hownv _ _ _ _ rfl hr5 (all_one Wire.bV Wire.bV_one _) (by unfold maxLen; omega) (by omega) (by have := hb5.size; omega) ?_; intro v' w6 hown6 hgrow0 _; have hgrow : World.grownBy w5 w6 (Value.slice pv pre.length cv).ownBlock := hgrow0; clear hgrow0))
        have hblk5 := hblk.below hb5 hblk.lt
        have hbw5 : Below w.heap.size w w5 := hbw.trans (hb5.mono hbw.size)
        go_roundw
        case rel => exact ⟨k + 1, pre ++ q, by omega, by go_num, HL2, by rw [List.length_append, List.map_append]; exact hown6, hblk5.foot (Foot.of_grown hgrow) (own_ne_blk hownv hblk5 (by decide)), hbw5.grown hgrow hbw5.size (fun j hj => (hownv.lt j hj).1)⟩
        case measure => simp [intOf]; omega
      · replace hi : ∀ W, (Instr.index 9 (.string s) (.int .i64 (k : Int))).run Tryd.prog W = .ok (.int .u8 76) W := hi
        have hcell : wr.cell? ⟨w.heap.size, 6, none⟩ = some (.bool d.loose) := hblk.cell 6
        have hcl := Wire.RTruth_any d.loose wr
        have hln : (Wire.truB d.loose).length ≤ 9 := by unfold Wire.truB; simp
        rw [show putB 6 (ofD 6 d) = Wire.truB d.loose by unfold putB ofD; cases d.loose <;> rfl] at hl2
        generalize Wire.truB d.loose = q at *
        have HL2 : Hid ((pre ++ q) ++ (os.drop (k + 1)).flatMap (fun o => putB o (ofD o d)) = L) := Lib.hid hl2
        clear hl2
        go_wp2_with (first
          | (go_at_call 56; (with_reducible refine hcl.mono ?_); clear hcl; rintro e w5 ⟨v5, rfl, hown5, hb5⟩; have hr5 := RV.of_own hown5; obtain ⟨p5, c5, rfl, _⟩ := id hr5; have hownv := ownsRow_below hown hb5 (Nat.le_refl _))
          | (at_builtin; refine wpList_append_rv _ rfl _ _ 38 rfl w.heap.size 5 i0 (.int .u8 0) 1 1 Tryd.underlying38 hi0 hz0 hz1 hz2 rfl (by decide) _ _ _ rfl hownv _ _ _ _ rfl hr5 (all_one Wire.bV Wire.bV_one _) (by unfold maxLen; omega) (by omega) (by have := hb5.size; omega) ?_; intro v' w6 hown6 hgrow0 _; have hgrow : World.grownBy w5 w6 (Value.slice pv pre.length cv).ownBlock := hgrow0; clear hgrow0))
        have hblk5 := hblk.below hb5 hblk.lt
        have hbw5 : Below w.heap.size w w5 := hbw.trans (hb5.mono hbw.size)
        go_roundw
        case rel => exact ⟨k + 1, pre ++ q, by omega, by go_num, HL2, by rw [List.length_append, List.map_append]; exact hown6, hblk5.foot (Foot.of_grown hgrow) (own_ne_blk hownv hblk5 (by decide)), hbw5.grown hgrow hbw5.size (fun j hj => (hownv.lt j hj).1)⟩
        case measure => simp [intOf]; omega
    · obtain rfl : k = os.length := by omega
      rw [List.drop_length, List.flatMap_nil, List.append_nil] at hl2
      subst hl2
      go_wp2
      go_ret
      exact ⟨_, rfl, hown, hbw⟩
end Go.Proofs.YtbjmdcjoaapmiaaDoor

namespace Go.Proofs.YtbjmdcjoaapmiaaDoor
open Go.RowKit

theorem ex_yield : parseD (ByteArray.mk #[121, 105, 101, 108, 100, 32, 49]).data.toList = (zeroD, 3) := rfl
theorem ex_work : parseD (ByteArray.mk #[119, 111, 114, 107, 32, 48]).data.toList = (zeroD, 5) := rfl
def exD : Deed := ⟨10, 3, 0, 0, 20, 0, false⟩
theorem exD_ok : exD.ok := ⟨by decide, by decide, by decide, by decide, by decide, by decide⟩
theorem ex_line : lineD exD = [116, 105, 109, 101, 100, 32, 51, 32, 50, 48] := by
  have h3 : Lib.decDigits 3 = [51] := by rw [Lib.decDigits_one (by decide)]; rfl
  have h20 : Lib.decDigits 20 = [50, 48] := by rw [decDigits_big (by decide), Lib.decDigits_one (by decide)]; rfl
  have hg : goodD exD = true := rfl
  unfold lineD
  rw [if_pos hg]
  show [116, 105, 109, 101, 100] ++ (textN 0 3 ++ (textN 4 20 ++ [])) = _
  unfold textN
  rw [h3, h20]
  rfl

set_option maxHeartbeats 1000000 in
theorem awake_any (w : World) (hT : Tabs w) :
    Calls Tryd.prog 14 #[] w fun e w' => e = .returned (.bool true) ∧ Below w.heap.size w w' := by
  have hp1 : ∀ w, Calls Tryd.prog 16 #[.string ⟨#[121, 105, 101, 108, 100, 32, 49]⟩] w fun e w' => e = .returned (.tuple #[.agg zeroD.cells, .int .i64 3]) ∧ Below w.heap.size w w' := fun w => by
    have := Parse_any ⟨#[121, 105, 101, 108, 100, 32, 49]⟩ (by decide) w
    rw [ex_yield] at this
    exact this
  have hp2 : ∀ w, Calls Tryd.prog 16 #[.string ⟨#[119, 111, 114, 107, 32, 48]⟩] w fun e w' => e = .returned (.tuple #[.agg zeroD.cells, .int .i64 5]) ∧ Below w.heap.size w w' := fun w => by
    have := Parse_any ⟨#[119, 111, 114, 107, 32, 48]⟩ (by decide) w
    rw [ex_work] at this
    exact this
  have hl : ∀ w, Tabs w → Calls Tryd.prog 15 #[.agg #[.int .i64 10, .int .i64 3, .int .i64 0, .int .i64 0, .int .u64 20, .int .u64 0, .bool false]] w fun e w' => e = .returned (.string ⟨#[116, 105, 109, 101, 100, 32, 51, 32, 50, 48]⟩) ∧ Below w.heap.size w w' := fun w h => by
    have := Line_any exD exD_ok w h
    rw [ex_line] at this
    exact this
  go_enter Tryd.func14, Tryd.ntmps14
  go_wp2_with (first
    | (go_at_call 16; (with_reducible refine (hp1 _).mono ?_); clear hp1; rintro e w1 ⟨rfl, hb1⟩)
    | (go_at_call 16; (with_reducible refine (hp2 _).mono ?_); clear hp2; rintro e w2 ⟨rfl, hb2⟩)
    | (refine wpList_alloc_agg rfl 24 rfl zeroD.cells zeroR ?_)
    | (refine wpList_store_row rfl 24 _ _ rfl w2.heap.size zeroD.cells rfl rfl 24 _ (heap_alloc_new w2 _) (sizeD _) rfl (oneD _) ?_; rw [World.setRow_alloc_new]; have hbw1 : Below w.heap.size w (w1.alloc (.cells zeroD.cells 24)) := hb1.alloc hb1.size _; have hbw2 : Below w.heap.size w (w2.alloc (.cells zeroD.cells 24)) := (below_pre hbw1 hb2).alloc (below_pre hbw1 hb2).size _)
    | (refine wpList_store_row rfl 24 _ _ rfl w1.heap.size zeroD.cells rfl rfl 24 _ (heap_alloc_new w1 _) (sizeD _) rfl (oneD _) ?_; rw [World.setRow_alloc_new])
    | (go_at_call 15; refine (hl _ (hT.below hbw2 (Nat.le_refl _))).mono ?_; clear hl; rintro e w3 ⟨rfl, hb3⟩))
  go_ret
  exact ⟨rfl, below_pre hbw2 hb3⟩
end Go.Proofs.YtbjmdcjoaapmiaaDoor

namespace Go.Proofs.YtbjmdcjoaapmiaaDoor
open Wire (RS)

theorem end_get (op : Int) (ho : isOp op = true) (xs : List Nat) (hl : xs.length = (opr op).length) :
    bldD op xs = if goodD (setAll (opr op) xs (opD op)) = true then (setAll (opr op) xs (opD op), 0) else (zeroD, 5) := by
  have key : fitAll (opr op) xs = goodD (setAll (opr op) xs (opD op)) := by
    rw [Bool.eq_iff_iff]
    rcases isOp_cases ho with rfl | rfl | rfl | rfl | rfl | rfl | rfl | rfl | rfl | rfl | rfl
    · match xs, hl with
      | [x], _ => simp [opr, oprN, fitAll, fitsN, setAll, setD, opD, goodD, isOp, onlyD, cpAll, cpD, rangeD, eqD] <;> omega
    · match xs, hl with
      | [x, y, z, m, l], _ => simp [opr, oprN, fitAll, fitsN, setAll, setD, opD, goodD, isOp, onlyD, cpAll, cpD, rangeD, eqD] <;> omega
    · match xs, hl with
      | [x], _ => simp [opr, oprN, fitAll, fitsN, setAll, setD, opD, goodD, isOp, onlyD, cpAll, cpD, rangeD, eqD] <;> omega
    · match xs, hl with
      | [x], _ => simp [opr, oprN, fitAll, fitsN, setAll, setD, opD, goodD, isOp, onlyD, cpAll, cpD, rangeD, eqD] <;> omega
    · match xs, hl with
      | [], _ => simp [opr, oprN, fitAll, setAll, opD, goodD, isOp, onlyD, cpAll, rangeD, eqD] <;> omega
    · match xs, hl with
      | [x], _ => simp [opr, oprN, fitAll, fitsN, setAll, setD, opD, goodD, isOp, onlyD, cpAll, cpD, rangeD, eqD] <;> omega
    · match xs, hl with
      | [x, y], _ => simp [opr, oprN, fitAll, fitsN, setAll, setD, opD, goodD, isOp, onlyD, cpAll, cpD, rangeD, eqD] <;> omega
    · match xs, hl with
      | [x, y], _ => simp [opr, oprN, fitAll, fitsN, setAll, setD, opD, goodD, isOp, onlyD, cpAll, cpD, rangeD, eqD] <;> omega
    · match xs, hl with
      | [x], _ => simp [opr, oprN, fitAll, fitsN, setAll, setD, opD, goodD, isOp, onlyD, cpAll, cpD, rangeD, eqD] <;> omega
    · match xs, hl with
      | [x, y], _ => simp [opr, oprN, fitAll, fitsN, setAll, setD, opD, goodD, isOp, onlyD, cpAll, cpD, rangeD, eqD] <;> omega
    · match xs, hl with
      | [x], _ => simp [opr, oprN, fitAll, fitsN, setAll, setD, opD, goodD, isOp, onlyD, cpAll, cpD, rangeD, eqD] <;> omega
  unfold bldD
  rw [key]
def getGo : List Nat → RS → Deed → RS × Deed
  | [], st, d => (st, d)
  | o :: os, st, d => getGo os (getO o st).1 (setD o (getO o st).2 d)
theorem getGo_eq : ∀ (os : List Nat) (st : RS) (d : Deed), getGo os st d = ((getAll os st).1, setAll os (getAll os st).2 d)
  | [], st, d => rfl
  | o :: os, st, d => by rw [getGo, getGo_eq os, getAll, setAll]
end Go.Proofs.YtbjmdcjoaapmiaaDoor
