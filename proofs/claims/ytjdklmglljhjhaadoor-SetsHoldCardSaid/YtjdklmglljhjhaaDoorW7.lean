/- The contracts of the reference's digits and Text. -/
import Derived.Test.YtjdklmglljhjhaaDoorW6
import Derived.Lib.ItoaNum
import Derived.Lib.Join
namespace Go.Proofs.YtjdklmglljhjhaaDoor
open Go.RowKit

theorem digit_one : ∀ m, m < 10 → (ByteArray.mk #[48, 49, 50, 51, 52, 53, 54, 55, 56, 57]).extract m (m + 1) = ⟨#[UInt8.ofNat (48 + m)]⟩ := by decide +kernel

theorem ret_str {a b : ByteArray} (h : a = b) : Ending.returned (.string a) = .returned (.string b) := by rw [h]

set_option maxHeartbeats 400000 in
theorem digits_any (m : Nat) (hm : m < 100) (w : World) :
    Calls Tryd.prog 36 #[.int .i64 m] w fun e w' => e = .returned (.string ⟨(Lib.decDigits m).toArray⟩) ∧ ∃ k, w' = w.drewN k := by
  by_cases h : m < 10
  · go_enter Tryd.func36, Tryd.ntmps36
    go_wp2
    go_ret
    exact ⟨ret_str (by rw [digit_one m h, Lib.decDigits_one h]), 0, rfl⟩
  · have h1 : m / 10 < 10 := by omega
    have h2 : m % 10 < 10 := by omega
    go_enter Tryd.func36, Tryd.ntmps36
    go_wp2
    go_quiet (fail)
    go_wp2
    go_ret
    exact ⟨ret_str (by rw [digit_one _ h1, digit_one _ h2, Lib.decDigits_two h hm]; rfl), nq, rfl⟩

theorem memL_range (n : Nat) : ∀ k, ∀ x ∈ memL n k, ∃ m : Nat, x = (m : Int) ∧ m < k
  | 0, x, h => by simp [memL] at h
  | k + 1, x, h => by
    rw [memL_succ] at h
    split at h
    · rcases List.mem_append.1 h with h | h
      · obtain ⟨m, h1, h2⟩ := memL_range n k x h
        exact ⟨m, h1, by omega⟩
      · exact ⟨k, by simpa using h, by omega⟩
    · obtain ⟨m, h1, h2⟩ := memL_range n k x h
      exact ⟨m, h1, by omega⟩

/-- The members in decimal, separated by commas. -/
def textL (xs : List Int) : List UInt8 := Lib.join (xs.map fun x => Lib.decDigits x.toNat) [44]
def textN (n : Nat) : List UInt8 := if memL n 64 = [] then [45] else textL (memL n 64)
theorem textL_nil : textL [] = [] := rfl
theorem textL_first (xs : List Int) (x : Int) (h : xs[0]? = some x) : textL (xs.take 1) = Lib.decDigits x.toNat := by
  match xs, h with
  | y :: r, h =>
    obtain rfl : y = x := by simpa using h
    simp [textL, Lib.join_one]
theorem textL_more (xs : List Int) (k : Nat) (x : Int) (hk : 0 < k) (h : xs[k]? = some x) : textL (xs.take (k + 1)) = textL (xs.take k) ++ [44] ++ Lib.decDigits x.toNat := by
  match xs, k, hk, h with
  | y :: r, k + 1, _, h =>
    have hr : (r.map fun x => Lib.decDigits x.toNat)[k]? = some (Lib.decDigits x.toNat) := by
      have : r[k]? = some x := by simpa using h
      simp [this]
    unfold textL
    rw [List.take_succ_cons, List.take_succ_cons, List.map_cons, List.map_cons, Lib.join_cons, Lib.join_cons, List.map_take, List.map_take, Lib.joinTail_take_succ _ _ _ _ hr]
    simp only [List.append_assoc]

theorem dec_len (m : Nat) (hm : m < 100) : (Lib.decDigits m).length ≤ 2 := by
  by_cases h : m < 10
  · rw [Lib.decDigits_one h]; simp
  · rw [Lib.decDigits_two h hm]; simp

theorem mk_append (a b : List UInt8) : (ByteArray.mk a.toArray) ++ (ByteArray.mk b.toArray) = ⟨(a ++ b).toArray⟩ := by
  apply ByteArray.ext
  rw [ByteArray.data_append]
  simp

theorem mk_append3 (a b : List UInt8) : (ByteArray.mk a.toArray ++ ByteArray.mk #[44]) ++ ByteArray.mk b.toArray = ⟨(a ++ [44] ++ b).toArray⟩ := by
  rw [show ByteArray.mk #[44] = ByteArray.mk [44].toArray from rfl, mk_append, mk_append]

set_option maxHeartbeats 400000 in
theorem RText_any (n : Nat) (hn : n < 18446744073709551616) (w : World) :
    Calls Tryd.prog 25 #[.int .u64 n] w fun e w' => e = .returned (.string ⟨(textN n).toArray⟩) ∧ Below w.heap.size w w' := by
  have hlen := memL_len n 64
  have hr := memL_range n 64
  unfold textN
  have hL := List_any n hn w
  generalize memL n 64 = xs at hL hlen hr ⊢
  by_cases h0 : xs = []
  · subst h0
    clear hr
    go_enter Tryd.func25, Tryd.ntmps25
    go_wp2_with (go_at_call 19; refine hL.mono ?_; clear hL; rintro e w1 ⟨v, rfl, hown, hb⟩; obtain ⟨p, c, rfl, hr⟩ := Reads.of_own (xs := []) hown; clear hown hr)
    refine wp_loop_rounds 1 ?_
    rw [rounds_succ]
    go_wp2
    go_ret
    exact ⟨rfl, hb⟩
  · rw [if_neg h0]
    have hpos : 0 < xs.length := List.length_pos_iff.2 h0
    have Hr := Lib.hid hr
    clear hr
    go_enter Tryd.func25, Tryd.ntmps25
    go_wp2_with (go_at_call 19; refine hL.mono ?_; clear hL; rintro e w1 ⟨v, rfl, hown, hb⟩; obtain ⟨p, c, rfl, hr⟩ := Reads.of_own (xs := xs) hown; clear hown; obtain ⟨b, off, rfl, hlt, hc⟩ := hr.resolve_left h0; clear hr; have Hc := Lib.hid hc; clear hc)
    go_loopw [3, 5] (fun s t wr => ∃ k : Nat, k ≤ xs.length ∧ t = .int .i64 k ∧ s = .string ⟨(textL (xs.take k)).toArray⟩ ∧ (textL (xs.take k)).length ≤ 3 * k ∧ Below w1.heap.size w1 wr) (fun _ t _ => xs.length - (intOf t).toNat)
    case atStart => exact ⟨0, by omega, rfl, rfl, by simp [textL_nil], Below.refl _ _⟩
    case round =>
      obtain ⟨k, hk, rfl, rfl, hl, hb2⟩ := hrel
      by_cases hlt2 : k < xs.length
      · have hcell := (hb2.cell (p := ⟨b, off + k, none⟩) hlt).trans (Hc.out k hlt2)
        have hx : xs[k]? = some xs[k] := List.getElem?_eq_getElem hlt2
        obtain ⟨m, hm, hm6⟩ := Hr.out xs[k] (List.getElem_mem hlt2)
        rw [List.getD_eq_getElem?_getD, hx, Option.getD_some, hm] at hcell
        rw [hm] at hx
        clear hm
        have hd := dec_len m (by omega)
        by_cases hk0 : k = 0
        · subst hk0
          have Hs := Lib.hid (textL_first xs m hx)
          rw [List.take_zero, textL_nil]
          rw [Nat.add_zero] at hcell
          clear hx hl
          go_wp2_with (go_at_call 36; refine (digits_any m (by omega) _).mono ?_; rintro e w2 ⟨rfl, nq, rfl⟩)
          refine ⟨⟨0 + 1, by omega, by go_num, ?_, ?_, ?_⟩, ?_⟩
          · rw [Hs.out]; rfl
          · rw [Hs.out]; simp only [Int.toNat_natCast]; omega
          · exact below_drewN hb2 _
          · simp [intOf]; omega
        · have Hs := Lib.hid (textL_more xs k m (by omega) hx)
          clear hx
          go_wp2_with (go_at_call 36; refine (digits_any m (by omega) _).mono ?_; rintro e w2 ⟨rfl, nq, rfl⟩)
          refine ⟨⟨k + 1, by omega, by go_num, ?_, ?_, ?_⟩, ?_⟩
          · rw [Hs.out]; exact congrArg Value.string (mk_append3 _ _)
          · rw [Hs.out]; simp only [Int.toNat_natCast, List.length_append, List.length_cons, List.length_nil]; omega
          · exact below_drewN hb2 _
          · simp [intOf]; omega
      · obtain rfl : k = xs.length := by omega
        have he : ((xs.length : Int) == 0) = false := by simp; omega
        go_wp2
        go_ret
        exact ⟨ret_str (by rw [List.take_length]), hb.trans (hb2.mono hb.size)⟩
end Go.Proofs.YtjdklmglljhjhaaDoor
