/- The contracts of package nums' digit, digits, isDecimal and of the reference's value and Decimal. -/
import Derived.Test.YtbjmdcjoaapmiaaDoorRows
import Derived.Test.YtbjmdcjoaapmiaaDoorNM
import Derived.WalkKit
import Derived.WalkSpells
import Derived.WalkLawsBesides
import Derived.Laws.RangeAny
import Derived.Lib.OthersKept
import Derived.Lib.Hide
import Derived.Lib.Strings
namespace Go.Proofs.YtbjmdcjoaapmiaaDoor
open Go.RowKit

theorem ret_int {k : IntKind} {a b : Int} (h : a = b) : Ending.returned (.int k a) = .returned (.int k b) := by rw [h]
theorem ret_bool {a b : Bool} (h : a = b) : Ending.returned (.bool a) = .returned (.bool b) := by rw [h]

/-- A digit's value as the program has it: -1 if it is none. -/
def dgI (r : Nat) : Int := if val r < 16 then (val r : Int) else -1
theorem dgI_none (r : Nat) (h : ¬ (48 ≤ r ∧ r ≤ 57)) (h' : ¬ (97 ≤ r ∧ r ≤ 102)) : dgI r = -1 := by
  unfold dgI val; rw [if_neg h, if_neg h']; rfl
theorem dgI_dec (r : Nat) (h : 48 ≤ r ∧ r ≤ 57) : dgI r = (r : Int) - 48 := by
  unfold dgI val; rw [if_pos h, if_pos (by omega)]; omega
theorem dgI_hex (r : Nat) (h : 97 ≤ r ∧ r ≤ 102) : dgI r = (r : Int) - 97 + 10 := by
  have h1 : ¬ (48 ≤ r ∧ r ≤ 57) := by omega
  simp only [dgI, val, if_neg h1, if_pos h]
  rw [if_pos (by omega)]; omega
theorem dgI_high (r : Nat) (h : 128 ≤ r) : dgI r = -1 := dgI_none r (by omega) (by omega)

set_option maxHeartbeats 400000 in
theorem digit_any (r : Nat) (hr : r ≤ 1114111) (w : World) :
    Calls Tryd.prog 93 #[.int .i32 r] w fun e w' => e = .returned (.int .i64 (dgI r)) ∧ w = w' := by
  by_cases h1 : 48 ≤ r
  · by_cases h2 : r ≤ 57
    · rw [dgI_dec r ⟨h1, h2⟩]
      go_enter Tryd.func93, Tryd.ntmps93
      go_wp2
      go_ret
      exact ⟨ret_int (by go_num), rfl⟩
    · by_cases h3 : 97 ≤ r
      · by_cases h4 : r ≤ 102
        · rw [dgI_hex r ⟨h3, h4⟩]
          go_enter Tryd.func93, Tryd.ntmps93
          go_wp2
          go_ret
          exact ⟨ret_int (by go_num), rfl⟩
        · rw [dgI_none r (by omega) (by omega)]
          go_enter Tryd.func93, Tryd.ntmps93
          go_wp2
          go_ret
          exact ⟨rfl, rfl⟩
      · rw [dgI_none r (by omega) (by omega)]
        go_enter Tryd.func93, Tryd.ntmps93
        go_wp2
        go_ret
        exact ⟨rfl, rfl⟩
  · rw [dgI_none r (by omega) (by omega)]
    go_enter Tryd.func93, Tryd.ntmps93
    go_wp2
    go_ret
    exact ⟨rfl, rfl⟩

theorem width_pos (s : ByteArray) (pos : Nat) (h : pos < s.size) : 1 ≤ (Utf8.decode s pos).2 := by
  by_cases ha : (s[pos]'h).toNat < 128
  · rw [decode_ascii s pos h ha]
    exact Nat.le_refl _
  · exact (decode_high s pos h (by omega)).2
theorem rune_le (s : ByteArray) (pos : Nat) (h : pos < s.size) : (Utf8.decode s pos).1 ≤ 1114111 := by
  by_cases ha : (s[pos]'h).toNat < 128
  · rw [decode_ascii s pos h ha]
    show (s[pos]'h).toNat ≤ 1114111
    omega
  · have hb : ∀ k, (s.get! (pos + k)).toNat < 256 := fun k => (s.get! (pos + k)).toNat_lt
    have h0 := hb 0; have h1 := hb 1; have h2 := hb 2; have h3 := hb 3
    simp only [Utf8.decode]
    repeat' split
    all_goals simp_all [Utf8.runeError, Utf8.valid]
    all_goals omega

/-- The byte at a place, as the list has it. -/
theorem byte_at (s : ByteArray) (pos : Nat) (h : pos < s.size) : s.data.toList[pos]? = some (s[pos]'h) := by
  have : pos < s.data.size := h
  rw [Array.getElem?_toList, Array.getElem?_eq_getElem this]
  rfl
theorem drop_at (s : ByteArray) (pos : Nat) (h : pos < s.size) : s.data.toList.drop pos = (s[pos]'h) :: s.data.toList.drop (pos + 1) := by
  have h' : pos < s.data.toList.length := h
  rw [List.drop_eq_getElem_cons h']
  congr 1
theorem drop_end (s : ByteArray) (pos : Nat) (h : ¬ pos < s.size) : s.data.toList.drop pos = [] := List.drop_eq_nil_of_le (by have : s.data.toList.length = s.size := rfl; omega)

theorem small_of_val (n : Nat) (h : val n < 16) : n < 128 := by
  unfold val at h
  split at h
  · omega
  · split at h <;> omega

set_option maxHeartbeats 800000 in
theorem digits_any (s : ByteArray) (b : Nat) (hb : b = 10 ∨ b = 16) (w : World) :
    Calls Tryd.prog 94 #[.string s, .int .i64 b] w fun e w' => e = .returned (.bool (allD b s.data.toList)) ∧ Below w.heap.size w w' := by
  go_enter Tryd.func94, Tryd.ntmps94
  go_wp2
  go_loopw [] (fun w' => ∃ pos : Nat, w' = w.iter s pos ∧ allD b (s.data.toList.drop pos) = allD b s.data.toList) (fun w' => s.size - w'.iterPos w.heap.size)
  case atStart => exact ⟨0, rfl, by simp⟩
  case round =>
    obtain ⟨pos, rfl, hc⟩ := hrel
    by_cases hp : pos < s.size
    · have hnx : ∀ ty, (Instr.next (.pointer (some ⟨w.heap.size, 0, none⟩)) true ty).run Tryd.prog (w.iter s pos) = _ := fun ty => run_next_any w s pos ty hp
      have hwd := width_pos s pos hp
      have hrl := rune_le s pos hp
      rw [drop_at s pos hp, allD_cons] at hc
      have hdg := digit_any (Utf8.decode s pos).1 hrl
      by_cases hd : valB (s[pos]'hp) < b
      · have ha : (s[pos]'hp).toNat < 128 := small_of_val _ (by unfold valB at hd; omega)
        have hdec := decode_ascii s pos hp ha
        rw [hdec] at hnx hdg
        have hv : dgI (s[pos]'hp).toNat = ((valB (s[pos]'hp) : Nat) : Int) := by
          unfold dgI; rw [if_pos (by unfold valB at hd; omega)]; rfl
        simp only [hv] at hdg
        rw [decide_eq_true hd, Bool.true_and] at hc
        generalize valB (s[pos]'hp) = v at hdg hd
        clear hdec hv hwd hrl
        go_wp2_with (go_at_call 93; refine (hdg _).mono ?_; rintro e w' ⟨rfl, rfl⟩)
        go_roundw
        case rel => exact ⟨pos + 1, rfl, hc⟩
        case measure => simp; omega
      · have hv : dgI (Utf8.decode s pos).1 = -1 ∨ (b : Int) ≤ dgI (Utf8.decode s pos).1 := by
          by_cases ha : (s[pos]'hp).toNat < 128
          · rw [decode_ascii s pos hp ha]
            show dgI (s[pos]'hp).toNat = -1 ∨ (b : Int) ≤ dgI (s[pos]'hp).toNat
            unfold dgI
            unfold valB at hd
            split <;> omega
          · exact .inl (dgI_high _ (decode_high s pos hp (by omega)).1)
        generalize (Utf8.decode s pos).1 = r at hdg hv hnx hrl
        generalize dgI r = D at hdg hv
        rw [decide_eq_false hd, Bool.false_and] at hc
        have Hc := Lib.hid hc
        clear hc
        by_cases hD : D < 0
        · go_wp2_with (go_at_call 93; refine (hdg _).mono ?_; rintro e w' ⟨rfl, rfl⟩)
          go_ret
          exact ⟨ret_bool Hc.out, (Below.refl _ _).alloc (Nat.le_refl _) _⟩
        · have hD2 : (b : Int) ≤ D := by omega
          go_wp2_with (go_at_call 93; refine (hdg _).mono ?_; rintro e w' ⟨rfl, rfl⟩)
          go_ret
          exact ⟨ret_bool Hc.out, (Below.refl _ _).alloc (Nat.le_refl _) _⟩
    · have hnx : ∀ ty, (Instr.next (.pointer (some ⟨w.heap.size, 0, none⟩)) true ty).run Tryd.prog (w.iter s pos) = _ := fun ty => run_next_end w s pos ty hp
      rw [drop_end s pos hp] at hc
      go_wp2
      go_ret
      exact ⟨ret_bool hc, (Below.refl _ _).alloc (Nat.le_refl _) _⟩

theorem hex_val (r : Nat) (h : 97 ≤ r ∧ r ≤ 102) : val r = r - 97 + 10 := by
  unfold val; rw [if_neg (by omega), if_pos h]
theorem none_val (r : Nat) (h : ¬ (48 ≤ r ∧ r ≤ 57)) (h' : ¬ (97 ≤ r ∧ r ≤ 102)) : val r = 16 := by
  unfold val; rw [if_neg h, if_neg h']

set_option maxHeartbeats 800000 in
theorem value_any (c : UInt8) (w : World) :
    Calls Tryd.prog 69 #[.int .u8 c.toNat] w fun e w' => e = .returned (.int .u64 (valB c : Nat)) ∧ w = w' := by
  unfold valB
  have hc : c.toNat < 256 := UInt8.toNat_lt c
  generalize c.toNat = r at hc ⊢
  by_cases h1 : 48 ≤ r
  · by_cases h2 : r ≤ 57
    · go_enter Tryd.func69, Tryd.ntmps69
      go_wp2
      go_ret
      exact ⟨ret_int (by rw [ten_val r ⟨h1, h2⟩]; omega), rfl⟩
    · by_cases h3 : 97 ≤ r
      · by_cases h4 : r ≤ 102
        · go_enter Tryd.func69, Tryd.ntmps69
          go_wp2
          go_ret
          exact ⟨ret_int (by rw [hex_val r ⟨h3, h4⟩]; omega), rfl⟩
        · go_enter Tryd.func69, Tryd.ntmps69
          go_wp2
          go_ret
          exact ⟨ret_int (by rw [none_val r (by omega) (by omega)]; rfl), rfl⟩
      · go_enter Tryd.func69, Tryd.ntmps69
        go_wp2
        go_ret
        exact ⟨ret_int (by rw [none_val r (by omega) (by omega)]; rfl), rfl⟩
  · go_enter Tryd.func69, Tryd.ntmps69
    go_wp2
    go_ret
    exact ⟨ret_int (by rw [none_val r (by omega) (by omega)]; rfl), rfl⟩

set_option maxHeartbeats 800000 in
theorem isDecimal_any (s : ByteArray) (w : World) :
    Calls Tryd.prog 92 #[.string s] w fun e w' => e = .returned (.bool (isDec s.data.toList)) ∧ Below w.heap.size w w' := by
  have hdg := digits_any s 10 (.inl rfl)
  have hsz : s.data.toList.length = s.size := rfl
  have htl : s.toList = s.data.toList := Lib.toList_data s
  by_cases h0 : s.size = 0
  · have he : s = ⟨#[]⟩ := by
      apply ByteArray.ext
      exact Array.eq_empty_of_size_eq_zero h0
    subst he
    go_enter Tryd.func92, Tryd.ntmps92
    go_wp2
    go_ret
    exact ⟨rfl, Below.refl _ _⟩
  · have hne : ¬ s.toList = [] := by
      rw [htl]
      intro e
      apply h0
      rw [← hsz, e]; rfl
    have hem : s.toList.isEmpty = false := by
      cases hl : s.toList with
      | nil => exact absurd hl hne
      | cons c r => rfl
    have hp : 0 < s.size := by omega
    have hhd : s.data.toList.headD 0 = s[0]'hp := by
      have := byte_at s 0 hp
      cases hl : s.data.toList with
      | nil => rw [hl] at this; simp at this
      | cons c r => rw [hl] at this; simpa using this
    have hres : isDec s.data.toList = ((s.size == 1 || s[0]'hp != 48) && allD 10 s.data.toList) := by
      unfold isDec
      rw [hhd, hsz]
      have : s.data.toList.isEmpty = false := by
        cases hl : s.data.toList with
        | nil => rw [hl] at hsz; simp at hsz; omega
        | cons c r => rfl
      rw [this]; simp
    rw [hres]
    clear hres hhd
    clear htl hsz
    by_cases h1 : s.size = 1
    · have e1 : (s.size == 1) = true := by simp [h1]
      rw [e1, Bool.true_or, Bool.true_and]
      clear e1
      have hle : ¬ 1 < s.size := by omega
      go_enter Tryd.func92, Tryd.ntmps92
      go_wp2_with (go_at_call 94; refine (hdg _).mono ?_; rintro e w' ⟨rfl, hb⟩)
      go_ret
      exact ⟨rfl, hb⟩
    · have e1 : (s.size == 1) = false := by simp [h1]
      have hlt : 1 < s.size := by omega
      rw [e1, Bool.false_or]
      clear e1
      by_cases h2 : s[0]'hp = 48
      · have e2 : ((((s[0]'hp).toNat : Nat) : Int) == 48) = true := by rw [h2]; rfl
        have e3 : (s[0]'hp != 48) = false := by rw [h2]; rfl
        rw [e3, Bool.false_and]
        clear h2 e3
        go_enter Tryd.func92, Tryd.ntmps92
        go_wp2
        go_ret
        exact ⟨rfl, Below.refl _ _⟩
      · have e2 : ((((s[0]'hp).toNat : Nat) : Int) == 48) = false := by
          rw [beq_eq_false_iff_ne]
          intro e
          exact h2 (UInt8.toNat_inj.1 (by show (s[0]'hp).toNat = 48; omega))
        have e3 : (s[0]'hp != 48) = true := by simpa using h2
        rw [e3, Bool.true_and]
        clear h2 e3
        go_enter Tryd.func92, Tryd.ntmps92
        go_wp2_with (go_at_call 94; refine (hdg _).mono ?_; rintro e w' ⟨rfl, hb⟩)
        go_ret
        exact ⟨rfl, hb⟩

end Go.Proofs.YtbjmdcjoaapmiaaDoor
