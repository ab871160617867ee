/- The contracts of the reference's digit, Print, Hex and ReadHex. -/
import Derived.Test.YtbjmdcjoaapmiaaDoorN7
namespace Go.Proofs.YtbjmdcjoaapmiaaDoor
open Go.RowKit

theorem digit_piece : ∀ x, x < 16 → (ByteArray.mk #[48, 49, 50, 51, 52, 53, 54, 55, 56, 57, 97, 98, 99, 100, 101, 102]).extract x (x + 1) = ⟨#[dgB x]⟩ := by decide +kernel
theorem rdigit_any (x : Nat) (hx : x < 16) (w : World) :
    Calls Tryd.prog 67 #[.int .u64 x] w fun e w' => e = .returned (.string ⟨#[dgB x]⟩) ∧ w = w' := by
  go_enter Tryd.func67, Tryd.ntmps67
  go_wp2
  go_ret
  exact ⟨ret_str (digit_piece x hx), rfl⟩
theorem dgB_ten (x : Nat) (h : x < 10) : dgB x = UInt8.ofNat (48 + x) := by unfold dgB; rw [if_pos h]
theorem cons_bytes (c : UInt8) (L : List UInt8) : ByteArray.mk #[c] ++ ByteArray.mk L.toArray = ⟨(c :: L).toArray⟩ := mk_append [c] L
theorem size_mk (L : List UInt8) : (ByteArray.mk L.toArray).size = L.length := by simp [ByteArray.size]

set_option maxHeartbeats 800000 in
theorem RPrint_any (u : Nat) (hu : u < 18446744073709551616) (w : World) :
    Calls Tryd.prog 41 #[.int .u64 u] w fun e w' => e = .returned (.string ⟨(Lib.decDigits u).toArray⟩) ∧ w = w' := by
  have hd := rdigit_any (u % 10) (by omega)
  have hnd : Lib.nDigits u ≤ 20 := by
    by_cases h1 : 1 ≤ u
    · have := Lib.numDigits_eq u h1 hu
      split at this <;> omega
    · rw [Lib.nDigits_small (by omega)]; omega
  have hlen := Lib.decDigits_length u
  rw [show Lib.nDigits u = (Lib.decDigits u).length from hlen.symm] at hnd
  have h0 : (u < 10 → [dgB (u % 10)] = Lib.decDigits u) ∧ (¬ u < 10 → Lib.decDigits u = Lib.decDigits (u / 10) ++ [dgB (u % 10)]) :=
    ⟨fun h => by rw [Lib.decDigits_one h, Nat.mod_eq_of_lt h, dgB_ten u h], fun h => by rw [decDigits_big h, dgB_ten _ (by omega)]⟩
  have hd1 : (ByteArray.mk #[dgB (u % 10)]) = ⟨[dgB (u % 10)].toArray⟩ := rfl
  rw [hd1] at hd
  generalize [dgB (u % 10)] = L0 at hd h0
  generalize Lib.decDigits u = D at h0 hnd
  have H0 := Lib.hid h0
  have Hu := Lib.hid hu
  clear h0 hlen hd1 hu
  go_enter Tryd.func41, Tryd.ntmps41
  go_wp2_with (go_at_call 67; refine (hd _).mono ?_; clear hd; rintro e w1 ⟨rfl, rfl⟩)
  go_loopw [0, 3] (fun vx vs wr => ∃ (x : Nat) (L : List UInt8), wr = w ∧ vx = .int .u64 x ∧ vs = .string ⟨L.toArray⟩ ∧ Hid (x < 18446744073709551616) ∧ Hid ((x < 10 → L = D) ∧ (¬ x < 10 → D = Lib.decDigits (x / 10) ++ L))) (fun vx _ _ => (intOf vx).toNat)
  case atStart => exact ⟨u, L0, rfl, rfl, rfl, Hu, H0⟩
  case round =>
    obtain ⟨x, L, rfl, rfl, rfl, Hx, HL⟩ := hrel
    by_cases hx : x < 10
    · have hx9 : x ≤ 9 := by omega
      go_wp2
      go_ret
      exact ⟨ret_str (by rw [HL.out.1 hx]), rfl⟩
    · have hx9 : 9 < x := by omega
      have hD := HL.out.2 hx
      have hlen := congrArg List.length hD
      rw [List.length_append] at hlen
      have hLs : (ByteArray.mk L.toArray).size ≤ 20 := by rw [size_mk]; omega
      have hwq : IntKind.u64.wrap ((x : Int) / 10) = ((x / 10 : Nat) : Int) := by
        have := Hx.out
        rw [IntKind.wrap_u64]; omega
      have hq : x / 10 < 18446744073709551616 := Nat.lt_of_le_of_lt (Nat.div_le_self _ _) Hx.out
      have hqx : x / 10 < x := by omega
      generalize x / 10 = q at hwq hq hqx hD
      have hd := rdigit_any (q % 10) (by omega)
      have hcons := cons_bytes (dgB (q % 10)) L
      have hnew : (q < 10 → dgB (q % 10) :: L = D) ∧ (¬ q < 10 → D = Lib.decDigits (q / 10) ++ dgB (q % 10) :: L) := by
        refine ⟨fun h => ?_, fun h => ?_⟩
        · rw [hD, Lib.decDigits_one h, Nat.mod_eq_of_lt h, dgB_ten _ h]; rfl
        · rw [hD, decDigits_big h, dgB_ten _ (by omega)]; simp
      have Hq := Lib.hid hq
      have Hnew := Lib.hid hnew
      have Hcons := Lib.hid hcons
      have hs1 : (ByteArray.mk #[dgB (q % 10)]).size = 1 := rfl
      clear hD hlen hnew hcons hq
      go_wp2_with (go_at_call 67; refine (hd _).mono ?_; clear hd; rintro e w1 ⟨rfl, rfl⟩)
      go_roundw
      case rel => exact ⟨q, dgB (q % 10) :: L, trivial, by go_num, by rw [Hcons.out], Hq, Hnew⟩
      case measure => simp [intOf]; go_num

theorem hexN_step (k x : Nat) (h : k < 16) : hexN (16 - k) x = hexN (16 - (k + 1)) (x / 16) ++ [dgB (x % 16)] := by
  rw [show 16 - k = (16 - (k + 1)) + 1 by omega, hexN]

set_option maxHeartbeats 800000 in
theorem RHex_any (u : Nat) (hu : u < 18446744073709551616) (w : World) :
    Calls Tryd.prog 42 #[.int .u64 u] w fun e w' => e = .returned (.string ⟨(hexN 16 u).toArray⟩) ∧ w = w' := by
  have Hu := Lib.hid hu
  generalize hD : hexN 16 u = D
  have HD := Lib.hid hD
  clear hu hD
  go_enter Tryd.func42, Tryd.ntmps42
  go_wp2
  go_loopw [0, 3, 4] (fun vx vs vk wr => ∃ (x k : Nat) (L : List UInt8), wr = w ∧ vx = .int .u64 x ∧ vs = .string ⟨L.toArray⟩ ∧ vk = .int .i64 k ∧ k ≤ 16 ∧ Hid (L.length = k) ∧ Hid (x < 18446744073709551616) ∧ Hid (hexN (16 - k) x ++ L = D)) (fun _ _ vk _ => 16 - (intOf vk).toNat)
  case atStart => exact ⟨u, 0, [], rfl, rfl, rfl, rfl, by omega, Lib.hid rfl, Hu, Lib.hid (by rw [← HD.out]; simp)⟩
  case round =>
    obtain ⟨x, k, L, rfl, rfl, rfl, rfl, hk, Hl, Hx, HL⟩ := hrel
    by_cases hk16 : k < 16
    · have hwq : IntKind.u64.wrap ((x : Int) / 16) = ((x / 16 : Nat) : Int) := by
        have := Hx.out
        rw [IntKind.wrap_u64]; omega
      have hq : x / 16 < 18446744073709551616 := Nat.lt_of_le_of_lt (Nat.div_le_self _ _) Hx.out
      have hD := HL.out
      rw [hexN_step k x hk16] at hD
      have hd := rdigit_any (x % 16) (by omega)
      generalize x / 16 = q at hwq hq hD
      have hcons := cons_bytes (dgB (x % 16)) L
      have hnew : hexN (16 - (k + 1)) q ++ dgB (x % 16) :: L = D := by rw [← hD]; simp
      have hLs : (ByteArray.mk L.toArray).size ≤ 20 := by rw [size_mk, Hl.out]; omega
      have Hl2 := Lib.hid (show (dgB (x % 16) :: L).length = k + 1 by rw [List.length_cons, Hl.out])
      have Hq := Lib.hid hq
      have Hnew := Lib.hid hnew
      have Hcons := Lib.hid hcons
      have hs1 : (ByteArray.mk #[dgB (x % 16)]).size = 1 := rfl
      clear hD hnew hcons hq Hl HL
      go_wp2_with (go_at_call 67; refine (hd _).mono ?_; clear hd; rintro e w1 ⟨rfl, rfl⟩)
      go_roundw
      case rel => exact ⟨q, k + 1, dgB (x % 16) :: L, trivial, by go_num, by rw [Hcons.out], by go_num, by omega, Hl2, Hq, Hnew⟩
      case measure => simp [intOf]; go_num
    · obtain rfl : k = 16 := by omega
      have hL := HL.out
      go_wp2
      go_ret
      exact ⟨ret_str (by rw [← hL]; rfl), rfl⟩

set_option maxHeartbeats 800000 in
theorem RReadHex_any (s : ByteArray) (w : World) :
    Calls Tryd.prog 46 #[.string s] w fun e w' => e = .returned (.tuple #[.int .u64 ((hexR s.data.toList).1 : Nat), .int .i64 ((hexR s.data.toList).2 : Nat)]) ∧ w = w' := by
  have hsz : s.data.toList.length = s.size := rfl
  by_cases h16 : s.size = 16
  · have hr1 : allD 16 s.data.toList = true → hexR s.data.toList = (num 16 s.data.toList, 0) := fun hd => by unfold hexR; rw [if_pos ⟨hsz.trans h16, hd⟩]
    have hr2 : allD 16 s.data.toList = false → hexR s.data.toList = (0, 3) := fun hd => by unfold hexR; rw [if_neg (fun h => by rw [hd] at h; exact absurd h.2 (by decide))]
    generalize hexR s.data.toList = R at hr1 hr2 ⊢
    have Hr1 := Lib.hid hr1
    have Hr2 := Lib.hid hr2
    clear hr1 hr2 hsz
    have hle16 : s.size ≤ 16 := by omega
    have hge16 : 16 ≤ s.size := by omega
    have hb : ((s.size : Int) != 16) = false := by simp; omega
    go_enter Tryd.func46, Tryd.ntmps46
    go_wp2
    clear h16 hb
    go_loopw [4, 5] (fun x vk w' => ∃ k n : Nat, w' = w ∧ x = .int .u64 n ∧ vk = .int .i64 k ∧ k ≤ 16 ∧ Hid (n = num 16 (s.data.toList.take k)) ∧ Hid (allD 16 (s.data.toList.take k) = true)) (fun _ vk _ => 16 - (intOf vk).toNat)
    case atStart => exact ⟨0, 0, rfl, rfl, rfl, by omega, Lib.hid rfl, Lib.hid rfl⟩
    case round =>
      obtain ⟨k, n, rfl, rfl, rfl, hk, Hn, Hd⟩ := hrel
      by_cases hlt : k < 16
      · have hks : k < s.size := by omega
        have hval := value_any (s[k]'hks)
        by_cases hv : valB (s[k]'hks) < 16
        · have hnum := num_snoc 16 (s.data.toList.take k) (s[k]'hks)
          rw [← take_next s k hks, ← Hn.out] at hnum
          have hd2 : allD 16 (s.data.toList.take (k + 1)) = true := by rw [take_next s k hks, allD_append, allD_one, Hd.out, decide_eq_true hv]; rfl
          have hsm := num_lt 16 _ Hd.out
          rw [← Hn.out, List.length_take, show s.data.toList.length = s.size from rfl, Nat.min_eq_left (by omega)] at hsm
          have hpow : (16 : Nat) ^ k ≤ 16 ^ 15 := Nat.pow_le_pow_right (by omega) (by omega)
          have hn15 : n < 1152921504606846976 := by omega
          have hv15 : valB (s[k]'hks) ≤ 15 := by omega
          have Hnum := Lib.hid hnum
          have Hd2 := Lib.hid hd2
          generalize valB (s[k]'hks) = v at hval hv hv15 Hnum
          have hwm : IntKind.u64.wrap ((n : Int) * 16) = (n : Int) * 16 := by rw [IntKind.wrap_u64]; omega
          have hwa : IntKind.u64.wrap ((n : Int) * 16 + (v : Int)) = ((n * 16 + v : Nat) : Int) := by rw [IntKind.wrap_u64]; omega
          clear hnum hsm hpow hd2 hn15 hv
          go_wp2_with (go_at_call 69; refine (hval _).mono ?_; rintro e w' ⟨rfl, rfl⟩)
          go_roundw
          case rel => exact ⟨k + 1, n * 16 + v, trivial, by go_num, by go_num, by omega, Lib.hid Hnum.out.symm, Hd2⟩
          case measure => simp [intOf]; go_num
        · have hbad : allD 16 s.data.toList = false := by
            rw [← List.take_append_drop k s.data.toList, allD_append, drop_at s k hks, allD_cons, decide_eq_false hv]; simp
          have hR := Hr2.out hbad
          have hv15 : 15 < valB (s[k]'hks) := by omega
          subst hR
          generalize valB (s[k]'hks) = v at hval hv hv15
          clear hbad
          go_wp2_with (go_at_call 69; refine (hval _).mono ?_; rintro e w' ⟨rfl, rfl⟩)
          go_ret2
          exact ⟨rfl, rfl⟩
      · have hks : s.size = k := by omega
        have hall := Hd.out
        have hn := Hn.out
        rw [← hks, take_all] at hall hn
        have hR := Hr1.out hall
        subst hR
        subst hn
        clear hall Hd Hn hks
        go_wp2
        go_ret2
        exact ⟨rfl, rfl⟩
  · have hr : hexR s.data.toList = (0, 3) := by unfold hexR; rw [if_neg (fun h => h16 (hsz.symm.trans h.1))]
    rw [hr]
    have hb : ((s.size : Int) != 16) = true := by simp; omega
    clear hr hsz
    go_enter Tryd.func46, Tryd.ntmps46
    go_wp2
    go_ret2
    exact ⟨rfl, rfl⟩
end Go.Proofs.YtbjmdcjoaapmiaaDoor
