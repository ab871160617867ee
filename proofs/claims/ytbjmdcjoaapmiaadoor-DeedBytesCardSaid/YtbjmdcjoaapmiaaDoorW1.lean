/- The contracts of package wire's number, and of the reference's Num, Truth and Bytes. -/
import Derived.Test.YtbjmdcjoaapmiaaDoorB1
import Derived.Test.YtbjmdcjoaapmiaaDoorWM
import Derived.Test.YtbjmdcjoaapmiaaDoorShelf
import Derived.WalkLawsBesides
import Derived.Laws.ShiftsVarLaws
import Derived.Outline
namespace Go.Proofs.YtbjmdcjoaapmiaaDoor.Wire
open Go.RowKit

/-- A byte as a value. -/
def bV (c : UInt8) : Value := .int .u8 (c.toNat : Int)
theorem bV_one (c : UInt8) : (bV c).oneCell' = true := rfl
theorem bV_of (n : Nat) (h : n < 256) : bV (UInt8.ofNat n) = .int .u8 (n : Int) := by
  unfold bV; rw [UInt8.toNat_ofNat_of_lt' (by show n < 256; exact h)]
theorem infoB : (Tryd.prog.info? 5).map (fun i => (i.zero, i.size, i.bytes)) = some (some (.int .u8 0), 1, 1) := by kernel_rfl

theorem num_snoc (x n j : Nat) (hj : j < n) : (UInt8.ofNat n :: be (n - (j + 1)) (x / 256 ^ (j + 1))).map bV ++ [Value.int .u8 ((x : Int) / 2 ^ (8 * j) % 256)] = (UInt8.ofNat n :: be (n - j) (x / 256 ^ j)).map bV := by
  have e : (x : Int) / 2 ^ (8 * j) % 256 = ((x / 256 ^ j % 256 : Nat) : Int) := by
    simp only [pow256, Int.natCast_emod, Int.natCast_ediv, Int.natCast_pow]; rfl
  rw [e, show n - j = n - (j + 1) + 1 by omega, ← be_step, ← List.cons_append, List.map_append, List.map_singleton, bV_of _ (Nat.mod_lt _ (by decide))]

set_option maxHeartbeats 400000 in
theorem number_any (x : Nat) (hx : x < 18446744073709551616) (w : World) :
    Calls Tryd.prog 85 #[.int .u64 x] w fun e w' => ∃ v, e = .returned v ∧ w'.ownsRow w.heap.size 5 1 v (numB x).length ((numB x).map bV) ∧ Below w.heap.size w w' := by
  obtain ⟨i0, hi, hz0, hz1, hz2⟩ := info_parts infoB
  obtain ⟨hn8, _, _⟩ := nb_facts x hx
  have hlen := Tryd.bits_Len64 (x : Int) w (by omega) (by omega)
  rw [Int.toNat_natCast] at hlen
  have hq : (Lib.bitLen x : Int) + 7 ≤ 100 := by unfold nb at hn8; omega
  have hnb : ((Lib.bitLen x : Int) + 7) / 8 = (nb x : Int) := by unfold nb; omega
  have Hnb := Lib.hid hnb
  have Hx := Lib.hid hx
  clear hnb hx
  unfold numB
  generalize nb x = n at *
  have h0 := World.ownsRow_lit (e := 5) (size := 1) w #[bV (UInt8.ofNat n)] 1 (Nat.le_refl _) (by decide) rfl
  rw [bV_of n (by omega)] at h0
  have H0 := Lib.hid h0
  clear h0
  go_enter Tryd.func85, Tryd.ntmps85
  go_wp2_with (go_at_call 95; refine hlen.mono ?_; clear hlen; rintro e w' ⟨rfl, rfl⟩)
  rw [Hnb.out]
  clear hq Hnb
  go_loopw [4, 5] (fun v i wr => ∃ j : Nat, j ≤ n ∧ i = .int .i64 ((j : Int) - 1) ∧ wr.ownsRow w'.heap.size 5 1 v (n - j + 1) ((UInt8.ofNat n :: be (n - j) (x / 256 ^ j)).map bV) ∧ Below w'.heap.size w' wr) (fun _ i _ => (intOf i + 1).toNat)
  case atStart =>
    refine ⟨n, Nat.le_refl _, rfl, ?_, (Below.refl _ _).alloc (Nat.le_refl _) _⟩
    rw [Nat.sub_self, be, List.map_singleton, bV_of n (by omega)]
    exact H0.out
  case round =>
    obtain ⟨j, hj, rfl, hown, hb⟩ := hrel
    by_cases hlt : 0 < j
    · obtain ⟨m, rfl⟩ : ∃ m, j = m + 1 := ⟨j - 1, by omega⟩
      have hs := num_snoc x n m hj
      rw [show ((m + 1 : Nat) : Int) - 1 = (m : Int) by omega]
      have Hs := Lib.hid hs
      clear hs
      go_wp2_with (at_builtin; refine wpList_append_own _ rfl _ _ 38 rfl w'.heap.size 5 i0 (.int .u8 0) 1 1 Tryd.underlying38 hi hz0 hz1 hz2 rfl (by decide) _ _ _ rfl (hown.alloc _) ⟨wr.heap.size, 0, none⟩ 1 1 [.int .u8 ((x : Int) / 2 ^ (8 * m) % 256)] rfl rfl (cell_one_new _ _ _) (by simp [Value.oneCell']) (by unfold maxLen; omega) (by omega) (by have := hb.size; simp; omega) ?_; intro v' w1 hown' hgrow _; rw [Hs.out] at hown')
      go_roundw
      case rel =>
        refine ⟨m, by omega, rfl, by rw [show n - m + 1 = n - (m + 1) + 1 + 1 by omega]; exact hown', ?_⟩
        exact (hb.alloc hb.size _).grown hgrow (by have := hb.size; simp; omega) (fun j hj => (hown.lt j hj).1)
      case measure => simp [intOf]
    · obtain rfl : j = 0 := by omega
      rw [show ((0 : Nat) : Int) - 1 = -1 by rfl]
      go_wp2
      go_ret
      refine ⟨_, rfl, ?_, hb⟩
      rw [Nat.pow_zero, Nat.div_one, Nat.sub_zero] at hown
      rw [be_len]
      exact hown

theorem rnum_cons (x k : Nat) : Value.int .u8 (((x / 256 ^ k : Nat) : Int) % 256) :: (be k x).map bV = (be (k + 1) x).map bV := by
  rw [be_cons, List.map_cons, bV_of _ (Nat.mod_lt _ (by decide))]
  rfl

set_option maxHeartbeats 400000 in
theorem RNum_any (x : Nat) (hx : x < 18446744073709551616) (w : World) :
    Calls Tryd.prog 55 #[.int .u64 x] w fun e w' => ∃ v, e = .returned v ∧ w'.ownsRow w.heap.size 5 1 v (numB x).length ((numB x).map bV) ∧ Below w.heap.size w w' := by
  obtain ⟨i0, hi, hz0, hz1, hz2⟩ := info_parts infoB
  have Hx := Lib.hid hx
  have Hu := Lib.hid (nb_uniq x · hx)
  clear hx
  go_enter Tryd.func55, Tryd.ntmps55
  go_wp2
  go_loopw [0, 3] (fun y v wr => ∃ k : Nat, k ≤ 8 ∧ y = .int .u64 ((x / 256 ^ k : Nat) : Int) ∧ Hid (0 < k → 256 ^ (k - 1) ≤ x) ∧ wr.ownsRow w.heap.size 5 1 v k ((be k x).map bV) ∧ Below w.heap.size w wr) (fun y _ _ => (intOf y).toNat)
  case atStart => exact ⟨0, by omega, by simp, Lib.hid (fun h => absurd h (by omega)), World.ownsRow_nil _ _ _ _, Below.refl _ _⟩
  case round =>
    obtain ⟨k, hk, rfl, HP, hown, hb⟩ := hrel
    have hcons := Lib.hid (rnum_cons x k)
    have hle : k < 8 ∨ x / 256 ^ k = 0 := by
      rcases Nat.lt_or_ge k 8 with h | h
      · exact .inl h
      · right
        obtain rfl : k = 8 := by omega
        have := Hx.out
        exact Nat.div_eq_of_lt this
    have hdiv : x / 256 ^ (k + 1) = x / 256 ^ k / 256 := by rw [Nat.div_div_eq_div_mul, Nat.pow_succ]
    have HD := Lib.hid hdiv
    clear hdiv
    have hpos : 0 < x / 256 ^ k → 256 ^ k ≤ x := fun h => (Nat.div_pos_iff.1 h).2
    have HQ := Lib.hid hpos
    have hzero : x / 256 ^ k = 0 → x < 256 ^ k := fun h => by
      rcases Nat.lt_or_ge x (256 ^ k) with h1 | h1
      · exact h1
      · have := Nat.div_pos h1 (Nat.pow_pos (by decide)); omega
    have HZ := Lib.hid hzero
    clear hpos hzero
    have hyl : x / 256 ^ k ≤ 18446744073709551615 := Nat.le_trans (Nat.div_le_self _ _) (by have := Hx.out; omega)
    have HY := Lib.hid hyl
    clear hyl
    generalize x / 256 ^ k = y at *
    by_cases hlt : 0 < y
    · have hk8 : k < 8 := by omega
      clear hle
      have hr := (RV.of_own hown).keep (w' := wr.alloc (.cells #[.int .u8 ((y : Int) % 256)] 5)) (by simp) (fun k hk _ => Below.heap_alloc _ _ _ hk)
      have h1 := own_mono (World.ownsRow_lit (e := 5) (size := 1) wr #[.int .u8 ((y : Int) % 256)] 1 (Nat.le_refl _) (by decide) rfl) hb.size
      go_wp2_with (at_builtin; refine wpList_append_rv _ rfl _ _ 38 rfl w.heap.size 5 i0 (.int .u8 0) 1 1 Tryd.underlying38 hi hz0 hz1 hz2 rfl (by decide) (.slice (some ⟨wr.heap.size, 0, none⟩) 1 1) _ _ rfl h1 _ _ _ _ rfl hr (all_one bV bV_one _) (by unfold maxLen; omega) (by omega) (by have := hb.size; simp; omega) ?_; clear h1 hr; intro v' w1 hown' hgrow _; rw [List.singleton_append, hcons.out] at hown')
      rw [Nat.add_comm 1 k] at hown'
      have hy := HY.out
      go_roundw
      case rel =>
        refine ⟨k + 1, by omega, by rw [HD.out, IntWalk.u64_in _ (by omega)]; rfl, Lib.hid (fun _ => HQ.out hlt), hown', ?_⟩
        exact (hb.alloc hb.size _).grown hgrow (by have := hb.size; simp; omega) (fun j hj => by simp [Value.ownBlock] at hj; have := hb.size; omega)
      case measure => rw [IntWalk.u64_in _ (by omega)]; simp [intOf]; omega
    · obtain rfl : y = 0 := by omega
      have hk := Hu.out k (HZ.out rfl) HP.out
      have Hk := Lib.hid hk
      clear hk hcons HD
      have hcons : Hid (Value.int .u8 (k : Int) :: (be k x).map bV = (numB x).map bV) := by rw [numB, Hk.out, List.map_cons, bV_of k (by omega)]; exact Lib.hid rfl
      have hlen : Hid ((numB x).length = 1 + k) := by rw [numB, List.length_cons, be_len, Hk.out, Nat.add_comm]; exact Lib.hid rfl
      have hr := (RV.of_own hown).keep (w' := wr.alloc (.cells #[.int .u8 (k : Int)] 5)) (by simp) (fun k hk _ => Below.heap_alloc _ _ _ hk)
      have h1 := own_mono (World.ownsRow_lit (e := 5) (size := 1) wr #[.int .u8 (k : Int)] 1 (Nat.le_refl _) (by decide) rfl) hb.size
      obtain ⟨p, c, rfl, _⟩ := RV.of_own hown
      go_wp2_with (at_builtin; refine wpList_append_rv _ rfl _ _ 38 rfl w.heap.size 5 i0 (.int .u8 0) 1 1 Tryd.underlying38 hi hz0 hz1 hz2 rfl (by decide) (.slice (some ⟨wr.heap.size, 0, none⟩) 1 1) _ _ rfl h1 _ _ _ _ rfl hr (all_one bV bV_one _) (by unfold maxLen; omega) (by omega) (by have := hb.size; simp; omega) ?_; clear h1 hr; intro v' w1 hown' hgrow _; rw [List.singleton_append, hcons.out] at hown')
      go_ret
      refine ⟨v', rfl, by rw [hlen.out]; exact hown', ?_⟩
      exact (hb.alloc hb.size _).grown hgrow (by have := hb.size; simp; omega) (fun j hj => by simp [Value.ownBlock] at hj; have := hb.size; omega)
end Go.Proofs.YtbjmdcjoaapmiaaDoor.Wire
