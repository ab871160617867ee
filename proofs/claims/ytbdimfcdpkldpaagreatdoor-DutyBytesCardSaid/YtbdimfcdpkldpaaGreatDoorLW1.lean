/- The contracts of package wire's number, and of the reference's Num, Truth and Bytes. The contracts of package wire's fault, New and add, and what a writer stands at. The contracts of slices.Clone over bytes, of the writer's methods, of the reference's Truth and Bytes, and of the statements' own short, laid and write. The contracts of the writer's Done, and of the statements' own laid and write of a thing. The contracts of the reader's Read, take, Byte, Num, Upto, Truth, Bytes, Left, Err, Done. -/
import Derived.Test.YtbdimfcdpkldpaaGreatDoorLB
import Derived.Test.YtbdimfcdpkldpaaGreatDoorLDM
import Derived.Test.YtbdimfcdpkldpaaGreatDoorShelf
import Derived.WalkLawsBesides
import Derived.Laws.ShiftsVarLaws
import Derived.Outline
import Derived.Deep.QuietTactic
import Derived.BigQuiet
import Derived.WalkSpells
namespace Go.Proofs.YtbdimfcdpkldpaaGreatDoor.Wire
open Go.RowKit

/-- A byte as a value. -/
def bV (c : UInt8) : Value := .int .u8 (c.toNat : Int)
theorem bV_one (c : UInt8) : (bV c).oneCell' = true := rfl
theorem bV_of (n : Nat) (h : n < 256) : bV (UInt8.ofNat n) = .int .u8 (n : Int) := by
  unfold bV; rw [UInt8.toNat_ofNat_of_lt' (by show n < 256; exact h)]
theorem infoB : (Tryz.prog.info? 5).map (fun i => (i.zero, i.size, i.bytes)) = some (some (.int .u8 0), 1, 1) := by kernel_rfl

theorem num_snoc (x n j : Nat) (hj : j < n) : (UInt8.ofNat n :: be (n - (j + 1)) (x / 256 ^ (j + 1))).map bV ++ [Value.int .u8 ((x : Int) / 2 ^ (8 * j) % 256)] = (UInt8.ofNat n :: be (n - j) (x / 256 ^ j)).map bV := by
  have e : (x : Int) / 2 ^ (8 * j) % 256 = ((x / 256 ^ j % 256 : Nat) : Int) := by
    simp only [pow256, Int.natCast_emod, Int.natCast_ediv, Int.natCast_pow]; rfl
  rw [e, show n - j = n - (j + 1) + 1 by omega, ← be_step, ← List.cons_append, List.map_append, List.map_singleton, bV_of _ (Nat.mod_lt _ (by decide))]

set_option maxHeartbeats 400000 in
theorem number_any (x : Nat) (hx : x < 18446744073709551616) (w : World) :
    Calls Tryz.prog 84 #[.int .u64 x] w fun e w' => ∃ v, e = .returned v ∧ w'.ownsRow w.heap.size 5 1 v (numB x).length ((numB x).map bV) ∧ Below w.heap.size w w' := by
  obtain ⟨i0, hi, hz0, hz1, hz2⟩ := info_parts infoB
  obtain ⟨hn8, _, _⟩ := nb_facts x hx
  have hlen := Tryz.bits_Len64 (x : Int) w (by omega) (by omega)
  rw [Int.toNat_natCast] at hlen
  have hq : (Lib.bitLen x : Int) + 7 ≤ 100 := by unfold nb at hn8; omega
  have hnb : ((Lib.bitLen x : Int) + 7) / 8 = (nb x : Int) := by unfold nb; omega
  have Hnb := Lib.hid hnb
  have Hx := Lib.hid hx
  clear hnb hx
  unfold numB
  generalize nb x = n at *
  have h0 := World.ownsRow_lit (e := 5) (size := 1) w #[bV (UInt8.ofNat n)] 1 (Nat.le_refl _) (by decide) rfl
  rw [bV_of n (by omega)] at h0
  have H0 := Lib.hid h0
  clear h0
  go_enter Tryz.func84, Tryz.ntmps84
  go_wp2_with (go_at_call 127; refine hlen.mono ?_; clear hlen; rintro e w' ⟨rfl, rfl⟩)
  rw [Hnb.out]
  clear hq Hnb
  go_loopw [4, 5] (fun v i wr => ∃ j : Nat, j ≤ n ∧ i = .int .i64 ((j : Int) - 1) ∧ wr.ownsRow w'.heap.size 5 1 v (n - j + 1) ((UInt8.ofNat n :: be (n - j) (x / 256 ^ j)).map bV) ∧ Below w'.heap.size w' wr) (fun _ i _ => (intOf i + 1).toNat)
  case atStart =>
    refine ⟨n, Nat.le_refl _, rfl, ?_, (Below.refl _ _).alloc (Nat.le_refl _) _⟩
    rw [Nat.sub_self, be, List.map_singleton, bV_of n (by omega)]
    exact H0.out
  case round =>
    obtain ⟨j, hj, rfl, hown, hb⟩ := hrel
    by_cases hlt : 0 < j
    · obtain ⟨m, rfl⟩ : ∃ m, j = m + 1 := ⟨j - 1, by omega⟩
      have hs := num_snoc x n m hj
      rw [show ((m + 1 : Nat) : Int) - 1 = (m : Int) by omega]
      have Hs := Lib.hid hs
      clear hs
      go_wp2_with (at_builtin; refine wpList_append_own _ rfl _ _ 38 rfl w'.heap.size 5 i0 (.int .u8 0) 1 1 Tryz.underlying38 hi hz0 hz1 hz2 rfl (by decide) _ _ _ rfl (hown.alloc _) ⟨wr.heap.size, 0, none⟩ 1 1 [.int .u8 ((x : Int) / 2 ^ (8 * m) % 256)] rfl rfl (cell_one_new _ _ _) (by simp [Value.oneCell']) (by unfold maxLen; omega) (by omega) (by have := hb.size; simp; omega) ?_; intro v' w1 hown' hgrow _; rw [Hs.out] at hown')
      go_roundw
      case rel =>
        refine ⟨m, by omega, rfl, by rw [show n - m + 1 = n - (m + 1) + 1 + 1 by omega]; exact hown', ?_⟩
        exact (hb.alloc hb.size _).grown hgrow (by have := hb.size; simp; omega) (fun j hj => (hown.lt j hj).1)
      case measure => simp [intOf]
    · obtain rfl : j = 0 := by omega
      rw [show ((0 : Nat) : Int) - 1 = -1 by rfl]
      go_wp2
      go_ret
      refine ⟨_, rfl, ?_, hb⟩
      rw [Nat.pow_zero, Nat.div_one, Nat.sub_zero] at hown
      rw [be_len]
      exact hown

theorem rnum_cons (x k : Nat) : Value.int .u8 (((x / 256 ^ k : Nat) : Int) % 256) :: (be k x).map bV = (be (k + 1) x).map bV := by
  rw [be_cons, List.map_cons, bV_of _ (Nat.mod_lt _ (by decide))]
  rfl

set_option maxHeartbeats 400000 in
theorem RNum_any (x : Nat) (hx : x < 18446744073709551616) (w : World) :
    Calls Tryz.prog 50 #[.int .u64 x] w fun e w' => ∃ v, e = .returned v ∧ w'.ownsRow w.heap.size 5 1 v (numB x).length ((numB x).map bV) ∧ Below w.heap.size w w' := by
  obtain ⟨i0, hi, hz0, hz1, hz2⟩ := info_parts infoB
  have Hx := Lib.hid hx
  have Hu := Lib.hid (nb_uniq x · hx)
  clear hx
  go_enter Tryz.func50, Tryz.ntmps50
  go_wp2
  go_loopw [0, 3] (fun y v wr => ∃ k : Nat, k ≤ 8 ∧ y = .int .u64 ((x / 256 ^ k : Nat) : Int) ∧ Hid (0 < k → 256 ^ (k - 1) ≤ x) ∧ wr.ownsRow w.heap.size 5 1 v k ((be k x).map bV) ∧ Below w.heap.size w wr) (fun y _ _ => (intOf y).toNat)
  case atStart => exact ⟨0, by omega, by simp, Lib.hid (fun h => absurd h (by omega)), World.ownsRow_nil _ _ _ _, Below.refl _ _⟩
  case round =>
    obtain ⟨k, hk, rfl, HP, hown, hb⟩ := hrel
    have hcons := Lib.hid (rnum_cons x k)
    have hle : k < 8 ∨ x / 256 ^ k = 0 := by
      rcases Nat.lt_or_ge k 8 with h | h
      · exact .inl h
      · right
        obtain rfl : k = 8 := by omega
        have := Hx.out
        exact Nat.div_eq_of_lt this
    have hdiv : x / 256 ^ (k + 1) = x / 256 ^ k / 256 := by rw [Nat.div_div_eq_div_mul, Nat.pow_succ]
    have HD := Lib.hid hdiv
    clear hdiv
    have hpos : 0 < x / 256 ^ k → 256 ^ k ≤ x := fun h => (Nat.div_pos_iff.1 h).2
    have HQ := Lib.hid hpos
    have hzero : x / 256 ^ k = 0 → x < 256 ^ k := fun h => by
      rcases Nat.lt_or_ge x (256 ^ k) with h1 | h1
      · exact h1
      · have := Nat.div_pos h1 (Nat.pow_pos (by decide)); omega
    have HZ := Lib.hid hzero
    clear hpos hzero
    have hyl : x / 256 ^ k ≤ 18446744073709551615 := Nat.le_trans (Nat.div_le_self _ _) (by have := Hx.out; omega)
    have HY := Lib.hid hyl
    clear hyl
    generalize x / 256 ^ k = y at *
    by_cases hlt : 0 < y
    · have hk8 : k < 8 := by omega
      clear hle
      have hr := (RV.of_own hown).keep (w' := wr.alloc (.cells #[.int .u8 ((y : Int) % 256)] 5)) (by simp) (fun k hk _ => Below.heap_alloc _ _ _ hk)
      have h1 := own_mono (World.ownsRow_lit (e := 5) (size := 1) wr #[.int .u8 ((y : Int) % 256)] 1 (Nat.le_refl _) (by decide) rfl) hb.size
      go_wp2_with (at_builtin; refine wpList_append_rv _ rfl _ _ 38 rfl w.heap.size 5 i0 (.int .u8 0) 1 1 Tryz.underlying38 hi hz0 hz1 hz2 rfl (by decide) (.slice (some ⟨wr.heap.size, 0, none⟩) 1 1) _ _ rfl h1 _ _ _ _ rfl hr (all_one bV bV_one _) (by unfold maxLen; omega) (by omega) (by have := hb.size; simp; omega) ?_; clear h1 hr; intro v' w1 hown' hgrow _; rw [List.singleton_append, hcons.out] at hown')
      rw [Nat.add_comm 1 k] at hown'
      have hy := HY.out
      go_roundw
      case rel =>
        refine ⟨k + 1, by omega, by rw [HD.out, IntWalk.u64_in _ (by omega)]; rfl, Lib.hid (fun _ => HQ.out hlt), hown', ?_⟩
        exact (hb.alloc hb.size _).grown hgrow (by have := hb.size; simp; omega) (fun j hj => by simp [Value.ownBlock] at hj; have := hb.size; omega)
      case measure => rw [IntWalk.u64_in _ (by omega)]; simp [intOf]; omega
    · obtain rfl : y = 0 := by omega
      have hk := Hu.out k (HZ.out rfl) HP.out
      have Hk := Lib.hid hk
      clear hk hcons HD
      have hcons : Hid (Value.int .u8 (k : Int) :: (be k x).map bV = (numB x).map bV) := by rw [numB, Hk.out, List.map_cons, bV_of k (by omega)]; exact Lib.hid rfl
      have hlen : Hid ((numB x).length = 1 + k) := by rw [numB, List.length_cons, be_len, Hk.out, Nat.add_comm]; exact Lib.hid rfl
      have hr := (RV.of_own hown).keep (w' := wr.alloc (.cells #[.int .u8 (k : Int)] 5)) (by simp) (fun k hk _ => Below.heap_alloc _ _ _ hk)
      have h1 := own_mono (World.ownsRow_lit (e := 5) (size := 1) wr #[.int .u8 (k : Int)] 1 (Nat.le_refl _) (by decide) rfl) hb.size
      obtain ⟨p, c, rfl, _⟩ := RV.of_own hown
      go_wp2_with (at_builtin; refine wpList_append_rv _ rfl _ _ 38 rfl w.heap.size 5 i0 (.int .u8 0) 1 1 Tryz.underlying38 hi hz0 hz1 hz2 rfl (by decide) (.slice (some ⟨wr.heap.size, 0, none⟩) 1 1) _ _ rfl h1 _ _ _ _ rfl hr (all_one bV bV_one _) (by unfold maxLen; omega) (by omega) (by have := hb.size; simp; omega) ?_; clear h1 hr; intro v' w1 hown' hgrow _; rw [List.singleton_append, hcons.out] at hown')
      go_ret
      refine ⟨v', rfl, by rw [hlen.out]; exact hown', ?_⟩
      exact (hb.alloc hb.size _).grown hgrow (by have := hb.size; simp; omega) (fun j hj => by simp [Value.ownBlock] at hj; have := hb.size; omega)
end Go.Proofs.YtbdimfcdpkldpaaGreatDoor.Wire

namespace Go.Proofs.YtbdimfcdpkldpaaGreatDoor.Wire
open Go.RowKit

theorem failed_no (b : Nat) (w : World) (h : w.cell? ⟨b, 0, none⟩ = some (.int .i64 0)) :
    Calls Tryz.prog 87 #[.pointer (some ⟨b, 0, none⟩)] w fun e w' => e = .returned (.bool false) ∧ w = w' := by
  go_enter Tryz.func87, Tryz.ntmps87
  go_wp2
  go_ret
  exact ⟨rfl, rfl⟩
theorem failed_yes (b e : Nat) (he : 0 < e) (w : World) (h : w.cell? ⟨b, 0, none⟩ = some (.int .i64 e)) :
    Calls Tryz.prog 87 #[.pointer (some ⟨b, 0, none⟩)] w fun e w' => e = .returned (.bool true) ∧ w = w' := by
  have hne : ((e : Int) != 0) = true := by rw [bne_iff_ne]; omega
  clear he
  go_enter Tryz.func87, Tryz.ntmps87
  go_wp2
  go_ret
  exact ⟨rfl, rfl⟩
theorem fail_first (b : Nat) (x : Int) (w : World) (h : w.cell? ⟨b, 0, none⟩ = some (.int .i64 0)) (hf : w.frozen? ⟨b, 0, none⟩ = false) :
    Calls Tryz.prog 126 #[.pointer (some ⟨b, 0, none⟩), .int .i64 x] w fun e w' => e = .returned (.tuple #[]) ∧ w' = w.setCell ⟨b, 0, none⟩ (.int .i64 x) := by
  go_enter Tryz.func126, Tryz.ntmps126
  go_wp2
  go_end0
  exact ⟨rfl, rfl⟩
theorem fail_later (b e : Nat) (he : 0 < e) (x : Int) (w : World) (h : w.cell? ⟨b, 0, none⟩ = some (.int .i64 e)) :
    Calls Tryz.prog 126 #[.pointer (some ⟨b, 0, none⟩), .int .i64 x] w fun e w' => e = .returned (.tuple #[]) ∧ w = w' := by
  have hne : ((e : Int) == 0) = false := by rw [beq_eq_false_iff_ne]; omega
  clear he
  go_enter Tryz.func126, Tryz.ntmps126
  go_wp2
  go_end0
  exact ⟨rfl, rfl⟩

/-- What a writer holds behind bytes that were added: nothing, once they were too many. -/
def wAdd (most : Nat) (st : Option (List UInt8)) (bs : List UInt8) : Option (List UInt8) := st.bind fun l => if most < l.length + bs.length then none else some (l ++ bs)
theorem wAdd_append (most : Nat) (st : Option (List UInt8)) (a b : List UInt8) : wAdd most (wAdd most st a) b = wAdd most st (a ++ b) := by
  cases st with
  | none => rfl
  | some l =>
    simp only [wAdd, Option.bind_some, List.length_append]
    by_cases h : most < l.length + a.length
    · rw [if_pos h, if_pos (by omega)]; rfl
    · rw [if_neg h]
      simp only [Option.bind_some, List.length_append, List.append_assoc, Nat.add_assoc]

/-- The writer at block b, whose row is v, holds st. -/
def WrAt (w : World) (B b most : Nat) (v : Value) (st : Option (List UInt8)) : Prop :=
  B ≤ b ∧ (∀ k, v.ownBlock = some k → B ≤ k) ∧ match st with
  | some l => Blk w b 124 #[.int .i64 0, .int .i64 (most : Int), v] ∧ w.ownsRow B 5 1 v l.length (l.map bV) ∧ l.length ≤ most
  | none => Blk w b 124 #[.int .i64 4, .int .i64 (most : Int), v]
/-- A step of the writer's, behind which it holds st. -/
def WrStep (w w' : World) (B b most : Nat) (v : Value) (st : Option (List UInt8)) : Prop :=
  ∃ v', WrAt w' B b most v' st ∧ Foot (fun k => k = b ∨ v.ownBlock = some k) w w' ∧ (v'.ownBlock = v.ownBlock ∨ ∀ k, v'.ownBlock = some k → w.heap.size ≤ k)

section
variable {w w' w1 w2 : World} {B b most : Nat} {v : Value} {st st2 : Option (List UInt8)}
theorem WrAt.below {B' : Nat} (h : WrAt w B b most v st) (hb : Below B' w w') (hB : w.heap.size ≤ B') : WrAt w' B b most v st := by
  refine ⟨h.1, h.2.1, ?_⟩
  have h3 := h.2.2
  cases st with
  | none => exact h3.below hb (by have := h3.lt; omega)
  | some l => exact ⟨h3.1.below hb (by have := h3.1.lt; omega), (Foot.of_below (fun _ => False) (hb.mono hB)).own h3.2.1 (fun _ _ => id), h3.2.2⟩
theorem WrStep.pre {w0 : World} (hb : Below w0.heap.size w0 w) (h : WrStep w w' B b most v st) : WrStep w0 w' B b most v st := by
  obtain ⟨v', h1, h2, h3⟩ := h
  refine ⟨v', h1, (Foot.of_below _ hb).trans h2, h3.imp id fun h k hk => by have := h k hk; have := hb.size; omega⟩
theorem WrStep.seq {v1 : Value} (h2 : Foot (fun k => k = b ∨ v.ownBlock = some k) w w1) (h3 : v1.ownBlock = v.ownBlock ∨ ∀ k, v1.ownBlock = some k → w.heap.size ≤ k) (k : WrStep w1 w2 B b most v1 st2) : WrStep w w2 B b most v st2 := by
  obtain ⟨v2, k1, k2, k3⟩ := k
  refine ⟨v2, k1, h2.then_ k2 ?_, ?_⟩
  · intro x hx
    rcases hx with rfl | hx
    · exact .inl (.inl rfl)
    · rcases h3 with e | e
      · exact .inl (.inr (e ▸ hx))
      · exact .inr (e x hx)
  · have hs := h2.size
    rcases k3 with e | e
    · rw [e]; exact h3
    · exact .inr fun k hk => by have := e k hk; omega
theorem WrAt.same (h : WrAt w B b most v st) : WrStep w w B b most v st := ⟨v, h, Foot.refl _ _, .inl rfl⟩
end

set_option maxHeartbeats 400000 in
theorem New_any (n : Int) (w : World) :
    Calls Tryz.prog 41 #[.int .i64 n] w fun e w' => e = .returned (.pointer (some ⟨w.heap.size, 0, none⟩)) ∧ WrAt w' w.heap.size w.heap.size n.toNat (.slice none 0 0) (some []) ∧ Below w.heap.size w w' := by
  have key : ∀ m : Int, m = (n.toNat : Int) → WrAt (w.alloc (.cells #[.int .i64 0, .int .i64 m, .slice none 0 0] 124)) w.heap.size w.heap.size n.toNat (.slice none 0 0) (some []) := by
    rintro m rfl
    exact ⟨Nat.le_refl _, (fun k h => by cases h), Blk.new _ _ _, World.ownsRow_nil _ _ _ _, Nat.zero_le _⟩
  have K := Lib.hid key
  clear key
  by_cases h : 0 ≤ n
  · go_enter Tryz.func41, Tryz.ntmps41
    go_wp2
    go_ret
    exact ⟨rfl, K.out _ (by omega), (Below.refl _ _).alloc (Nat.le_refl _) _⟩
  · go_enter Tryz.func41, Tryz.ntmps41
    go_wp2
    go_ret
    exact ⟨rfl, K.out _ (by omega), (Below.refl _ _).alloc (Nat.le_refl _) _⟩

set_option maxHeartbeats 400000 in
theorem add_full {B b most : Nat} {v : Value} (w : World) (bs : List UInt8) (x : Value) (h : WrAt w B b most v none) :
    Calls Tryz.prog 83 #[.pointer (some ⟨b, 0, none⟩), x] w fun e w' => e = .returned (.tuple #[]) ∧ WrStep w w' B b most v (wAdd most none bs) := by
  have hs := Lib.hid h.same
  have hf := failed_yes b 4 (by decide) w (h.2.2.cell 0)
  clear h
  go_enter Tryz.func83, Tryz.ntmps83
  go_wp2_with (go_at_call 87; refine hf.mono ?_; clear hf; rintro e w' ⟨rfl, rfl⟩)
  refine bodyPost_ret (results_none rfl _ _ _) rfl ?_
  exact ⟨rfl, hs.out⟩

set_option maxHeartbeats 400000 in
theorem add_over {B b most : Nat} {v : Value} (w : World) (bs : List UInt8) (x : Value) (G : Nat → Prop) (hr : RV w G x bs.length 1 (bs.map bV)) (l : List UInt8) (hl : l.length ≤ 250000) (hm : most < l.length + bs.length) (hmm : most ≤ maxLen) (h : WrAt w B b most v (some l)) :
    Calls Tryz.prog 83 #[.pointer (some ⟨b, 0, none⟩), x] w fun e w' => e = .returned (.tuple #[]) ∧ WrStep w w' B b most v (wAdd most (some l) bs) := by
  unfold maxLen at hmm
  obtain ⟨hB, hvB, hblk, hown, hlm⟩ := h
  obtain ⟨p, c, rfl, _⟩ := RV.of_own hown
  obtain ⟨px, cx, rfl, _⟩ := hr
  have hf := failed_no b w (hblk.cell 0)
  have h1 : w.cell? ⟨b, 0, none⟩ = some (.int .i64 0) := hblk.cell 0
  have h2 : w.cell? ⟨b, 1, none⟩ = some (.int .i64 (most : Int)) := hblk.cell 1
  have h3 : w.cell? ⟨b, 2, none⟩ = some (.slice p l.length c) := hblk.cell 2
  have h4 : w.frozen? ⟨b, 0, none⟩ = false := hblk.frozen 0
  have hff := fun n => fail_first b 4 (w.drewN n) h1 h4
  have hfin : ∀ n, WrStep w ((w.drewN n).setCell ⟨b, 0, none⟩ (.int .i64 4)) B b most (.slice p l.length c) (wAdd most (some l) bs) := by
    intro n
    refine ⟨_, ?_, ((Foot.refl _ _).drewN n).setCell (.inl (.inl rfl)) _, .inl rfl⟩
    simp only [wAdd, Option.bind_some, if_pos hm]
    exact ⟨hB, hvB, Blk.set hblk 0 _⟩
  have HF := Lib.hid hfin
  have hdec : decide ((bs.length : Int) > (most : Int) - (l.length : Int)) = true := by simp; omega
  clear hfin hblk hown hvB hm
  go_enter Tryz.func83, Tryz.ntmps83
  go_wp2_with (go_at_call 87; refine hf.mono ?_; clear hf; rintro e w' ⟨rfl, rfl⟩)
  go_quiet (fail)
  go_wp2_with (go_at_call 126; refine (hff _).mono ?_; clear hff; rintro e w1 ⟨rfl, rfl⟩)
  refine bodyPost_ret (results_none rfl _ _ _) rfl ?_
  exact ⟨rfl, HF.out _⟩

set_option maxHeartbeats 400000 in
theorem add_fits {B b most : Nat} {v : Value} (w : World) (bs : List UInt8) (hbs : bs.length ≤ 300) (x : Value) (G : Nat → Prop) (hr : RV w G x bs.length 1 (bs.map bV)) (l : List UInt8) (hl : l.length ≤ 250000) (hm : ¬ most < l.length + bs.length) (hmm : most ≤ maxLen) (h : WrAt w B b most v (some l)) :
    Calls Tryz.prog 83 #[.pointer (some ⟨b, 0, none⟩), x] w fun e w' => e = .returned (.tuple #[]) ∧ WrStep w w' B b most v (wAdd most (some l) bs) := by
  unfold maxLen at hmm
  obtain ⟨i0, hi, hz0, hz1, hz2⟩ := info_parts infoB
  obtain ⟨hB, hvB, hblk, hown, hlm⟩ := h
  obtain ⟨p, c, rfl, _⟩ := RV.of_own hown
  have HR := Lib.hid hr
  obtain ⟨px, cx, rfl, _⟩ := hr
  have hf := failed_no b w (hblk.cell 0)
  have h1 : w.cell? ⟨b, 0, none⟩ = some (.int .i64 0) := hblk.cell 0
  have h2 : w.cell? ⟨b, 1, none⟩ = some (.int .i64 (most : Int)) := hblk.cell 1
  have h3 : w.cell? ⟨b, 2, none⟩ = some (.slice p l.length c) := hblk.cell 2
  have hdec : decide ((bs.length : Int) > (most : Int) - (l.length : Int)) = false := by simp; omega
  have hne := own_ne_blk hown hblk (by decide)
  have hbw := hblk.lt
  have HK := Lib.hid hblk
  clear hblk
  go_enter Tryz.func83, Tryz.ntmps83
  go_wp2_with (go_at_call 87; refine hf.mono ?_; clear hf; rintro e w' ⟨rfl, rfl⟩)
  go_quiet (fail)
  have hO : ∀ n, (w.drewN n).ownsRow B 5 1 (.slice p l.length c) l.length (l.map bV) := fun n => hown
  have hR : ∀ n, RV (w.drewN n) G (.slice px bs.length cx) bs.length 1 (bs.map bV) := fun n => HR.out
  have hBw : ∀ n, B ≤ (w.drewN n).heap.size := fun n => by show B ≤ w.heap.size; omega
  go_wp2_with (at_builtin; refine wpList_append_rv _ rfl _ _ 38 rfl B 5 i0 (.int .u8 0) 1 1 Tryz.underlying38 hi hz0 hz1 hz2 rfl (by decide) (.slice p l.length c) _ _ rfl (hO _) G (.slice px bs.length cx) _ _ rfl (hR _) (all_one bV bV_one _) (by unfold maxLen; omega) (by omega) (hBw _) ?_; clear hO hR hBw; intro v' w1 hown' hgrow hat; obtain ⟨p', c', rfl, _⟩ := RV.of_own hown'; have hb1 : Blk w1 b _ _ := (hgrow.block b hbw (fun e => hne e.symm)).trans HK.out; have h4 := hb1.cell 2; have h5 := hb1.frozen 2; simp only [List.getElem?_toArray, List.getElem?_cons_succ, List.getElem?_cons_zero] at h4)
  go_end0
  have hfoot : Foot (fun k => k = b ∨ (Value.slice p l.length c).ownBlock = some k) w w1 := ((Foot.refl _ w).drewN _).then_ (Foot.of_grown hgrow) (fun x hx => .inl (.inr hx))
  have hne1 : (Value.slice p' (l.length + bs.length) c').ownBlock ≠ some b := by
    rcases hat with e | e
    · rw [e]; exact hne
    · rw [e]; intro h; injection h with h; have h' : w.heap.size = b := h; omega
  refine ⟨rfl, .slice p' (l.length + bs.length) c', ⟨hB, ?_, ?_⟩, hfoot.setCell (.inl (.inl rfl)) _, ?_⟩
  · intro k hk
    rcases hat with e | e
    · exact hvB k (e ▸ hk)
    · rw [e] at hk; injection hk with hk; subst hk; show B ≤ w.heap.size; omega
  · simp only [wAdd, Option.bind_some, if_neg hm]
    refine ⟨hb1.set 2 _, ?_, by rw [List.length_append]; omega⟩
    rw [List.length_append, List.map_append]
    exact ((Foot.refl (fun k => k = b) w1).setCell (.inl rfl) _).own hown' (fun k hk e => hne1 (by rw [hk, e]))
  · rcases hat with e | e
    · exact .inl e
    · exact .inr fun k hk => by rw [e] at hk; injection hk with hk; subst hk; exact Nat.le_refl _

theorem add_any {B b most : Nat} {v : Value} {st : Option (List UInt8)} (w : World) (bs : List UInt8) (hbs : bs.length ≤ 300) (x : Value) (G : Nat → Prop) (hr : RV w G x bs.length 1 (bs.map bV)) (hl : ∀ l, st = some l → l.length ≤ 250000) (hmm : most ≤ maxLen) (h : WrAt w B b most v st) :
    Calls Tryz.prog 83 #[.pointer (some ⟨b, 0, none⟩), x] w fun e w' => e = .returned (.tuple #[]) ∧ WrStep w w' B b most v (wAdd most st bs) := by
  cases st with
  | none => exact add_full w bs x h
  | some l =>
    by_cases hm : most < l.length + bs.length
    · exact add_over w bs x G hr l (hl l rfl) hm hmm h
    · exact add_fits w bs hbs x G hr l (hl l rfl) hm hmm h
end Go.Proofs.YtbdimfcdpkldpaaGreatDoor.Wire

namespace Go.Proofs.YtbdimfcdpkldpaaGreatDoor.Wire
open Go.RowKit

set_option maxHeartbeats 400000 in
theorem Clone_any (w : World) (x : Value) (l : List UInt8) (hl : l.length ≤ 300000) (G : Nat → Prop) (hr : RV w G x l.length 1 (l.map bV)) :
    Calls Tryz.prog 88 #[x] w fun e w' => ∃ v, e = .returned v ∧ w'.ownsRow w.heap.size 5 1 v l.length (l.map bV) ∧ Below w.heap.size w w' := by
  obtain ⟨i0, hi, hz0, hz1, hz2⟩ := info_parts infoB
  have HR := Lib.hid hr
  have hnil : ∀ (W : World) (a : Option Addr) (n c n' c' : Nat), (binOp .eql 38 (.slice a n c) (.slice none n' c')).run Tryz.prog W = .ok (.bool a.isNone) W := fun W a n c n' c' => Lib.run_eql_slice_nil W _ _ a n c n' c' Tryz.underlying38
  obtain ⟨p, c, rfl, hnc, _, hp, _⟩ := hr
  cases p with
  | none =>
    obtain rfl := hp rfl
    have hn : l.length = 0 := by omega
    obtain rfl := List.length_eq_zero_iff.1 hn
    clear hn hp HR
    go_enter Tryz.func88, Tryz.ntmps88
    go_wp2
    go_ret
    exact ⟨_, rfl, World.ownsRow_nil _ _ _ _, Below.refl _ _⟩
  | some ad =>
    have h1 := World.ownsRow_lit (e := 5) (size := 1) w #[] 0 (Nat.le_refl _) (by decide) rfl
    have hr := HR.out.keep (w' := w.alloc (.cells #[] 5)) (by simp) (fun k hk _ => Below.heap_alloc _ _ _ hk)
    clear hp
    go_enter Tryz.func88, Tryz.ntmps88
    go_wp2_with (at_builtin; refine wpList_append_rv _ rfl _ _ 38 rfl w.heap.size 5 i0 (.int .u8 0) 1 1 Tryz.underlying38 hi hz0 hz1 hz2 rfl (by decide) (.slice (some ⟨w.heap.size, 0, none⟩) 0 0) _ _ rfl h1 _ _ _ _ rfl hr (all_one bV bV_one _) (by unfold maxLen; omega) (by omega) (by simp) ?_; clear h1 hr; intro v' w1 hown' hgrow _; rw [List.nil_append, Nat.zero_add] at hown')
    go_ret
    exact ⟨v', rfl, hown', ((Below.refl _ _).alloc (Nat.le_refl _) _).grown hgrow (by simp) (fun j hj => by cases hj; exact Nat.le_refl _)⟩

theorem RV.new {w : World} (c : UInt8) : RV (w.alloc (.cells #[.int .u8 (c.toNat : Int)] 5)) (fun b => w.heap.size ≤ b) (.slice (some ⟨w.heap.size, 0, none⟩) 1 1) ([c].length) 1 ([c].map bV) := by
  have h := RV.of_own (World.ownsRow_lit (e := 5) (size := 1) w #[.int .u8 (c.toNat : Int)] 1 (Nat.le_refl _) (by decide) rfl)
  exact h.mono fun k _ hk => by simp [Value.ownBlock] at hk; omega

section
variable {B b most : Nat} {v : Value} {st : Option (List UInt8)}
theorem WrAt.alloc {w : World} (h : WrAt w B b most v st) (o : Obj) : WrAt (w.alloc o) B b most v st := h.below ((Below.refl w.heap.size w).alloc (Nat.le_refl _) o) (Nat.le_refl _)
theorem below_alloc (w : World) (o : Obj) : Below w.heap.size w (w.alloc o) := (Below.refl _ _).alloc (Nat.le_refl _) _

set_option maxHeartbeats 400000 in
theorem WByte_any (w : World) (c : UInt8) (hl : ∀ l, st = some l → l.length ≤ 250000) (hmm : most ≤ maxLen) (h : WrAt w B b most v st) :
    Calls Tryz.prog 128 #[.pointer (some ⟨b, 0, none⟩), .int .u8 (c.toNat : Int)] w fun e w' => e = .returned (.tuple #[]) ∧ WrStep w w' B b most v (wAdd most st [c]) := by
  have ha := add_any _ [c] (by simp) _ _ (RV.new (w := w) c) hl hmm (h.alloc _)
  clear h hl hmm
  go_enter Tryz.func128, Tryz.ntmps128
  go_wp2_with (go_at_call 83; refine ha.mono ?_; clear ha; rintro e w' ⟨rfl, hs⟩)
  go_end0
  exact ⟨rfl, hs.pre (below_alloc _ _)⟩

set_option maxHeartbeats 400000 in
theorem WTruth_any (w : World) (t : Bool) (hl : ∀ l, st = some l → l.length ≤ 250000) (hmm : most ≤ maxLen) (h : WrAt w B b most v st) :
    Calls Tryz.prog 155 #[.pointer (some ⟨b, 0, none⟩), .bool t] w fun e w' => e = .returned (.tuple #[]) ∧ WrStep w w' B b most v (wAdd most st (truB t)) := by
  cases t
  · have ha := add_any _ [0] (by decide) _ _ (RV.new (w := w) 0) hl hmm (h.alloc _)
    clear h hl hmm
    go_enter Tryz.func155, Tryz.ntmps155
    go_wp2_with (go_at_call 83; refine ha.mono ?_; clear ha; rintro e w' ⟨rfl, hs⟩)
    go_end0
    exact ⟨rfl, hs.pre (below_alloc _ _)⟩
  · have ha := add_any _ [1] (by decide) _ _ (RV.new (w := w) 1) hl hmm (h.alloc _)
    clear h hl hmm
    go_enter Tryz.func155, Tryz.ntmps155
    go_wp2_with (go_at_call 83; refine ha.mono ?_; clear ha; rintro e w' ⟨rfl, hs⟩)
    go_end0
    exact ⟨rfl, hs.pre (below_alloc _ _)⟩

set_option maxHeartbeats 400000 in
theorem WNum_any (w : World) (x : Nat) (hx : x < 18446744073709551616) (hl : ∀ l, st = some l → l.length ≤ 250000) (hmm : most ≤ maxLen) (h : WrAt w B b most v st) :
    Calls Tryz.prog 43 #[.pointer (some ⟨b, 0, none⟩), .int .u64 x] w fun e w' => e = .returned (.tuple #[]) ∧ WrStep w w' B b most v (wAdd most st (numB x)) := by
  have hn := number_any x hx w
  have H := Lib.hid h
  have HL := Lib.hid hl
  have HM := Lib.hid hmm
  have H9 := Lib.hid (numB_len x hx)
  clear hx h hl hmm
  go_enter Tryz.func43, Tryz.ntmps43
  go_wp2_with fail
  refine hn.mono ?_
  clear hn
  rintro e w1 ⟨v1, rfl, hown, hb⟩
  have ha := add_any w1 (numB x) (by have := H9.out; omega) v1 _ (RV.of_own hown) HL.out HM.out (H.out.below hb (Nat.le_refl _))
  clear hown
  go_wp2_with (go_at_call 83; refine ha.mono ?_; clear ha; rintro e w' ⟨rfl, hs⟩)
  go_end0
  exact ⟨rfl, hs.pre hb⟩

theorem wAdd_len {l0 l1 : List UInt8} {bs : List UInt8} (h : wAdd most (some l0) bs = some l1) : l1.length = l0.length + bs.length := by
  simp only [wAdd, Option.bind_some] at h
  split at h
  · cases h
  · injection h with h; rw [← h, List.length_append]
theorem wAdd_small {n m : Nat} {bs : List UInt8} (hl : ∀ l, st = some l → l.length ≤ n) (hb : bs.length ≤ m) : ∀ l, wAdd most st bs = some l → l.length ≤ n + m := by
  intro l h
  cases st with
  | none => cases h
  | some l0 => rw [wAdd_len h]; have := hl l0 rfl; omega

end

set_option maxHeartbeats 400000 in
theorem RTruth_any (t : Bool) (w : World) :
    Calls Tryz.prog 134 #[.bool t] w fun e w' => ∃ v, e = .returned v ∧ w'.ownsRow w.heap.size 5 1 v (truB t).length ((truB t).map bV) ∧ Below w.heap.size w w' := by
  have h1 := World.ownsRow_lit (e := 5) (size := 1) w #[.int .u8 1] 1 (Nat.le_refl _) (by decide) rfl
  have h0 := World.ownsRow_lit (e := 5) (size := 1) w #[.int .u8 0] 1 (Nat.le_refl _) (by decide) rfl
  have hb := fun o => below_alloc w o
  cases t
  · go_enter Tryz.func134, Tryz.ntmps134
    go_wp2
    go_ret
    exact ⟨_, rfl, h0, hb _⟩
  · go_enter Tryz.func134, Tryz.ntmps134
    go_wp2
    go_ret
    exact ⟨_, rfl, h1, hb _⟩

end Go.Proofs.YtbdimfcdpkldpaaGreatDoor.Wire

namespace Go.Proofs.YtbdimfcdpkldpaaGreatDoor.Wire
open Go.RowKit

set_option maxHeartbeats 400000 in
theorem WDone_full {B b most : Nat} {v : Value} (w : World) (h : WrAt w B b most v none) :
    Calls Tryz.prog 45 #[.pointer (some ⟨b, 0, none⟩)] w fun e w' => e = .returned (.tuple #[.slice none 0 0, .int .i64 4]) ∧ Below w.heap.size w w' := by
  have h1 : w.cell? ⟨b, 0, none⟩ = some (.int .i64 4) := h.2.2.cell 0
  have hf := failed_yes b 4 (by decide) w h1
  clear h
  go_enter Tryz.func45, Tryz.ntmps45
  go_wp2_with (go_at_call 87; refine hf.mono ?_; clear hf; rintro e w' ⟨rfl, rfl⟩)
  go_quiet (fail)
  go_wp2
  go_ret2
  exact ⟨rfl, (Foot.refl _ w).drewN _ |>.below (Nat.le_refl _) (S := fun _ => False) (fun k hk => hk.elim)⟩

set_option maxHeartbeats 400000 in
theorem WDone_some {B b most : Nat} {v : Value} (w : World) (l : List UInt8) (hl : l.length ≤ 250000) (h : WrAt w B b most v (some l)) :
    Calls Tryz.prog 45 #[.pointer (some ⟨b, 0, none⟩)] w fun e w' => ∃ x, e = .returned (.tuple #[x, .int .i64 0]) ∧ w'.ownsRow w.heap.size 5 1 x l.length (l.map bV) ∧ Below w.heap.size w w' := by
  obtain ⟨_, _, hblk, hown, _⟩ := h
  have h1 : w.cell? ⟨b, 0, none⟩ = some (.int .i64 0) := hblk.cell 0
  have h2 : w.cell? ⟨b, 2, none⟩ = some v := hblk.cell 2
  have hf := failed_no b w h1
  have hr := RV.of_own hown
  have hc := Clone_any w v l (by omega) _ hr
  obtain ⟨p, c, rfl, _⟩ := hr
  clear hown hblk
  go_enter Tryz.func45, Tryz.ntmps45
  go_wp2_with (first | (go_at_call 87; refine hf.mono ?_; clear hf; rintro e w' ⟨rfl, rfl⟩) | (go_at_call 88; refine hc.mono ?_; clear hc; rintro e w' ⟨x, rfl, hown, hb⟩))
  go_ret2
  exact ⟨x, rfl, hown, hb⟩

end Go.Proofs.YtbdimfcdpkldpaaGreatDoor.Wire

namespace Go.Proofs.YtbdimfcdpkldpaaGreatDoor.Wire
open Go.RowKit

/-- The reader at block r stands at st; its bytes lie below it. -/
def RdAt (w : World) (r : Nat) : RS → Prop
  | .ok l => (∃ v, Blk w r 129 #[.int .i64 0, v] ∧ RV w (fun k => k < r) v l.length 1 (l.map bV)) ∧ l.length ≤ 250000
  | .err e => (∃ v, Blk w r 129 #[.int .i64 (e : Int), v]) ∧ 0 < e
/-- A step of the reader's, behind which it stands at st. -/
def RdOut (w w' : World) (r : Nat) (st : RS) : Prop := RdAt w' r st ∧ Foot (fun k => k = r) w w'
theorem RdAt.out {w : World} {r : Nat} {st : RS} (h : RdAt w r st) : RdOut w w r st := ⟨h, Foot.refl _ _⟩
theorem RdOut.trans {w w1 w2 : World} {r : Nat} {s1 s2 : RS} (h : RdOut w w1 r s1) (k : RdOut w1 w2 r s2) : RdOut w w2 r s2 := ⟨k.1, h.2.trans k.2⟩
theorem RdAt.code {w : World} {r : Nat} {st : RS} (h : RdAt w r st) : w.cell? ⟨r, 0, none⟩ = some (.int .i64 (st.code : Int)) := by
  cases st with
  | ok l => obtain ⟨⟨v, hb, _⟩, _⟩ := h; exact hb.cell 0
  | err e => obtain ⟨⟨v, hb⟩, _⟩ := h; exact hb.cell 0
theorem RdAt.frozen {w : World} {r : Nat} {st : RS} (h : RdAt w r st) : w.frozen? ⟨r, 0, none⟩ = false := by
  cases st with
  | ok l => obtain ⟨⟨v, hb, _⟩, _⟩ := h; exact hb.frozen 0
  | err e => obtain ⟨⟨v, hb⟩, _⟩ := h; exact hb.frozen 0
theorem RdAt.failed {w : World} {r : Nat} {l : List UInt8} {e : Nat} (h : RdAt w r (.ok l)) (he : 0 < e) : RdOut w (w.setCell ⟨r, 0, none⟩ (.int .i64 (e : Int))) r (.err e) := by
  obtain ⟨⟨v, hb, _⟩, _⟩ := h
  exact ⟨⟨⟨v, hb.set 0 _⟩, he⟩, (Foot.refl (fun k => k = r) w).setCell (p := ⟨r, 0, none⟩) (.inl rfl) _⟩
theorem RdAt.below {w w' : World} {r B : Nat} {st : RS} (h : RdAt w r st) (hb : Below B w w') (hB : w.heap.size ≤ B) : RdAt w' r st := by
  cases st with
  | ok l => obtain ⟨⟨v, hk, hr⟩, hl⟩ := h; exact ⟨⟨v, hk.below hb (by have := hk.lt; omega), hr.below hb (fun k hk _ => by omega)⟩, hl⟩
  | err e => obtain ⟨⟨v, hk⟩, hl⟩ := h; exact ⟨⟨v, hk.below hb (by have := hk.lt; omega)⟩, hl⟩

theorem RV_rest {w : World} {G : Nat → Prop} {p : Option Addr} {n c sz : Nat} {xs : List Value} (h : RV w G (.slice p n c) n sz xs) (k : Nat) (hk : k ≤ n) :
    RV w G (.slice (if c = k then p else p.map (·.add (k * sz))) (n - k) (c - k)) (n - k) sz (xs.drop (k * sz)) := by
  obtain ⟨p', c', hv, h1, h2, h3, h4, h5⟩ := h
  cases hv
  refine ⟨_, _, rfl, by omega, by omega, ?_, by rw [List.length_drop, h4, Nat.sub_mul], ?_⟩
  · intro e
    split at e
    · have := h3 e; omega
    · have := h3 (by simpa using e); omega
  · by_cases hkn : n - k = 0
    · exact .inl hkn
    · obtain ⟨b, off, rfl, hb, hG, hc⟩ := h5.resolve_left (by omega)
      rw [if_neg (by omega)]
      refine .inr ⟨b, off + k * sz, ?_, hb, hG, fun j u hu => ?_⟩
      · simp only [Option.map_some, Option.some.injEq]
        unfold Addr.add; split <;> simp_all
      · rw [List.getElem?_drop] at hu
        rw [Nat.add_assoc]
        exact hc _ u hu

set_option maxHeartbeats 400000 in
theorem take_err (r e n : Nat) (w : World) (h : RdAt w r (.err e)) :
    Calls Tryz.prog 157 #[.pointer (some ⟨r, 0, none⟩), .int .u64 n] w fun e w' => e = .returned (.tuple #[.slice none 0 0, .bool false]) ∧ w = w' := by
  have hf := failed_yes r e h.2 w h.code
  clear h
  go_enter Tryz.func157, Tryz.ntmps157
  go_wp2_with (go_at_call 87; refine hf.mono ?_; clear hf; rintro e w' ⟨rfl, rfl⟩)
  go_ret2
  exact ⟨rfl, rfl⟩
set_option maxHeartbeats 400000 in
theorem take_short (r n : Nat) (l : List UInt8) (hn : l.length < n) (w : World) (h : RdAt w r (.ok l)) :
    Calls Tryz.prog 157 #[.pointer (some ⟨r, 0, none⟩), .int .u64 n] w fun e w' => e = .returned (.tuple #[.slice none 0 0, .bool false]) ∧ RdOut w w' r (.err 2) := by
  have hout := Lib.hid (h.failed (e := 2) (by decide))
  have hf := failed_no r w h.code
  have hff := fail_first r 2 w h.code h.frozen
  obtain ⟨⟨v, hb, hr⟩, h4⟩ := h
  obtain ⟨p, c, rfl, _⟩ := hr
  have h1 : w.cell? ⟨r, 1, none⟩ = some (.slice p l.length c) := hb.cell 1
  clear hb
  go_enter Tryz.func157, Tryz.ntmps157
  go_wp2_with (first | (go_at_call 87; refine hf.mono ?_; clear hf; rintro e w' ⟨rfl, rfl⟩) | (go_at_call 126; refine hff.mono ?_; clear hff; rintro e w' ⟨rfl, rfl⟩))
  go_ret2
  exact ⟨rfl, hout.out⟩
set_option maxHeartbeats 400000 in
theorem take_ok (r n : Nat) (l : List UInt8) (hn : n ≤ l.length) (w : World) (h : RdAt w r (.ok l)) :
    Calls Tryz.prog 157 #[.pointer (some ⟨r, 0, none⟩), .int .u64 n] w fun e w' => (∃ s, e = .returned (.tuple #[s, .bool true]) ∧ RV w' (fun k => k < r) s n 1 ((l.take n).map bV)) ∧ RdOut w w' r (.ok (l.drop n)) := by
  have hf := failed_no r w h.code
  obtain ⟨⟨v, hb, hr⟩, h4⟩ := h
  have HR := Lib.hid hr
  obtain ⟨p, c, rfl, hnc, hcm, _⟩ := hr
  unfold maxLen at hcm
  have h1 : w.cell? ⟨r, 1, none⟩ = some (.slice p l.length c) := hb.cell 1
  have h2 : w.frozen? ⟨r, 1, none⟩ = false := hb.frozen 1
  have HB := Lib.hid hb
  clear hb
  go_enter Tryz.func157, Tryz.ntmps157
  go_wp2_with (first | (go_at_call 87; refine hf.mono ?_; clear hf; rintro e w' ⟨rfl, rfl⟩))
  all_goals go_ret2
  all_goals
    refine ⟨⟨_, rfl, ?_⟩, ⟨⟨_, HB.out.set 1 _, ?_⟩, by rw [List.length_drop]; omega⟩, (Foot.refl (fun k => k = r) w).setCell (p := ⟨r, 1, none⟩) (.inl rfl) _⟩
  · obtain rfl : c = n := by assumption
    obtain ⟨p', c', hv, _, _, hr1⟩ := HR.out.first c (by omega)
    cases hv
    rw [Nat.mul_one] at hr1
    exact hr1.foot ((Foot.refl (fun k => k = r) w).setCell (p := ⟨r, 1, none⟩) (.inl rfl) _) (fun k (hk : k < r) (h : k = r) => by omega)
  · obtain rfl : c = n := by assumption
    have hr2 := RV_rest HR.out c (by omega)
    rw [if_pos rfl, Nat.mul_one, Nat.sub_self, ← List.map_drop] at hr2
    rw [List.length_drop]
    exact hr2.foot ((Foot.refl (fun k => k = r) w).setCell (p := ⟨r, 1, none⟩) (.inl rfl) _) (fun k (hk : k < r) (h : k = r) => by omega)
  · obtain ⟨p', c', hv, _, _, hr1⟩ := HR.out.first n (by omega)
    cases hv
    rw [Nat.mul_one] at hr1
    exact hr1.foot ((Foot.refl (fun k => k = r) w).setCell (p := ⟨r, 1, none⟩) (.inl rfl) _) (fun k (hk : k < r) (h : k = r) => by omega)
  · have hcn : ¬ c = n := by assumption
    have hr2 := RV_rest HR.out n (by omega)
    rw [if_neg hcn] at hr2
    simp only [Nat.mul_one] at hr2
    rw [← List.map_drop] at hr2
    rw [List.length_drop]
    exact hr2.foot ((Foot.refl (fun k => k = r) w).setCell (p := ⟨r, 1, none⟩) (.inl rfl) _) (fun k (hk : k < r) (h : k = r) => by omega)

theorem rdByte_snd (st : RS) : (rdByte st).2 < 256 := by
  match st with
  | .ok [] => exact (by decide : 0 < 256)
  | .ok (c :: l) => exact c.toNat_lt
  | .err e => exact (by decide : 0 < 256)

theorem RByte_any (r : Nat) (st : RS) (w : World) (h : RdAt w r st) :
    Calls Tryz.prog 156 #[.pointer (some ⟨r, 0, none⟩)] w fun e w' => e = .returned (.int .u8 ((rdByte st).2 : Int)) ∧ RdOut w w' r (rdByte st).1 := by
  match st with
  | .ok [] =>
    have ht := take_short r 1 [] (by decide) w h
    clear h
    unfold rdByte
    go_enter Tryz.func156, Tryz.ntmps156
    go_wp2_with (go_at_call 157; refine ht.mono ?_; clear ht; rintro e w' ⟨rfl, ho⟩)
    go_ret
    exact ⟨rfl, ho⟩
  | .ok (c :: l) =>
    have ht := take_ok r 1 (c :: l) (by simp) w h
    clear h
    unfold rdByte
    simp only [List.take_succ_cons, List.take_zero, List.drop_succ_cons, List.drop_zero] at ht ⊢
    go_enter Tryz.func156, Tryz.ntmps156
    go_wp2_with fail
    refine ht.mono ?_
    clear ht
    rintro e w' ⟨⟨s, rfl, hr⟩, ho⟩
    obtain ⟨p, cc, rfl, _, _, _, _, hc⟩ := hr
    obtain ⟨b, off, rfl, _, _, hc⟩ := hc.resolve_left (by decide)
    have h1 : w'.cell? ⟨b, off, none⟩ = some (.int .u8 (c.toNat : Int)) := hc 0 _ rfl
    clear hc
    go_wp2
    go_ret
    exact ⟨rfl, ho⟩
  | .err e =>
    have ht := take_err r e 1 w h
    unfold rdByte
    have ho := Lib.hid h.out
    clear h
    go_enter Tryz.func156, Tryz.ntmps156
    go_wp2_with (go_at_call 157; refine ht.mono ?_; clear ht; rintro e w' ⟨rfl, rfl⟩)
    go_ret
    exact ⟨rfl, ho.out⟩
end Go.Proofs.YtbdimfcdpkldpaaGreatDoor.Wire
