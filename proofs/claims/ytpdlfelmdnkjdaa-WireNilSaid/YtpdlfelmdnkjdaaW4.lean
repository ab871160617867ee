/- The contracts of the writer's Done, and of the statements' own laid and write of a thing. -/
import Derived.Test.YtpdlfelmdnkjdaaW3
namespace Go.Proofs.Ytpdlfelmdnkjdaa
open Go.RowKit

set_option maxHeartbeats 400000 in
theorem WDone_full {B b most : Nat} {v : Value} (w : World) (h : WrAt w B b most v none) :
    Calls Try.prog 11 #[.pointer (some ⟨b, 0, none⟩)] w fun e w' => e = .returned (.tuple #[.slice none 0 0, .int .i64 4]) ∧ Below w.heap.size w w' := by
  have h1 : w.cell? ⟨b, 0, none⟩ = some (.int .i64 4) := h.2.2.cell 0
  have hf := failed_yes b 4 (by decide) w h1
  clear h
  go_enter Try.func11, Try.ntmps11
  go_wp2_with (go_at_call 32; refine hf.mono ?_; clear hf; rintro e w' ⟨rfl, rfl⟩)
  go_quiet (fail)
  go_wp2
  go_ret2
  exact ⟨rfl, (Foot.refl _ w).drewN _ |>.below (Nat.le_refl _) (S := fun _ => False) (fun k hk => hk.elim)⟩

set_option maxHeartbeats 400000 in
theorem WDone_some {B b most : Nat} {v : Value} (w : World) (l : List UInt8) (hl : l.length ≤ 5000) (h : WrAt w B b most v (some l)) :
    Calls Try.prog 11 #[.pointer (some ⟨b, 0, none⟩)] w fun e w' => ∃ x, e = .returned (.tuple #[x, .int .i64 0]) ∧ w'.ownsRow w.heap.size 5 1 x l.length (l.map bV) ∧ Below w.heap.size w w' := by
  obtain ⟨_, _, hblk, hown, _⟩ := h
  have h1 : w.cell? ⟨b, 0, none⟩ = some (.int .i64 0) := hblk.cell 0
  have h2 : w.cell? ⟨b, 2, none⟩ = some v := hblk.cell 2
  have hf := failed_no b w h1
  have hr := RV.of_own hown
  have hc := Clone_any w v l (by omega) _ hr
  obtain ⟨p, c, rfl, _⟩ := hr
  clear hown hblk
  go_enter Try.func11, Try.ntmps11
  go_wp2_with (first | (go_at_call 32; refine hf.mono ?_; clear hf; rintro e w' ⟨rfl, rfl⟩) | (go_at_call 33; refine hc.mono ?_; clear hc; rintro e w' ⟨x, rfl, hown, hb⟩))
  go_ret2
  exact ⟨x, rfl, hown, hb⟩

/-- A thing that is written or read. -/
structure Thg where
  kind : Nat
  x : Nat
  bv : Value
  bs : List UInt8
  most : Int
def thgV (t : Thg) : Value := .agg #[.int .u8 (t.kind : Int), .int .u64 (t.x : Int), t.bv, .int .i64 t.most]
/-- A thing as bytes. -/
def laidB (t : Thg) : List UInt8 := if t.kind % 4 = 0 then [UInt8.ofNat t.x] else if t.kind % 4 = 1 then numB t.x else if t.kind % 4 = 2 then truB (t.x % 2 == 1) else bytB (cut60 t.bs)
structure Thg.ok (t : Thg) : Prop where
  kind : t.kind < 256
  x : t.x < 18446744073709551616
  most : -9223372036854775808 ≤ t.most ∧ t.most ≤ 9223372036854775807

theorem byte_wrap (x : Nat) : ((x : Int) % 256) = ((UInt8.ofNat x).toNat : Int) := by simp

theorem rem4 (kind : Nat) (r : Nat) (h : kind % 4 = r) : ((kind : Int) % 4) = (r : Int) := by omega
theorem row_box {w : World} (o : Obj) (c : UInt8) : ((w.alloc o).alloc (.cells #[.int .u8 (c.toNat : Int)] 5)).ownsRow w.heap.size 5 1 (.slice (some ⟨w.heap.size + 1, 0, none⟩) 1 1) 1 [.int .u8 (c.toNat : Int)] := by
  have h := World.ownsRow_lit (e := 5) (size := 1) (base := w.heap.size) (w.alloc o) #[.int .u8 (c.toNat : Int)] 1 (by simp) (by decide) rfl
  simpa using h
theorem RV.alloc {w : World} {G : Nat → Prop} {v : Value} {n sz : Nat} {xs : List Value} (h : RV w G v n sz xs) (o : Obj) : RV (w.alloc o) G v n sz xs := h.keep (by simp) (fun k hk _ => Below.heap_alloc _ _ _ hk)
theorem own_pre {w0 w w' : World} {e : TypeId} {sz n : Nat} {v : Value} {xs : List Value} (hb : Below w0.heap.size w0 w) (h : w'.ownsRow w.heap.size e sz v n xs) : w'.ownsRow w0.heap.size e sz v n xs := own_mono h hb.size
theorem below_pre {w0 w w' : World} (hb : Below w0.heap.size w0 w) (h : Below w.heap.size w w') : Below w0.heap.size w0 w' := hb.trans (h.mono hb.size)

set_option maxHeartbeats 800000 in
theorem laid_any (t : Thg) (ht : t.ok) (w : World) (G : Nat → Prop) (hr : RV w G t.bv t.bs.length 1 (t.bs.map bV)) :
    Calls Try.prog 10 #[thgV t] w fun e w' => ∃ v, e = .returned v ∧ w'.ownsRow w.heap.size 5 1 v (laidB t).length ((laidB t).map bV) ∧ Below w.heap.size w w' := by
  obtain ⟨kind, x, bv, bs, most⟩ := t
  obtain ⟨hk, hx, _⟩ := ht
  simp only at hk hx hr
  unfold thgV laidB
  simp only
  have HX := Lib.hid hx
  have HR := Lib.hid hr
  have hpre := Lib.hid (below_alloc w (.cells #[.int .u8 (kind : Int), .int .u64 (x : Int), bv, .int .i64 most] 29))
  clear hx
  rcases (show kind % 4 = 0 ∨ kind % 4 = 1 ∨ kind % 4 = 2 ∨ kind % 4 = 3 by omega) with h4 | h4 | h4 | h4
  · have t0 : ((kind : Int) % 4 == 0) = true := by rw [beq_iff_eq]; omega
    rw [if_pos h4]
    clear h4 hr
    go_enter Try.func10, Try.ntmps10
    go_wp2
    go_ret
    refine ⟨_, rfl, ?_, below_pre hpre.out (below_alloc _ _)⟩
    rw [byte_wrap]
    exact row_box _ _
  · have t0 : ((kind : Int) % 4 == 0) = false := by rw [beq_eq_false_iff_ne]; omega
    have t1 : ((kind : Int) % 4 == 1) = true := by rw [beq_iff_eq]; omega
    rw [if_neg (by omega), if_pos h4]
    have hn := RNum_any x HX.out (w.alloc (.cells #[.int .u8 (kind : Int), .int .u64 (x : Int), bv, .int .i64 most] 29))
    clear h4 hr
    go_enter Try.func10, Try.ntmps10
    go_wp2_with (go_at_call 29; refine hn.mono ?_; clear hn; rintro e w' ⟨v, rfl, hown, hb⟩)
    go_ret
    exact ⟨v, rfl, own_pre hpre.out hown, below_pre hpre.out hb⟩
  · have t0 : ((kind : Int) % 4 == 0) = false := by rw [beq_eq_false_iff_ne]; omega
    have t1 : ((kind : Int) % 4 == 1) = false := by rw [beq_eq_false_iff_ne]; omega
    have t2 : ((kind : Int) % 4 == 2) = true := by rw [beq_iff_eq]; omega
    rw [if_neg (by omega), if_neg (by omega), if_pos h4]
    have hb2 : ((x : Int) % 2 == 1) = (x % 2 == 1) := by rw [Bool.eq_iff_iff, beq_iff_eq, beq_iff_eq]; omega
    generalize (x % 2 == 1) = bb at *
    have hn := RTruth_any bb (w.alloc (.cells #[.int .u8 (kind : Int), .int .u64 (x : Int), bv, .int .i64 most] 29))
    clear h4 hr
    go_enter Try.func10, Try.ntmps10
    go_wp2_with (go_at_call 30; refine hn.mono ?_; clear hn; rintro e w' ⟨v, rfl, hown, hb⟩)
    go_ret
    exact ⟨v, rfl, own_pre hpre.out hown, below_pre hpre.out hb⟩
  · have t0 : ((kind : Int) % 4 == 0) = false := by rw [beq_eq_false_iff_ne]; omega
    have t1 : ((kind : Int) % 4 == 1) = false := by rw [beq_eq_false_iff_ne]; omega
    have t2 : ((kind : Int) % 4 == 2) = false := by rw [beq_eq_false_iff_ne]; omega
    rw [if_neg (by omega), if_neg (by omega), if_neg (by omega)]
    have hsh := short_any (w.alloc (.cells #[.int .u8 (kind : Int), .int .u64 (x : Int), bv, .int .i64 most] 29)) bs bv G (hr.alloc _)
    obtain ⟨p, c, rfl, _⟩ := hr
    clear h4
    go_enter Try.func10, Try.ntmps10
    go_wp2_with fail
    refine hsh.mono ?_
    clear hsh
    rintro e w' ⟨⟨v1, rfl, hr1⟩, rfl⟩
    have hn := RBytes_any _ (cut60 bs) (by have := cut60_len bs; omega) v1 G hr1
    go_wp2_with (go_at_call 31; refine hn.mono ?_; clear hn; rintro e w' ⟨v, rfl, hown, hb⟩)
    go_ret
    exact ⟨v, rfl, own_pre hpre.out hown, below_pre hpre.out hb⟩

set_option maxHeartbeats 800000 in
theorem write_any {B b most : Nat} {v : Value} {st : Option (List UInt8)} (t : Thg) (ht : t.ok) (w : World) (hr : RV w (fun k => k ≠ b ∧ v.ownBlock ≠ some k) t.bv t.bs.length 1 (t.bs.map bV))
    (hl : ∀ l, st = some l → l.length ≤ 4900) (hmm : most ≤ maxLen) (h : WrAt w B b most v st) :
    Calls Try.prog 9 #[.pointer (some ⟨b, 0, none⟩), thgV t] w fun e w' => e = .returned (.tuple #[]) ∧ WrStep w w' B b most v (wAdd most st (laidB t)) := by
  obtain ⟨kind, x, bv, bs, mst⟩ := t
  obtain ⟨hk, hx, _⟩ := ht
  simp only at hk hx hr
  unfold thgV laidB
  simp only
  have HX := Lib.hid hx
  have HR := Lib.hid hr
  have h1 := h.alloc (.cells #[.int .u8 (kind : Int), .int .u64 (x : Int), bv, .int .i64 mst] 29)
  have hl1 : ∀ l, st = some l → l.length ≤ 5000 := fun l e => by have := hl l e; omega
  have hpre := Lib.hid (below_alloc w (.cells #[.int .u8 (kind : Int), .int .u64 (x : Int), bv, .int .i64 mst] 29))
  clear hx
  rcases (show kind % 4 = 0 ∨ kind % 4 = 1 ∨ kind % 4 = 2 ∨ kind % 4 = 3 by omega) with h4 | h4 | h4 | h4
  · have t0 : ((kind : Int) % 4 == 0) = true := by rw [beq_iff_eq]; omega
    rw [if_pos h4]
    have hn := WByte_any _ (UInt8.ofNat x) hl1 hmm h1
    rw [← byte_wrap] at hn
    clear h4 hr h h1 hl hl1 hmm
    go_enter Try.func9, Try.ntmps9
    go_wp2_with (go_at_call 25; refine hn.mono ?_; clear hn; rintro e w' ⟨rfl, hs⟩)
    go_end0
    exact ⟨rfl, hs.pre hpre.out⟩
  · have t0 : ((kind : Int) % 4 == 0) = false := by rw [beq_eq_false_iff_ne]; omega
    have t1 : ((kind : Int) % 4 == 1) = true := by rw [beq_iff_eq]; omega
    rw [if_neg (by omega), if_pos h4]
    have hn := WNum_any _ x HX.out hl1 hmm h1
    clear h4 hr h h1 hl hl1 hmm
    go_enter Try.func9, Try.ntmps9
    go_wp2_with (go_at_call 24; refine hn.mono ?_; clear hn; rintro e w' ⟨rfl, hs⟩)
    go_end0
    exact ⟨rfl, hs.pre hpre.out⟩
  · have t0 : ((kind : Int) % 4 == 0) = false := by rw [beq_eq_false_iff_ne]; omega
    have t1 : ((kind : Int) % 4 == 1) = false := by rw [beq_eq_false_iff_ne]; omega
    have t2 : ((kind : Int) % 4 == 2) = true := by rw [beq_iff_eq]; omega
    rw [if_neg (by omega), if_neg (by omega), if_pos h4]
    have hb2 : ((x : Int) % 2 == 1) = (x % 2 == 1) := by rw [Bool.eq_iff_iff, beq_iff_eq, beq_iff_eq]; omega
    generalize (x % 2 == 1) = bb at *
    have hn := WTruth_any _ bb hl1 hmm h1
    clear h4 hr h h1 hl hl1 hmm
    go_enter Try.func9, Try.ntmps9
    go_wp2_with (go_at_call 26; refine hn.mono ?_; clear hn; rintro e w' ⟨rfl, hs⟩)
    go_end0
    exact ⟨rfl, hs.pre hpre.out⟩
  · have t0 : ((kind : Int) % 4 == 0) = false := by rw [beq_eq_false_iff_ne]; omega
    have t1 : ((kind : Int) % 4 == 1) = false := by rw [beq_eq_false_iff_ne]; omega
    have t2 : ((kind : Int) % 4 == 2) = false := by rw [beq_eq_false_iff_ne]; omega
    rw [if_neg (by omega), if_neg (by omega), if_neg (by omega)]
    have hsh := short_any (w.alloc (.cells #[.int .u8 (kind : Int), .int .u64 (x : Int), bv, .int .i64 mst] 29)) bs bv _ (hr.alloc _)
    have HL := Lib.hid hl
    have HM := Lib.hid hmm
    have H1 := Lib.hid h1
    obtain ⟨p, c, rfl, _⟩ := hr
    clear h4 h h1 hl hl1 hmm
    go_enter Try.func9, Try.ntmps9
    go_wp2_with fail
    refine hsh.mono ?_
    clear hsh
    rintro e w' ⟨⟨v1, rfl, hr1⟩, rfl⟩
    have hn := WBytes_any _ (cut60 bs) (by have := cut60_len bs; omega) v1 hr1 HL.out HM.out H1.out
    go_wp2_with (go_at_call 27; refine hn.mono ?_; clear hn; rintro e w' ⟨rfl, hs⟩)
    go_end0
    exact ⟨rfl, hs.pre hpre.out⟩
end Go.Proofs.Ytpdlfelmdnkjdaa
