/- The walk of WireBack. -/
import Derived.Test.YtpdlfelmdnkjdaaL4
import Derived.Deep.RegionHeld3
import Derived.Deep.RegionWith
namespace Go.Proofs.Ytpdlfelmdnkjdaa
open Go.RowKit

theorem rd_byte (c : UInt8) (rest : List UInt8) : rdByte (.ok ([c] ++ rest)) = (.ok rest, c.toNat) := rfl
theorem rd_num (x : Nat) (hx : x < 18446744073709551616) (rest : List UInt8) : rdNum (.ok (numB x ++ rest)) = (.ok rest, x) := by
  obtain ⟨h8, hlt, hge⟩ := nb_facts x hx
  have hc : (UInt8.ofNat (nb x)).toNat = nb x := UInt8.toNat_ofNat_of_lt' (by show nb x < 256; omega)
  have hlen := be_len (nb x) x
  rw [numB, List.cons_append, rdNum_cons, hc, if_neg (by omega), if_neg (by rw [List.length_append, hlen]; omega)]
  have hz : ¬ (0 < nb x ∧ (be (nb x) x ++ rest).getD 0 0 = 0) := by
    rintro ⟨hp, he⟩
    obtain ⟨n, hn⟩ : ∃ n, nb x = n + 1 := ⟨nb x - 1, by omega⟩
    rw [hn, be_cons, List.cons_append] at he
    simp only [List.getD_cons_zero] at he
    have h1 := hge hp
    rw [hn, Nat.add_sub_cancel] at h1
    rw [hn, Nat.pow_succ] at hlt
    have h2 : x / 256 ^ n < 256 := Nat.div_lt_of_lt_mul (by rw [Nat.mul_comm] at hlt; rw [Nat.mul_comm]; exact hlt)
    have h3 : 0 < x / 256 ^ n := Nat.div_pos h1 (Nat.pow_pos (by decide))
    rw [Nat.mod_eq_of_lt h2] at he
    have h4 := congrArg UInt8.toNat he
    rw [UInt8.toNat_ofNat_of_lt' (by show _ < 256; exact h2)] at h4
    simp at h4
    omega
  rw [if_neg hz]
  have ht : (be (nb x) x ++ rest).take (nb x) = be (nb x) x := by rw [List.take_append_of_le_length (by omega), List.take_of_length_le (by omega)]
  have hd : (be (nb x) x ++ rest).drop (nb x) = rest := by rw [List.drop_append_of_le_length (by omega), List.drop_of_length_le (by omega)]; rfl
  rw [ht, hd, val_be, Nat.mod_eq_of_lt hlt]
theorem rd_truth (b : Bool) (rest : List UInt8) : truth (rdByte (.ok (truB b ++ rest))) = (.ok rest, b) := by cases b <;> rfl
theorem rd_bytes (l : List UInt8) (hl : l.length ≤ 60) (rest : List UInt8) : bytesOf 60 (rdNum (.ok (bytB l ++ rest))) = (.ok rest, l) := by
  rw [bytB, List.append_assoc, rd_num _ (by omega)]
  simp only [bytesOf]
  rw [if_neg (by omega), if_neg (by rw [List.length_append]; omega)]
  rw [List.drop_append_of_le_length (by omega), List.drop_of_length_le (by omega), List.take_append_of_le_length (by omega), List.take_of_length_le (by omega)]; rfl

/-- What is left behind k things. -/
def restB (ts : List Thg) (k : Nat) : List UInt8 := (ts.drop k).flatMap laidB
theorem restB_cons (ts : List Thg) (k : Nat) (t : Thg) (h : ts[k]? = some t) : restB ts k = laidB t ++ restB ts (k + 1) := by
  obtain ⟨hk, rfl⟩ := List.getElem?_eq_some_iff.1 h
  unfold restB
  rw [List.drop_eq_getElem_cons hk, List.flatMap_cons]
theorem RdAt.drew {w : World} {r : Nat} {st : RS} (h : RdAt w r st) : RdAt w.drew r st := by
  cases st <;> exact h
theorem RdAt.alloc {w : World} {r : Nat} {st : RS} (h : RdAt w r st) (o : Obj) : RdAt (w.alloc o) r st := h.below (below_alloc w o) (Nat.le_refl _)

theorem RV.short {w : World} {G : Nat → Prop} {p : Option Addr} {c : Nat} {l : List UInt8} (hr : RV w G (.slice p l.length c) l.length 1 (l.map bV)) : RV w G (.slice p (cut60 l).length c) (cut60 l).length 1 ((cut60 l).map bV) := by
  by_cases h : 60 < l.length
  · obtain ⟨p', c', hv, _, _, hr6⟩ := hr.first 60 (by omega)
    cases hv
    have h6 : (cut60 l).length = 60 := by unfold cut60; rw [List.length_take]; omega
    rw [h6, cut60, List.map_take]
    exact hr6
  · have h6 : cut60 l = l := List.take_of_length_le (by omega)
    rw [h6]; exact hr
set_option maxHeartbeats 400000 in
theorem short_exact {w : World} {G : Nat → Prop} {p : Option Addr} {c : Nat} {l : List UInt8} (hr : RV w G (.slice p l.length c) l.length 1 (l.map bV)) :
    Calls Try.prog 23 #[.slice p l.length c] w fun e w' => e = .returned (.slice p (cut60 l).length c) ∧ w = w' := by
  have hlen := hr.len
  unfold maxLen at hlen
  obtain ⟨p', c', hv, hc, hm, _⟩ := hr
  cases hv
  unfold maxLen at hm
  by_cases h : 60 < l.length
  · have h6 : (cut60 l).length = 60 := by unfold cut60; rw [List.length_take]; omega
    rw [h6]
    clear h6
    go_enter Try.func23, Try.ntmps23
    go_wp2
    go_ret
    exact ⟨rfl, rfl⟩
  · have h6 : cut60 l = l := List.take_of_length_le (by omega)
    rw [h6]
    clear h6
    go_enter Try.func23, Try.ntmps23
    go_wp2
    go_ret
    exact ⟨rfl, rfl⟩

theorem restB_take (ts : List Thg) (n : Nat) : restB (ts.take n) 0 = allB ts n := rfl
theorem restB_end (ts : List Thg) (n : Nat) : restB (ts.take n) n = [] := by
  unfold restB
  rw [List.drop_of_length_le (by rw [List.length_take]; omega)]; rfl
theorem add_allB (ts : List Thg) (h : ∀ t ∈ ts, t.ok) (k : Nat) (hk : k < 30) (t : Thg) (ht : ts[k]? = some t) : wAdd 4000 (some (allB ts k)) (laidB t) = some (allB ts (k + 1)) := by
  have h1 := allB_len ts h (k + 1)
  have h2 := allB_snoc ts k t ht
  rw [h2, List.length_append] at h1
  simp only [wAdd, Option.bind_some]
  rw [if_neg (by omega), h2]

set_option maxHeartbeats 6400000 in
theorem Back_few (v : Value) (ts : List Thg) (w : World) (hN : ts.length ≤ 30) (hR : ReadsT w w.heap.size v ts) :
    Calls Try.prog 5 #[v] w fun e w' => e = .returned (.bool true) ∧ Below w.heap.size w w' := by
  obtain ⟨p, c, rfl, hm, ho, hc⟩ := hR
  unfold maxLen at hm
  have hnew := New_any 4000 w
  rw [show (4000 : Int).toNat = 4000 from rfl] at hnew
  have HO := Lib.hid ho
  have HC := Lib.hid hc
  have HOK := Lib.hid (fun t ht => (ho t ht).1)
  clear ho hc
  go_enter Try.func5, Try.ntmps5
  go_wp2_with fail
  refine hnew.mono ?_
  clear hnew
  rintro e w0 ⟨rfl, hwr, hbel⟩
  have H0 := Lib.hid (show Below w.heap.size w w0 ∧ ∃ v, WrAt w0 w.heap.size w.heap.size 4000 v (some (allB ts 0)) from ⟨hbel, _, hwr⟩)
  clear hwr hbel
  go_wp2_with fail
  go_loopw [5] (fun i wr => ∃ k : Nat, k ≤ ts.length ∧ i = .int .i64 k ∧ Hid (Below w.heap.size w wr ∧ ∃ v, WrAt wr w.heap.size w.heap.size 4000 v (some (allB ts k)))) (fun i _ => ts.length - (intOf i).toNat)
  case atStart => exact ⟨0, by omega, rfl, H0⟩
  case round =>
    obtain ⟨k, hk, rfl, HI⟩ := hrel
    by_cases h1 : k < ts.length
    · have hkt : k < ts.length := by omega
      have hstep := add_allB ts HOK.out k (by omega) ts[k] (List.getElem?_eq_getElem hkt)
      have hok := HOK.out ts[k] (List.getElem_mem hkt)
      have hrv := (HO.out ts[k] (List.getElem_mem hkt)).2
      obtain ⟨b, off, rfl, hb1, hb2, hcell⟩ := HC.out.resolve_left (by rintro rfl; simp at hkt)
      obtain ⟨h3, h4, h5, h6⟩ := hcell k ts[k] (List.getElem?_eq_getElem hkt)
      have hlen := allB_len ts HOK.out k
      clear hcell
      generalize ts[k] = t at *
      have HS := Lib.hid hstep
      clear hstep
      obtain ⟨hb, v1, hw1⟩ := HI.out
      have h3 := (hb.cell (p := ⟨b, off + k * 4, none⟩) hb2).trans h3
      have h4 := (hb.cell (p := ⟨b, off + k * 4 + 1, none⟩) hb2).trans h4
      have h5 := (hb.cell (p := ⟨b, off + k * 4 + 2, none⟩) hb2).trans h5
      have h6 := (hb.cell (p := ⟨b, off + k * 4 + 3, none⟩) hb2).trans h6
      have hrv1 : RV wr (fun k => k ≠ w.heap.size ∧ v1.ownBlock ≠ some k) t.bv t.bs.length 1 (t.bs.map bV) :=
        (hrv.below hb (fun k hk _ => hk)).mono (fun k _ hk => ⟨by omega, fun e => by have := hw1.2.1 k e; omega⟩)
      have hwt := write_any t hok wr hrv1 (fun l h => by cases h; omega) (by decide) hw1
      rw [HS.out] at hwt
      have HB := Lib.hid hb
      have HW1 := Lib.hid hw1
      clear hrv hrv1 hb hw1 HI hlen hok
      go_wp2_with fail
      refine hwt.mono ?_
      clear hwt
      rintro e w2 ⟨rfl, hs⟩
      have hb2' := WrStep.inv HB.out HW1.out hs
      have HF := Lib.hid (show Below w.heap.size w w2 ∧ ∃ v, WrAt w2 w.heap.size w.heap.size 4000 v (some (allB ts (k + 1))) from ⟨hb2', by obtain ⟨v2, h, _⟩ := hs; exact ⟨v2, h⟩⟩)
      clear hb2' hs h3 h4 h5 h6
      go_wp2
      go_roundw
      case rel => exact ⟨k + 1, by omega, by go_num, HF⟩
      case measure => simp [intOf]; omega
    · obtain rfl : k = ts.length := by omega
      have hlen := allB_len ts HOK.out ts.length
      obtain ⟨hb, v1, hw1⟩ := HI.out
      have hd := WDone_some wr (allB ts ts.length) (by omega) hw1
      have HB := Lib.hid hb
      have HL := Lib.hid hlen
      clear HI hb hw1 hlen
      go_wp2_with fail
      refine hd.mono ?_
      clear hd
      rintro e w2 ⟨x, rfl, hx, hb2'⟩
      have hrd := Read_any w2 x (allB ts ts.length) (by have := HL.out; omega) _ (RV.of_own hx)
      have HB2 := Lib.hid (below_pre HB.out hb2')
      clear hx hb2'
      go_wp2_with fail
      refine hrd.mono ?_
      clear hrd
      rintro e w3 ⟨⟨r, rfl, hr, hrd⟩, hb3⟩
      rw [← restB_take] at hrd
      have HRS := Lib.hid (show w.heap.size ≤ r by have := HB2.out.size; omega)
      have H1 := Lib.hid (show Below w.heap.size w w3 ∧ RdAt w3 r (.ok (restB (ts.take ts.length) 0)) from ⟨below_pre HB2.out hb3, hrd⟩)
      clear hr hrd hb3
      go_wp2_with fail
      go_loopw [9] (fun i wr => ∃ k : Nat, k ≤ ts.length ∧ i = .int .i64 k ∧ Hid (Below w.heap.size w wr ∧ RdAt wr r (.ok (restB (ts.take ts.length) k)))) (fun i _ => ts.length - (intOf i).toNat)
      case atStart => exact ⟨0, by omega, rfl, H1⟩
      case round =>
        obtain ⟨k, hk, rfl, HI⟩ := hrel
        by_cases h1 : k < ts.length
        · have hkt : k < ts.length := by omega
          have hok := HOK.out ts[k] (List.getElem_mem hkt)
          have hrv := (HO.out ts[k] (List.getElem_mem hkt)).2
          obtain ⟨b, off, rfl, hb1, hb2, hcell⟩ := HC.out.resolve_left (by rintro rfl; simp at hkt)
          obtain ⟨h3, h4, h5, h6⟩ := hcell k ts[k] (List.getElem?_eq_getElem hkt)
          have hrest := restB_cons (ts.take ts.length) k ts[k] (by rw [List.getElem?_take_of_lt h1]; exact List.getElem?_eq_getElem hkt)
          clear hcell
          generalize ts[k] = t at *
          obtain ⟨hb, hrd⟩ := HI.out
          rw [hrest] at hrd
          generalize restB (ts.take ts.length) k = rk at *
          generalize hrk : restB (ts.take ts.length) (k + 1) = rest at *
          have h3 := (hb.cell (p := ⟨b, off + k * 4, none⟩) hb2).trans h3
          have h4 := (hb.cell (p := ⟨b, off + k * 4 + 1, none⟩) hb2).trans h4
          have h5 := (hb.cell (p := ⟨b, off + k * 4 + 2, none⟩) hb2).trans h5
          have h6 := (hb.cell (p := ⟨b, off + k * 4 + 3, none⟩) hb2).trans h6
          obtain ⟨kind, x, bv, bs, most⟩ := t
          obtain ⟨hkd, hx, _⟩ := hok
          simp only at hkd hx hrv h3 h4 h5 h6
          unfold laidB at hrd
          simp only at hrd
          have HX := Lib.hid hx
          have HRK := Lib.hid hrk
          have HB := Lib.hid hb
          have HRV := Lib.hid hrv
          obtain ⟨pb, cb, rfl, _⟩ := hrv
          clear hx hb hrk hrest HI
          rcases (show kind % 4 = 0 ∨ kind % 4 = 1 ∨ kind % 4 = 2 ∨ kind % 4 = 3 by omega) with h4k | h4k | h4k | h4k
          · have t0 : ((kind : Int) % 4 == 0) = true := by rw [beq_iff_eq]; omega
            rw [if_pos h4k] at hrd
            have HRD := Lib.hid (hrd.alloc (.cells #[.int .u8 (kind : Int), .int .u64 (x : Int), .slice pb bs.length cb, .int .i64 most] 29))
            have HRL := Lib.hid hrd.lt
            have HBY : Hid (∀ W, RdAt W r (.ok ([UInt8.ofNat x] ++ rest)) → Calls Try.prog 19 #[.pointer (some ⟨r, 0, none⟩)] W (fun e w' => e = .returned (.int .u8 ((x : Int) % 256)) ∧ RdOut W w' r (.ok rest))) := Lib.hid (fun W h => by have hq := RByte_any r _ W h; rw [rd_byte, ← byte_wrap] at hq; exact hq)
            have hT : ((wr.alloc (.cells #[.int .u8 (kind : Int), .int .u64 (x : Int), .slice pb bs.length cb, .int .i64 most] 29)).cell? ⟨wr.heap.size, 1, none⟩ = some (.int .u64 (x : Int))) := (Blk.new wr _ _).cell 1
            have hTl : Hid (wr.heap.size < (wr.alloc (.cells #[.int .u8 (kind : Int), .int .u64 (x : Int), .slice pb bs.length cb, .int .i64 most] 29)).heap.size) := Lib.hid (by simp)
            have HB1 := Lib.hid (below_pre HB.out (below_alloc wr (.cells #[.int .u8 (kind : Int), .int .u64 (x : Int), .slice pb bs.length cb, .int .i64 most] 29)) : Below w.heap.size w _)
            clear h4k hrd
            go_wp2
            go_region_held3 (fun w' => w'.cell? ⟨wr.heap.size, 1, none⟩ = some (.int .u64 (x : Int)))
              (first | go_keep | (exact (ho.2.cell (p := ⟨wr.heap.size, 1, none⟩) hTl.out (fun (e : wr.heap.size = r) => by have := HRL.out; omega)).trans hT))
              ((go_at_call 19; refine (HBY.out _ HRD.out.drew).mono ?_; rintro e w5 ⟨rfl, ho⟩))
            have HF := Lib.hid (show Below w.heap.size w w5 ∧ RdAt w5 r (.ok (restB (ts.take ts.length) (k + 1))) from ⟨HB1.out.trans ((Foot.drew (Foot.refl _ _)).then_ ho.2 (fun _ => .inl) |>.below HB1.out.size (S := fun k => k = r) (fun k hk => by have := HRS.out; omega)), by rw [HRK.out]; exact ho.1⟩)
            clear ho hT
            go_wp2
            all_goals first | (exact absurd (by assumption : (!((x : Int) % 256 == (x : Int) % 256)) = true) (by simp)) | (exact absurd (by assumption : (!((x : Int) == (x : Int))) = true) (by simp)) | (exact absurd (by assumption : (!(x == x)) = true) (by simp)) | (exact absurd (by assumption : (!(bb == ((x : Int) % 2 == 1))) = true) (by rw [hb2]; simp)) | skip
            go_roundw
            case rel => exact ⟨k + 1, by omega, by go_num, HF⟩
            case measure => simp [intOf]; omega
          · have t0 : ((kind : Int) % 4 == 0) = false := by rw [beq_eq_false_iff_ne]; omega
            have t1 : ((kind : Int) % 4 == 1) = true := by rw [beq_iff_eq]; omega
            rw [if_neg (by omega), if_pos h4k] at hrd
            have HRD := Lib.hid (hrd.alloc (.cells #[.int .u8 (kind : Int), .int .u64 (x : Int), .slice pb bs.length cb, .int .i64 most] 29))
            have HRL := Lib.hid hrd.lt
            have HBY : Hid (∀ W, RdAt W r (.ok (numB x ++ rest)) → Calls Try.prog 20 #[.pointer (some ⟨r, 0, none⟩)] W (fun e w' => e = .returned (.int .u64 (x : Int)) ∧ RdOut W w' r (.ok rest))) := Lib.hid (fun W h => by have hq := RdNum_any r _ W h; rw [rd_num x HX.out] at hq; exact hq)
            have hT : ((wr.alloc (.cells #[.int .u8 (kind : Int), .int .u64 (x : Int), .slice pb bs.length cb, .int .i64 most] 29)).cell? ⟨wr.heap.size, 1, none⟩ = some (.int .u64 (x : Int))) := (Blk.new wr _ _).cell 1
            have hTl : Hid (wr.heap.size < (wr.alloc (.cells #[.int .u8 (kind : Int), .int .u64 (x : Int), .slice pb bs.length cb, .int .i64 most] 29)).heap.size) := Lib.hid (by simp)
            have HB1 := Lib.hid (below_pre HB.out (below_alloc wr (.cells #[.int .u8 (kind : Int), .int .u64 (x : Int), .slice pb bs.length cb, .int .i64 most] 29)) : Below w.heap.size w _)
            clear h4k hrd
            go_wp2
            go_region_held3 (fun w' => w'.cell? ⟨wr.heap.size, 1, none⟩ = some (.int .u64 (x : Int)))
              (first | go_keep | (exact (ho.2.cell (p := ⟨wr.heap.size, 1, none⟩) hTl.out (fun (e : wr.heap.size = r) => by have := HRL.out; omega)).trans hT))
              ((go_at_call 20; refine (HBY.out _ HRD.out.drew).mono ?_; rintro e w5 ⟨rfl, ho⟩))
            have HF := Lib.hid (show Below w.heap.size w w5 ∧ RdAt w5 r (.ok (restB (ts.take ts.length) (k + 1))) from ⟨HB1.out.trans ((Foot.drew (Foot.refl _ _)).then_ ho.2 (fun _ => .inl) |>.below HB1.out.size (S := fun k => k = r) (fun k hk => by have := HRS.out; omega)), by rw [HRK.out]; exact ho.1⟩)
            clear ho hT
            go_wp2
            all_goals first | (exact absurd (by assumption : (!((x : Int) % 256 == (x : Int) % 256)) = true) (by simp)) | (exact absurd (by assumption : (!((x : Int) == (x : Int))) = true) (by simp)) | (exact absurd (by assumption : (!(x == x)) = true) (by simp)) | (exact absurd (by assumption : (!(bb == ((x : Int) % 2 == 1))) = true) (by rw [hb2]; simp)) | skip
            go_roundw
            case rel => exact ⟨k + 1, by omega, by go_num, HF⟩
            case measure => simp [intOf]; omega
          · have t0 : ((kind : Int) % 4 == 0) = false := by rw [beq_eq_false_iff_ne]; omega
            have t1 : ((kind : Int) % 4 == 1) = false := by rw [beq_eq_false_iff_ne]; omega
            have t2 : ((kind : Int) % 4 == 2) = true := by rw [beq_iff_eq]; omega
            rw [if_neg (by omega), if_neg (by omega), if_pos h4k] at hrd
            have hb2 : ((x : Int) % 2 == 1) = (x % 2 == 1) := by rw [Bool.eq_iff_iff, beq_iff_eq, beq_iff_eq]; omega
            generalize (x % 2 == 1) = bb at *
            have HRD := Lib.hid (hrd.alloc (.cells #[.int .u8 (kind : Int), .int .u64 (x : Int), .slice pb bs.length cb, .int .i64 most] 29))
            have HRL := Lib.hid hrd.lt
            have HBY : Hid (∀ W, RdAt W r (.ok (truB bb ++ rest)) → Calls Try.prog 21 #[.pointer (some ⟨r, 0, none⟩)] W (fun e w' => e = .returned (.bool bb) ∧ RdOut W w' r (.ok rest))) := Lib.hid (fun W h => by have hq := RTruth_any' r _ W h; rw [rd_truth] at hq; exact hq)
            have hT : ((wr.alloc (.cells #[.int .u8 (kind : Int), .int .u64 (x : Int), .slice pb bs.length cb, .int .i64 most] 29)).cell? ⟨wr.heap.size, 1, none⟩ = some (.int .u64 (x : Int))) := (Blk.new wr _ _).cell 1
            have hTl : Hid (wr.heap.size < (wr.alloc (.cells #[.int .u8 (kind : Int), .int .u64 (x : Int), .slice pb bs.length cb, .int .i64 most] 29)).heap.size) := Lib.hid (by simp)
            have HB1 := Lib.hid (below_pre HB.out (below_alloc wr (.cells #[.int .u8 (kind : Int), .int .u64 (x : Int), .slice pb bs.length cb, .int .i64 most] 29)) : Below w.heap.size w _)
            clear h4k hrd
            go_wp2
            go_region_held3 (fun w' => w'.cell? ⟨wr.heap.size, 1, none⟩ = some (.int .u64 (x : Int)))
              (first | go_keep | (exact (ho.2.cell (p := ⟨wr.heap.size, 1, none⟩) hTl.out (fun (e : wr.heap.size = r) => by have := HRL.out; omega)).trans hT))
              ((go_at_call 21; refine (HBY.out _ HRD.out.drew).mono ?_; rintro e w5 ⟨rfl, ho⟩))
            have HF := Lib.hid (show Below w.heap.size w w5 ∧ RdAt w5 r (.ok (restB (ts.take ts.length) (k + 1))) from ⟨HB1.out.trans ((Foot.drew (Foot.refl _ _)).then_ ho.2 (fun _ => .inl) |>.below HB1.out.size (S := fun k => k = r) (fun k hk => by have := HRS.out; omega)), by rw [HRK.out]; exact ho.1⟩)
            clear ho hT
            go_wp2
            all_goals first | (exact absurd (by assumption : (!((x : Int) % 256 == (x : Int) % 256)) = true) (by simp)) | (exact absurd (by assumption : (!((x : Int) == (x : Int))) = true) (by simp)) | (exact absurd (by assumption : (!(x == x)) = true) (by simp)) | (exact absurd (by assumption : (!(bb == ((x : Int) % 2 == 1))) = true) (by rw [hb2]; simp)) | skip
            go_roundw
            case rel => exact ⟨k + 1, by omega, by go_num, HF⟩
            case measure => simp [intOf]; omega
          · have t0 : ((kind : Int) % 4 == 0) = false := by rw [beq_eq_false_iff_ne]; omega
            have t1 : ((kind : Int) % 4 == 1) = false := by rw [beq_eq_false_iff_ne]; omega
            have t2 : ((kind : Int) % 4 == 2) = false := by rw [beq_eq_false_iff_ne]; omega
            rw [if_neg (by omega), if_neg (by omega), if_neg (by omega)] at hrd
            have HRD := Lib.hid (hrd.alloc (.cells #[.int .u8 (kind : Int), .int .u64 (x : Int), .slice pb bs.length cb, .int .i64 most] 29))
            have HRL := Lib.hid hrd.lt
            have HBY : Hid (∀ W, RdAt W r (.ok (bytB (cut60 bs) ++ rest)) → Calls Try.prog 22 #[.pointer (some ⟨r, 0, none⟩), .int .i64 60] W (fun e w' => (∃ v, e = .returned v ∧ w'.ownsRow W.heap.size 5 1 v (cut60 bs).length ((cut60 bs).map bV)) ∧ RdOut W w' r (.ok rest))) := Lib.hid (fun W h => by have hq := RdBytes_any r _ 60 (by decide) W h; rw [rd_bytes _ (cut60_len bs)] at hq; exact hq)
            have hT : ((wr.alloc (.cells #[.int .u8 (kind : Int), .int .u64 (x : Int), .slice pb bs.length cb, .int .i64 most] 29)).cell? ⟨wr.heap.size, 2, none⟩ = some (.slice pb bs.length cb)) := (Blk.new wr _ _).cell 2
            have hTl : Hid (wr.heap.size < (wr.alloc (.cells #[.int .u8 (kind : Int), .int .u64 (x : Int), .slice pb bs.length cb, .int .i64 most] 29)).heap.size) := Lib.hid (by simp)
            have HB1 := Lib.hid (below_pre HB.out (below_alloc wr (.cells #[.int .u8 (kind : Int), .int .u64 (x : Int), .slice pb bs.length cb, .int .i64 most] 29)) : Below w.heap.size w _)
            have HRA := Lib.hid (HRV.out.below HB1.out (fun k hk _ => hk))
            have hcB := text_rv 25 5 9 Try.underlying25 Try.underlying5 Try.underlying9 (RV.drewN HRA.out.short 1)
            have hcB' : (convert 25 9 (.slice pb (cut60 bs).length cb)).run Try.prog (wr.alloc (.cells #[.int .u8 (kind : Int), .int .u64 (x : Int), .slice pb bs.length cb, .int .i64 most] 29)).drew = .ok (.string ⟨(cut60 bs).toArray⟩) (wr.alloc (.cells #[.int .u8 (kind : Int), .int .u64 (x : Int), .slice pb bs.length cb, .int .i64 most] 29)).drew := hcB
            generalize htxt : (ByteArray.mk (cut60 bs).toArray) = txt at hcB'
            have HTX := Lib.hid htxt
            clear h4k hrd hcB htxt
            go_wp2
            go_region_with (first
              | (go_at_call 22; refine (HBY.out _ HRD.out.drew).mono ?_; rintro e w5 ⟨⟨v5, rfl, hown5⟩, ho⟩; have hT5 := (ho.2.cell (p := ⟨wr.heap.size, 2, none⟩) hTl.out (fun (e : wr.heap.size = r) => by have := HRL.out; omega)).trans hT; have hcA := text_rv 25 5 9 Try.underlying25 Try.underlying5 Try.underlying9 (RV.of_own hown5); have hcB5 := text_rv 25 5 9 Try.underlying25 Try.underlying5 Try.underlying9 (HRA.out.drew.foot ho.2 (fun k hk (e : k = r) => by have := HRS.out; omega)).short; rw [HTX.out] at hcA hcB5; have HR5 := Lib.hid (HRA.out.drew.foot ho.2 (fun k hk (e : k = r) => by have := HRS.out; omega)); obtain ⟨p5, c5, rfl, _⟩ := RV.of_own hown5; clear hown5)
              | (go_at_call 23; first | (refine (short_exact HRA.out.drew).mono ?_) | (refine (short_exact HR5.out).mono ?_); rintro e w6 ⟨rfl, rfl⟩))
            all_goals
              have HF := Lib.hid (show Below w.heap.size w w5 ∧ RdAt w5 r (.ok (restB (ts.take ts.length) (k + 1))) from ⟨HB1.out.trans ((Foot.drew (Foot.refl _ _)).then_ ho.2 (fun _ => .inl) |>.below HB1.out.size (S := fun k => k = r) (fun k hk => by have := HRS.out; omega)), by rw [HRK.out]; exact ho.1⟩)
              clear ho hT hT5 HR5
              go_wp2
              all_goals first | (exact absurd (by assumption : (!(txt == txt)) = true) (by simp)) | skip
              go_roundw
              case rel => exact ⟨k + 1, by omega, by go_num, HF⟩
              case measure => simp [intOf]; omega
        · obtain rfl : k = ts.length := by omega
          obtain ⟨hb, hrd⟩ := HI.out
          rw [restB_end] at hrd
          have hdn := RDone_any r _ wr hrd
          have HB := Lib.hid hb
          simp only [rdDone] at hdn
          clear HI hb hrd
          go_wp2_with (first
            | (go_at_call 17; refine hdn.mono ?_; clear hdn; rintro e' w6 ⟨rfl, rfl⟩)
            | (go_at_call 12; refine (awake_any _).mono ?_; rintro e' w7 ⟨rfl, hb7⟩))
          go_ret
          exact ⟨rfl, below_pre HB.out hb7⟩

set_option maxHeartbeats 6400000 in
theorem Back_many (v : Value) (ts : List Thg) (w : World) (hN : 30 < ts.length) (hR : ReadsT w w.heap.size v ts) :
    Calls Try.prog 5 #[v] w fun e w' => e = .returned (.bool true) ∧ Below w.heap.size w w' := by
  obtain ⟨p, c, rfl, hm, ho, hc⟩ := hR
  unfold maxLen at hm
  have hnew := New_any 4000 w
  rw [show (4000 : Int).toNat = 4000 from rfl] at hnew
  have HO := Lib.hid ho
  have HC := Lib.hid hc
  have HOK := Lib.hid (fun t ht => (ho t ht).1)
  clear ho hc
  go_enter Try.func5, Try.ntmps5
  go_wp2_with fail
  refine hnew.mono ?_
  clear hnew
  rintro e w0 ⟨rfl, hwr, hbel⟩
  have H0 := Lib.hid (show Below w.heap.size w w0 ∧ ∃ v, WrAt w0 w.heap.size w.heap.size 4000 v (some (allB ts 0)) from ⟨hbel, _, hwr⟩)
  clear hwr hbel
  go_wp2_with fail
  go_loopw [5] (fun i wr => ∃ k : Nat, k ≤ 30 ∧ i = .int .i64 k ∧ Hid (Below w.heap.size w wr ∧ ∃ v, WrAt wr w.heap.size w.heap.size 4000 v (some (allB ts k)))) (fun i _ => 30 - (intOf i).toNat)
  case atStart => exact ⟨0, by omega, rfl, H0⟩
  case round =>
    obtain ⟨k, hk, rfl, HI⟩ := hrel
    by_cases h1 : k < 30
    · have hkt : k < ts.length := by omega
      have hstep := add_allB ts HOK.out k (by omega) ts[k] (List.getElem?_eq_getElem hkt)
      have hok := HOK.out ts[k] (List.getElem_mem hkt)
      have hrv := (HO.out ts[k] (List.getElem_mem hkt)).2
      obtain ⟨b, off, rfl, hb1, hb2, hcell⟩ := HC.out.resolve_left (by rintro rfl; simp at hkt)
      obtain ⟨h3, h4, h5, h6⟩ := hcell k ts[k] (List.getElem?_eq_getElem hkt)
      have hlen := allB_len ts HOK.out k
      clear hcell
      generalize ts[k] = t at *
      have HS := Lib.hid hstep
      clear hstep
      obtain ⟨hb, v1, hw1⟩ := HI.out
      have h3 := (hb.cell (p := ⟨b, off + k * 4, none⟩) hb2).trans h3
      have h4 := (hb.cell (p := ⟨b, off + k * 4 + 1, none⟩) hb2).trans h4
      have h5 := (hb.cell (p := ⟨b, off + k * 4 + 2, none⟩) hb2).trans h5
      have h6 := (hb.cell (p := ⟨b, off + k * 4 + 3, none⟩) hb2).trans h6
      have hrv1 : RV wr (fun k => k ≠ w.heap.size ∧ v1.ownBlock ≠ some k) t.bv t.bs.length 1 (t.bs.map bV) :=
        (hrv.below hb (fun k hk _ => hk)).mono (fun k _ hk => ⟨by omega, fun e => by have := hw1.2.1 k e; omega⟩)
      have hwt := write_any t hok wr hrv1 (fun l h => by cases h; omega) (by decide) hw1
      rw [HS.out] at hwt
      have HB := Lib.hid hb
      have HW1 := Lib.hid hw1
      clear hrv hrv1 hb hw1 HI hlen hok
      go_wp2_with fail
      refine hwt.mono ?_
      clear hwt
      rintro e w2 ⟨rfl, hs⟩
      have hb2' := WrStep.inv HB.out HW1.out hs
      have HF := Lib.hid (show Below w.heap.size w w2 ∧ ∃ v, WrAt w2 w.heap.size w.heap.size 4000 v (some (allB ts (k + 1))) from ⟨hb2', by obtain ⟨v2, h, _⟩ := hs; exact ⟨v2, h⟩⟩)
      clear hb2' hs h3 h4 h5 h6
      go_wp2
      go_roundw
      case rel => exact ⟨k + 1, by omega, by go_num, HF⟩
      case measure => simp [intOf]; omega
    · obtain rfl : k = 30 := by omega
      have hlen := allB_len ts HOK.out 30
      obtain ⟨hb, v1, hw1⟩ := HI.out
      have hd := WDone_some wr (allB ts 30) (by omega) hw1
      have HB := Lib.hid hb
      have HL := Lib.hid hlen
      clear HI hb hw1 hlen
      go_wp2_with fail
      refine hd.mono ?_
      clear hd
      rintro e w2 ⟨x, rfl, hx, hb2'⟩
      have hrd := Read_any w2 x (allB ts 30) (by have := HL.out; omega) _ (RV.of_own hx)
      have HB2 := Lib.hid (below_pre HB.out hb2')
      clear hx hb2'
      go_wp2_with fail
      refine hrd.mono ?_
      clear hrd
      rintro e w3 ⟨⟨r, rfl, hr, hrd⟩, hb3⟩
      rw [← restB_take] at hrd
      have HRS := Lib.hid (show w.heap.size ≤ r by have := HB2.out.size; omega)
      have H1 := Lib.hid (show Below w.heap.size w w3 ∧ RdAt w3 r (.ok (restB (ts.take 30) 0)) from ⟨below_pre HB2.out hb3, hrd⟩)
      clear hr hrd hb3
      go_wp2_with fail
      go_loopw [9] (fun i wr => ∃ k : Nat, k ≤ 30 ∧ i = .int .i64 k ∧ Hid (Below w.heap.size w wr ∧ RdAt wr r (.ok (restB (ts.take 30) k)))) (fun i _ => 30 - (intOf i).toNat)
      case atStart => exact ⟨0, by omega, rfl, H1⟩
      case round =>
        obtain ⟨k, hk, rfl, HI⟩ := hrel
        by_cases h1 : k < 30
        · have hkt : k < ts.length := by omega
          have hok := HOK.out ts[k] (List.getElem_mem hkt)
          have hrv := (HO.out ts[k] (List.getElem_mem hkt)).2
          obtain ⟨b, off, rfl, hb1, hb2, hcell⟩ := HC.out.resolve_left (by rintro rfl; simp at hkt)
          obtain ⟨h3, h4, h5, h6⟩ := hcell k ts[k] (List.getElem?_eq_getElem hkt)
          have hrest := restB_cons (ts.take 30) k ts[k] (by rw [List.getElem?_take_of_lt h1]; exact List.getElem?_eq_getElem hkt)
          clear hcell
          generalize ts[k] = t at *
          obtain ⟨hb, hrd⟩ := HI.out
          rw [hrest] at hrd
          generalize restB (ts.take 30) k = rk at *
          generalize hrk : restB (ts.take 30) (k + 1) = rest at *
          have h3 := (hb.cell (p := ⟨b, off + k * 4, none⟩) hb2).trans h3
          have h4 := (hb.cell (p := ⟨b, off + k * 4 + 1, none⟩) hb2).trans h4
          have h5 := (hb.cell (p := ⟨b, off + k * 4 + 2, none⟩) hb2).trans h5
          have h6 := (hb.cell (p := ⟨b, off + k * 4 + 3, none⟩) hb2).trans h6
          obtain ⟨kind, x, bv, bs, most⟩ := t
          obtain ⟨hkd, hx, _⟩ := hok
          simp only at hkd hx hrv h3 h4 h5 h6
          unfold laidB at hrd
          simp only at hrd
          have HX := Lib.hid hx
          have HRK := Lib.hid hrk
          have HB := Lib.hid hb
          have HRV := Lib.hid hrv
          obtain ⟨pb, cb, rfl, _⟩ := hrv
          clear hx hb hrk hrest HI
          rcases (show kind % 4 = 0 ∨ kind % 4 = 1 ∨ kind % 4 = 2 ∨ kind % 4 = 3 by omega) with h4k | h4k | h4k | h4k
          · have t0 : ((kind : Int) % 4 == 0) = true := by rw [beq_iff_eq]; omega
            rw [if_pos h4k] at hrd
            have HRD := Lib.hid (hrd.alloc (.cells #[.int .u8 (kind : Int), .int .u64 (x : Int), .slice pb bs.length cb, .int .i64 most] 29))
            have HRL := Lib.hid hrd.lt
            have HBY : Hid (∀ W, RdAt W r (.ok ([UInt8.ofNat x] ++ rest)) → Calls Try.prog 19 #[.pointer (some ⟨r, 0, none⟩)] W (fun e w' => e = .returned (.int .u8 ((x : Int) % 256)) ∧ RdOut W w' r (.ok rest))) := Lib.hid (fun W h => by have hq := RByte_any r _ W h; rw [rd_byte, ← byte_wrap] at hq; exact hq)
            have hT : ((wr.alloc (.cells #[.int .u8 (kind : Int), .int .u64 (x : Int), .slice pb bs.length cb, .int .i64 most] 29)).cell? ⟨wr.heap.size, 1, none⟩ = some (.int .u64 (x : Int))) := (Blk.new wr _ _).cell 1
            have hTl : Hid (wr.heap.size < (wr.alloc (.cells #[.int .u8 (kind : Int), .int .u64 (x : Int), .slice pb bs.length cb, .int .i64 most] 29)).heap.size) := Lib.hid (by simp)
            have HB1 := Lib.hid (below_pre HB.out (below_alloc wr (.cells #[.int .u8 (kind : Int), .int .u64 (x : Int), .slice pb bs.length cb, .int .i64 most] 29)) : Below w.heap.size w _)
            clear h4k hrd
            go_wp2
            go_region_held3 (fun w' => w'.cell? ⟨wr.heap.size, 1, none⟩ = some (.int .u64 (x : Int)))
              (first | go_keep | (exact (ho.2.cell (p := ⟨wr.heap.size, 1, none⟩) hTl.out (fun (e : wr.heap.size = r) => by have := HRL.out; omega)).trans hT))
              ((go_at_call 19; refine (HBY.out _ HRD.out.drew).mono ?_; rintro e w5 ⟨rfl, ho⟩))
            have HF := Lib.hid (show Below w.heap.size w w5 ∧ RdAt w5 r (.ok (restB (ts.take 30) (k + 1))) from ⟨HB1.out.trans ((Foot.drew (Foot.refl _ _)).then_ ho.2 (fun _ => .inl) |>.below HB1.out.size (S := fun k => k = r) (fun k hk => by have := HRS.out; omega)), by rw [HRK.out]; exact ho.1⟩)
            clear ho hT
            go_wp2
            all_goals first | (exact absurd (by assumption : (!((x : Int) % 256 == (x : Int) % 256)) = true) (by simp)) | (exact absurd (by assumption : (!((x : Int) == (x : Int))) = true) (by simp)) | (exact absurd (by assumption : (!(x == x)) = true) (by simp)) | (exact absurd (by assumption : (!(bb == ((x : Int) % 2 == 1))) = true) (by rw [hb2]; simp)) | skip
            go_roundw
            case rel => exact ⟨k + 1, by omega, by go_num, HF⟩
            case measure => simp [intOf]; omega
          · have t0 : ((kind : Int) % 4 == 0) = false := by rw [beq_eq_false_iff_ne]; omega
            have t1 : ((kind : Int) % 4 == 1) = true := by rw [beq_iff_eq]; omega
            rw [if_neg (by omega), if_pos h4k] at hrd
            have HRD := Lib.hid (hrd.alloc (.cells #[.int .u8 (kind : Int), .int .u64 (x : Int), .slice pb bs.length cb, .int .i64 most] 29))
            have HRL := Lib.hid hrd.lt
            have HBY : Hid (∀ W, RdAt W r (.ok (numB x ++ rest)) → Calls Try.prog 20 #[.pointer (some ⟨r, 0, none⟩)] W (fun e w' => e = .returned (.int .u64 (x : Int)) ∧ RdOut W w' r (.ok rest))) := Lib.hid (fun W h => by have hq := RdNum_any r _ W h; rw [rd_num x HX.out] at hq; exact hq)
            have hT : ((wr.alloc (.cells #[.int .u8 (kind : Int), .int .u64 (x : Int), .slice pb bs.length cb, .int .i64 most] 29)).cell? ⟨wr.heap.size, 1, none⟩ = some (.int .u64 (x : Int))) := (Blk.new wr _ _).cell 1
            have hTl : Hid (wr.heap.size < (wr.alloc (.cells #[.int .u8 (kind : Int), .int .u64 (x : Int), .slice pb bs.length cb, .int .i64 most] 29)).heap.size) := Lib.hid (by simp)
            have HB1 := Lib.hid (below_pre HB.out (below_alloc wr (.cells #[.int .u8 (kind : Int), .int .u64 (x : Int), .slice pb bs.length cb, .int .i64 most] 29)) : Below w.heap.size w _)
            clear h4k hrd
            go_wp2
            go_region_held3 (fun w' => w'.cell? ⟨wr.heap.size, 1, none⟩ = some (.int .u64 (x : Int)))
              (first | go_keep | (exact (ho.2.cell (p := ⟨wr.heap.size, 1, none⟩) hTl.out (fun (e : wr.heap.size = r) => by have := HRL.out; omega)).trans hT))
              ((go_at_call 20; refine (HBY.out _ HRD.out.drew).mono ?_; rintro e w5 ⟨rfl, ho⟩))
            have HF := Lib.hid (show Below w.heap.size w w5 ∧ RdAt w5 r (.ok (restB (ts.take 30) (k + 1))) from ⟨HB1.out.trans ((Foot.drew (Foot.refl _ _)).then_ ho.2 (fun _ => .inl) |>.below HB1.out.size (S := fun k => k = r) (fun k hk => by have := HRS.out; omega)), by rw [HRK.out]; exact ho.1⟩)
            clear ho hT
            go_wp2
            all_goals first | (exact absurd (by assumption : (!((x : Int) % 256 == (x : Int) % 256)) = true) (by simp)) | (exact absurd (by assumption : (!((x : Int) == (x : Int))) = true) (by simp)) | (exact absurd (by assumption : (!(x == x)) = true) (by simp)) | (exact absurd (by assumption : (!(bb == ((x : Int) % 2 == 1))) = true) (by rw [hb2]; simp)) | skip
            go_roundw
            case rel => exact ⟨k + 1, by omega, by go_num, HF⟩
            case measure => simp [intOf]; omega
          · have t0 : ((kind : Int) % 4 == 0) = false := by rw [beq_eq_false_iff_ne]; omega
            have t1 : ((kind : Int) % 4 == 1) = false := by rw [beq_eq_false_iff_ne]; omega
            have t2 : ((kind : Int) % 4 == 2) = true := by rw [beq_iff_eq]; omega
            rw [if_neg (by omega), if_neg (by omega), if_pos h4k] at hrd
            have hb2 : ((x : Int) % 2 == 1) = (x % 2 == 1) := by rw [Bool.eq_iff_iff, beq_iff_eq, beq_iff_eq]; omega
            generalize (x % 2 == 1) = bb at *
            have HRD := Lib.hid (hrd.alloc (.cells #[.int .u8 (kind : Int), .int .u64 (x : Int), .slice pb bs.length cb, .int .i64 most] 29))
            have HRL := Lib.hid hrd.lt
            have HBY : Hid (∀ W, RdAt W r (.ok (truB bb ++ rest)) → Calls Try.prog 21 #[.pointer (some ⟨r, 0, none⟩)] W (fun e w' => e = .returned (.bool bb) ∧ RdOut W w' r (.ok rest))) := Lib.hid (fun W h => by have hq := RTruth_any' r _ W h; rw [rd_truth] at hq; exact hq)
            have hT : ((wr.alloc (.cells #[.int .u8 (kind : Int), .int .u64 (x : Int), .slice pb bs.length cb, .int .i64 most] 29)).cell? ⟨wr.heap.size, 1, none⟩ = some (.int .u64 (x : Int))) := (Blk.new wr _ _).cell 1
            have hTl : Hid (wr.heap.size < (wr.alloc (.cells #[.int .u8 (kind : Int), .int .u64 (x : Int), .slice pb bs.length cb, .int .i64 most] 29)).heap.size) := Lib.hid (by simp)
            have HB1 := Lib.hid (below_pre HB.out (below_alloc wr (.cells #[.int .u8 (kind : Int), .int .u64 (x : Int), .slice pb bs.length cb, .int .i64 most] 29)) : Below w.heap.size w _)
            clear h4k hrd
            go_wp2
            go_region_held3 (fun w' => w'.cell? ⟨wr.heap.size, 1, none⟩ = some (.int .u64 (x : Int)))
              (first | go_keep | (exact (ho.2.cell (p := ⟨wr.heap.size, 1, none⟩) hTl.out (fun (e : wr.heap.size = r) => by have := HRL.out; omega)).trans hT))
              ((go_at_call 21; refine (HBY.out _ HRD.out.drew).mono ?_; rintro e w5 ⟨rfl, ho⟩))
            have HF := Lib.hid (show Below w.heap.size w w5 ∧ RdAt w5 r (.ok (restB (ts.take 30) (k + 1))) from ⟨HB1.out.trans ((Foot.drew (Foot.refl _ _)).then_ ho.2 (fun _ => .inl) |>.below HB1.out.size (S := fun k => k = r) (fun k hk => by have := HRS.out; omega)), by rw [HRK.out]; exact ho.1⟩)
            clear ho hT
            go_wp2
            all_goals first | (exact absurd (by assumption : (!((x : Int) % 256 == (x : Int) % 256)) = true) (by simp)) | (exact absurd (by assumption : (!((x : Int) == (x : Int))) = true) (by simp)) | (exact absurd (by assumption : (!(x == x)) = true) (by simp)) | (exact absurd (by assumption : (!(bb == ((x : Int) % 2 == 1))) = true) (by rw [hb2]; simp)) | skip
            go_roundw
            case rel => exact ⟨k + 1, by omega, by go_num, HF⟩
            case measure => simp [intOf]; omega
          · have t0 : ((kind : Int) % 4 == 0) = false := by rw [beq_eq_false_iff_ne]; omega
            have t1 : ((kind : Int) % 4 == 1) = false := by rw [beq_eq_false_iff_ne]; omega
            have t2 : ((kind : Int) % 4 == 2) = false := by rw [beq_eq_false_iff_ne]; omega
            rw [if_neg (by omega), if_neg (by omega), if_neg (by omega)] at hrd
            have HRD := Lib.hid (hrd.alloc (.cells #[.int .u8 (kind : Int), .int .u64 (x : Int), .slice pb bs.length cb, .int .i64 most] 29))
            have HRL := Lib.hid hrd.lt
            have HBY : Hid (∀ W, RdAt W r (.ok (bytB (cut60 bs) ++ rest)) → Calls Try.prog 22 #[.pointer (some ⟨r, 0, none⟩), .int .i64 60] W (fun e w' => (∃ v, e = .returned v ∧ w'.ownsRow W.heap.size 5 1 v (cut60 bs).length ((cut60 bs).map bV)) ∧ RdOut W w' r (.ok rest))) := Lib.hid (fun W h => by have hq := RdBytes_any r _ 60 (by decide) W h; rw [rd_bytes _ (cut60_len bs)] at hq; exact hq)
            have hT : ((wr.alloc (.cells #[.int .u8 (kind : Int), .int .u64 (x : Int), .slice pb bs.length cb, .int .i64 most] 29)).cell? ⟨wr.heap.size, 2, none⟩ = some (.slice pb bs.length cb)) := (Blk.new wr _ _).cell 2
            have hTl : Hid (wr.heap.size < (wr.alloc (.cells #[.int .u8 (kind : Int), .int .u64 (x : Int), .slice pb bs.length cb, .int .i64 most] 29)).heap.size) := Lib.hid (by simp)
            have HB1 := Lib.hid (below_pre HB.out (below_alloc wr (.cells #[.int .u8 (kind : Int), .int .u64 (x : Int), .slice pb bs.length cb, .int .i64 most] 29)) : Below w.heap.size w _)
            have HRA := Lib.hid (HRV.out.below HB1.out (fun k hk _ => hk))
            have hcB := text_rv 25 5 9 Try.underlying25 Try.underlying5 Try.underlying9 (RV.drewN HRA.out.short 1)
            have hcB' : (convert 25 9 (.slice pb (cut60 bs).length cb)).run Try.prog (wr.alloc (.cells #[.int .u8 (kind : Int), .int .u64 (x : Int), .slice pb bs.length cb, .int .i64 most] 29)).drew = .ok (.string ⟨(cut60 bs).toArray⟩) (wr.alloc (.cells #[.int .u8 (kind : Int), .int .u64 (x : Int), .slice pb bs.length cb, .int .i64 most] 29)).drew := hcB
            generalize htxt : (ByteArray.mk (cut60 bs).toArray) = txt at hcB'
            have HTX := Lib.hid htxt
            clear h4k hrd hcB htxt
            go_wp2
            go_region_with (first
              | (go_at_call 22; refine (HBY.out _ HRD.out.drew).mono ?_; rintro e w5 ⟨⟨v5, rfl, hown5⟩, ho⟩; have hT5 := (ho.2.cell (p := ⟨wr.heap.size, 2, none⟩) hTl.out (fun (e : wr.heap.size = r) => by have := HRL.out; omega)).trans hT; have hcA := text_rv 25 5 9 Try.underlying25 Try.underlying5 Try.underlying9 (RV.of_own hown5); have hcB5 := text_rv 25 5 9 Try.underlying25 Try.underlying5 Try.underlying9 (HRA.out.drew.foot ho.2 (fun k hk (e : k = r) => by have := HRS.out; omega)).short; rw [HTX.out] at hcA hcB5; have HR5 := Lib.hid (HRA.out.drew.foot ho.2 (fun k hk (e : k = r) => by have := HRS.out; omega)); obtain ⟨p5, c5, rfl, _⟩ := RV.of_own hown5; clear hown5)
              | (go_at_call 23; first | (refine (short_exact HRA.out.drew).mono ?_) | (refine (short_exact HR5.out).mono ?_); rintro e w6 ⟨rfl, rfl⟩))
            all_goals
              have HF := Lib.hid (show Below w.heap.size w w5 ∧ RdAt w5 r (.ok (restB (ts.take 30) (k + 1))) from ⟨HB1.out.trans ((Foot.drew (Foot.refl _ _)).then_ ho.2 (fun _ => .inl) |>.below HB1.out.size (S := fun k => k = r) (fun k hk => by have := HRS.out; omega)), by rw [HRK.out]; exact ho.1⟩)
              clear ho hT hT5 HR5
              go_wp2
              all_goals first | (exact absurd (by assumption : (!(txt == txt)) = true) (by simp)) | skip
              go_roundw
              case rel => exact ⟨k + 1, by omega, by go_num, HF⟩
              case measure => simp [intOf]; omega
        · obtain rfl : k = 30 := by omega
          obtain ⟨hb, hrd⟩ := HI.out
          rw [restB_end] at hrd
          have hdn := RDone_any r _ wr hrd
          have HB := Lib.hid hb
          simp only [rdDone] at hdn
          clear HI hb hrd
          go_wp2_with (first
            | (go_at_call 17; refine hdn.mono ?_; clear hdn; rintro e' w6 ⟨rfl, rfl⟩)
            | (go_at_call 12; refine (awake_any _).mono ?_; rintro e' w7 ⟨rfl, hb7⟩))
          go_ret
          exact ⟨rfl, below_pre HB.out hb7⟩

theorem Back_walk (v : Value) (ts : List Thg) (w : World) (hR : ReadsT w w.heap.size v ts) :
    Calls Try.prog 5 #[v] w fun e w' => e = .returned (.bool true) ∧ Below w.heap.size w w' := by
  by_cases h : ts.length ≤ 30
  · exact Back_few v ts w h hR
  · exact Back_many v ts w (by omega) hR
end Go.Proofs.Ytpdlfelmdnkjdaa
