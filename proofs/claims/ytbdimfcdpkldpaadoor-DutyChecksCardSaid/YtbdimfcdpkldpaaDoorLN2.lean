/- The contracts of strconv.FormatUint at base ten and of package nums' Print. The contract of strconv.FormatUint at base sixteen. The contracts of package nums' Hex and ReadHex, and of the reference's Print, Hex and ReadHex. The contracts of the reference's digit, Print, Hex and ReadHex. The contracts of package nums' addWord and Words. The contracts of the reference's Words, Join and Same. -/
import Derived.Test.YtbdimfcdpkldpaaDoorLN1
import Derived.Test.YtbdimfcdpkldpaaDoorShelf
import Derived.Lib.Walk
import Derived.Lib.ItoaMem
import Derived.BigCall
import Derived.BigGuard
import Derived.Laws.BitsAllLaws
import Derived.Laws.ShiftsVarLaws
import Derived.CellFam
import Derived.Lib.Repeat
import Derived.Laws.CopyOwn
import Derived.Below
import Derived.Deep.Onto
import Derived.OpenShut
import Derived.Laws.DeepStrings4
import Derived.Deep.QuietTactic
import Derived.BigQuiet
namespace Go.Proofs.YtbdimfcdpkldpaaDoor
open Go.RowKit Go.Sort Go.Lib

/-- What the walks want of the library's tables: the powers of ten, and one cell of the table by which trailing zeros are counted. -/
def Tabs (w : World) : Prop := Lib.TabIs Tryd.prog w "internal/strconv.uint64pow10" .u64 Lib.pow10Tab ∧ w.cell? ⟨4, 15, none⟩ = some (.int .u8 4)
theorem gPow : Tryd.prog.globalNamed "internal/strconv.uint64pow10" = some 1 := by kernel_rfl
theorem Tabs.below {w w' : World} {B : Nat} (h : Tabs w) (hb : Below B w w') (hB : w.heap.size ≤ B) : Tabs w' := by
  obtain ⟨h1, h2⟩ := h
  have hlt : 4 < w.heap.size := block_lt_of_cell h2
  refine ⟨?_, (hb.cell (p := ⟨4, 15, none⟩) (show 4 < B by omega)).trans h2⟩
  unfold Lib.TabIs World.var? at *
  rw [gPow] at h1 ⊢
  simp only [Option.bind_some] at h1 ⊢
  rw [hb.block 1 (by omega)]
  exact h1

/-- The new block's bytes from the first on are a row of zeros. -/
theorem holds_zero0 (w : World) (T : TypeId) (nd : Nat) (hs : nd ≤ 24) : Holds (fun (b : UInt8) => Value.int .u8 (b.toNat : Int)) (w.alloc (.cells zeros24 T)) w.heap.size 0 (Array.replicate nd (0 : UInt8)) := fun j hj => by
  have hj' : j < nd := by simpa using hj
  refine ⟨?_, World.frozen?_alloc_new _ _ _ _⟩
  rw [World.cell?_alloc_new, zeros24_at _ (by omega), getElem!_pos _ j hj]
  simp

theorem al24 : Tryd.prog.arrayLen 105 = 24 := by kernel_rfl
theorem el24 : (Tryd.prog.underlying 105) = some (.array 24 5) := by kernel_rfl

theorem below_grow_drew (w : World) (k : Nat) (os : Array Obj) : Below w.heap.size w (grow (w.drewN k) os) :=
  ⟨rfl, rfl, rfl, by show w.heap.size ≤ (w.heap ++ os).size; rw [Array.size_append]; omega, fun j hj => by
    show (w.heap ++ os)[j]? = w.heap[j]?
    rw [Array.getElem?_append_left hj]⟩

set_option maxHeartbeats 1600000 in
set_option maxRecDepth 100000 in
theorem FU10_any (u : Nat) (hu64 : u < 18446744073709551616) (w : World) (htab : Tabs w) :
    Calls Tryd.prog 65 #[.int .u64 u, .int .i64 10] w fun e w' => e = .returned (.string ⟨(Lib.decDigits u).toArray⟩) ∧ Below w.heap.size w w' := by
  by_cases hs : u < 100
  · clear hu64
    go_enter Tryd.func65, Tryd.ntmps65
    go_wp2_with (go_at_call 70; refine (Tryd.internal_strconv_small u hs _).mono ?_; rintro e w' ⟨rfl, rfl⟩)
    go_ret
    exact ⟨rfl, Below.refl _ _⟩
  · have hu1 : 1 ≤ u := by omega
    have hnd20 : Lib.nDigits u ≤ 20 := by have := Lib.numDigits_eq u hu1 hu64; split at this <;> omega
    have hal : Tryd.prog.arrayLen 105 = 24 := al24
    have hsl1 : ∀ W, (Instr.sliceAt 105 (.pointer (some ⟨w.heap.size, 0, none⟩)) none (some (.int .i64 (Lib.nDigits u : Int))) none).run Tryd.prog W = .ok (.slice (some ⟨w.heap.size, 0, none⟩) (Lib.nDigits u) 24) W := fun W => by
      rw [run_sliceAt_array_h W 105 ⟨w.heap.size, 0, none⟩ (by simp [Program.arrayLen, Program.elem]) .i64 (Lib.nDigits u : Int) (by omega) (by rw [hal]; omega)]
      go_simp
      try omega
    have hH0 := holds_zero0 w 105 (Lib.nDigits u) (by omega)
    have hfmt := Tryd.internal_strconv_formatBase10 w.heap.size 0 24 u (Array.replicate (Lib.nDigits u) 0) (w.alloc (.cells Lib.zeros24 105)) hH0 (by rw [Array.size_replicate]; exact Lib.lt_pow_nDigits u) hu64 (by rw [Array.size_replicate]; omega)
    rw [Array.size_replicate] at hfmt
    have HH0 := Lib.hid hH0
    have Htab := Lib.hid (Lib.tabIs_alloc htab.1 (.cells Lib.zeros24 105))
    clear hH0 hal htab
    go_enter Tryd.func65, Tryd.ntmps65
    go_wp2_with (first
      | (go_at_call 71; refine (Tryd.internal_strconv_numDigits u hu1 hu64 _ Htab.out).mono ?_; rintro e w' ⟨rfl, rfl⟩))
    go_at_call 72
    refine hfmt.mono ?_
    rintro e w' ⟨rfl, k, v', dk, rfl, hF⟩
    have hcv : (convert 63 9 (.slice (some ⟨w.heap.size, 0, none⟩) (Lib.nDigits u) 24)).run Tryd.prog ((putRow (fun (b : UInt8) => Value.int .u8 (b.toNat : Int)) (w.alloc (.cells Lib.zeros24 105)) w.heap.size 0 dk).drewN k) = .ok (.string ⟨(Lib.decDigits u).toArray⟩) ((putRow (fun (b : UInt8) => Value.int .u8 (b.toNat : Int)) (w.alloc (.cells Lib.zeros24 105)) w.heap.size 0 dk).drewN k) := by
      have h := run_convert_bytes_back (P := Tryd.prog) ((putRow (fun (b : UInt8) => Value.int .u8 (b.toNat : Int)) (w.alloc (.cells Lib.zeros24 105)) w.heap.size 0 dk).drewN k) 63 9 5 ⟨w.heap.size, 0, none⟩ 24 (Lib.decDigits u) Tryd.underlying63 Tryd.underlying5 Tryd.underlying9 (fun j hj => by
        rw [Lib.row_is_numeral hF j hj, Lib.add_plain, World.cell?_drewN]
        exact cell?_putRow (fun (b : UInt8) => Value.int .u8 (b.toNat : Int)) _ w.heap.size 0 _ dk HH0.out (by rw [hF.size, Array.size_replicate]) j (by rw [hF.size]; rw [Lib.decDigits_length] at hj; exact hj))
      rw [Lib.decDigits_length] at h
      exact h
    go_wp2
    go_ret
    refine ⟨rfl, ?_⟩
    rw [alloc_eq_grow]
    obtain ⟨os', _, e⟩ := putRow_grow_new (fun (b : UInt8) => Value.int .u8 (b.toNat : Int)) w #[.cells Lib.zeros24 105] w.heap.size 0 dk (Nat.le_refl _)
    rw [e]
    exact below_grow_drew _ _ _

theorem SFU10_any (u : Nat) (hu : u < 18446744073709551616) (w : World) (htab : Tabs w) :
    Calls Tryd.prog 57 #[.int .u64 u, .int .i64 10] w fun e w' => e = .returned (.string ⟨(Lib.decDigits u).toArray⟩) ∧ Below w.heap.size w w' := by
  have h := FU10_any u hu w htab
  clear hu htab
  go_enter Tryd.func57, Tryd.ntmps57
  go_wp2_with (go_at_call 65; refine h.mono ?_; rintro e w' ⟨rfl, hb⟩)
  go_ret
  exact ⟨rfl, hb⟩
theorem Print_any (u : Nat) (hu : u < 18446744073709551616) (w : World) (htab : Tabs w) :
    Calls Tryd.prog 49 #[.int .u64 u] w fun e w' => e = .returned (.string ⟨(Lib.decDigits u).toArray⟩) ∧ Below w.heap.size w w' := by
  have h := SFU10_any u hu w htab
  clear hu htab
  go_enter Tryd.func49, Tryd.ntmps49
  go_wp2_with (go_at_call 57; refine h.mono ?_; rintro e w' ⟨rfl, hb⟩)
  go_ret
  exact ⟨rfl, hb⟩
end Go.Proofs.YtbdimfcdpkldpaaDoor

namespace Go.Proofs.YtbdimfcdpkldpaaDoor
open Go.RowKit Go.Sort Go.Lib

theorem key16 : IntKind.u64.wrap (bits BinOp.and IntKind.u64 (16 : Int) (IntKind.u64.wrap (-(16 : Int))) * 285870213051353865) / 288230376151711744 = (15 : Int) := by decide +kernel
theorem tz64_16 (w : World) (hcell : w.cell? ⟨4, 15, none⟩ = some (.int .u8 4)) :
    Calls Tryd.prog 85 #[.int .u64 16] w fun e w' => e = .returned (.int .i64 4) ∧ w = w' := by
  go_enter Tryd.func85, Tryd.ntmps85
  go_wp2_with (simp only [key16])
  go_ret
  exact ⟨rfl, rfl⟩
theorem tz16 (w : World) (hc : w.cell? ⟨4, 15, none⟩ = some (.int .u8 4)) :
    Calls Tryd.prog 82 #[.int .u64 16] w fun e w' => e = .returned (.int .i64 4) ∧ w = w' := by
  go_enter Tryd.func82, Tryd.ntmps82
  go_wp2_with (go_at_call 85; refine (tz64_16 _ hc).mono ?_; rintro e w' ⟨rfl, rfl⟩)
  go_ret
  exact ⟨rfl, rfl⟩
theorem pow16 (w : World) :
    Calls Tryd.prog 81 #[.int .i64 16] w fun e w' => e = .returned (.bool true) ∧ w = w' := by
  go_enter Tryd.func81, Tryd.ntmps81
  go_wp2
  go_ret
  exact ⟨rfl, rfl⟩

/-- The block that formatBits writes its digits into: from place i on it holds L. -/
def Row65 (w : World) (b i : Nat) (L : List UInt8) : Prop :=
  (∀ j, j < 65 → (∃ v, w.cell? ⟨b, j, none⟩ = some v) ∧ w.frozen? ⟨b, j, none⟩ = false) ∧ ∀ j, (h : j < L.length) → w.cell? ⟨b, i + j, none⟩ = some (.int .u8 (L[j].toNat : Nat))
theorem Row65.cons {w : World} {b i : Nat} {L : List UInt8} (h : Row65 w b (i + 1) L) (hi : i < 65) (c : UInt8) : Row65 (w.setCell ⟨b, i, none⟩ (.int .u8 (c.toNat : Nat))) b i (c :: L) := by
  obtain ⟨h1, h2⟩ := h
  have hc0 := h1 i hi
  obtain ⟨⟨v0, hc0⟩, hf0⟩ := hc0
  refine ⟨fun j hj => ?_, fun j hj => ?_⟩
  · obtain ⟨⟨v, hv⟩, hf⟩ := h1 j hj
    refine ⟨?_, ?_⟩
    · by_cases e : j = i
      · subst e
        exact ⟨_, World.cell?_setCell_same _ _ _ hc0⟩
      · exact ⟨v, by rw [World.cell?_setCell_other _ _ _ _ (by simp <;> exact e)]; exact hv⟩
    · rw [World.frozen?_setCell]; exact hf
  · cases j with
    | zero => exact World.cell?_setCell_same _ _ _ hc0
    | succ j =>
      have hj' : j < L.length := by simpa using hj
      rw [World.cell?_setCell_other _ _ _ _ (by simp), List.getElem_cons_succ, ← h2 j hj', show i + (j + 1) = i + 1 + j by omega]

def zeros65 : Array Value := Array.replicate 65 (.int .u8 0)
theorem Row65.new (w : World) (T : TypeId) : Row65 (w.alloc (.cells zeros65 T)) w.heap.size 65 [] := by
  refine ⟨fun j hj => ⟨⟨.int .u8 0, ?_⟩, World.frozen?_alloc_new _ _ _ _⟩, fun j hj => by simp at hj⟩
  rw [World.cell?_alloc_new]
  unfold zeros65
  rw [Array.getElem?_replicate, if_pos hj]

theorem und16 (x : Nat) (h : x < 18446744073709551616) : bits .and .u64 (x : Int) 15 = ((x % 16 : Nat) : Int) := by
  have := u64_and_nat x 15 h (by decide)
  rw [show ((15 : Nat) : Int) = 15 from rfl] at this
  rw [this, show (15 : Nat) = 2 ^ 4 - 1 by decide, Nat.and_two_pow_sub_one_eq_mod]

theorem dg36_fin : ∀ x : Fin 16, Lib.digits36.data.toList[x.val]? = some (dgB x.val) := by decide +kernel
theorem idx36 (k : IntKind) (x : Nat) (h : x < 16) (W : World) :
    (Instr.index 9 (.string Lib.digits36) (.int k x)).run Tryd.prog W = .ok (.int .u8 ((dgB x).toNat : Nat)) W := by
  have hs : x < Lib.digits36.size := by rw [Lib.digits36_size]; omega
  rw [run_index_string W 9 Lib.digits36 k x und_str, dif_pos ⟨by omega, by omega⟩]
  have := dg36_fin ⟨x, h⟩
  rw [byte_at _ _ hs] at this
  congr 4
  exact Option.some.inj this

theorem al65 : Tryd.prog.arrayLen 117 = 65 := by kernel_rfl
theorem el65 : (Tryd.prog.underlying 117) = some (.array 65 5) := by kernel_rfl

set_option maxHeartbeats 1600000 in
set_option maxRecDepth 100000 in
theorem fBits_any (u0 : Nat) (hu64 : u0 < 18446744073709551616) (w : World) (htab : Tabs w) :
    Calls Tryd.prog 73 #[.slice none 0 0, .int .u64 u0, .int .i64 16, .bool false, .bool false] w fun e w' => e = .returned (.tuple #[.slice none 0 0, .string ⟨(hexM u0).toArray⟩]) ∧ Below w.heap.size w w' := by
  have hl16 := hexM_len 15 u0 (by omega)
  have hc15 := htab.2
  have hc15' : (w.alloc (.cells zeros65 117)).cell? ⟨4, 15, none⟩ = some (.int .u8 4) := by
    rw [World.cell?_alloc_old _ _ _ (by have := block_lt_of_cell hc15; simp only at this ⊢; omega)]
    exact hc15
  have Hc := Lib.hid hc15'
  have Hu := Lib.hid hu64
  have hR := Row65.new w 117
  have HR := Lib.hid hR
  clear hc15 hc15' hu64 htab hR
  go_enter Tryd.func73, Tryd.ntmps73
  go_name_bytes MG hMG
  clear hMG
  go_name_bytes DG hDG
  have eDG : DG = Lib.digits36 := by rw [← hDG]; decide +kernel
  subst eDG
  clear hDG
  go_wp2_with (first
    | (go_at_call 81; refine (pow16 _).mono ?_; rintro e w' ⟨rfl, rfl⟩)
    | (go_at_call 82; refine (tz16 _ Hc.out).mono ?_; rintro e w' ⟨rfl, rfl⟩))
  generalize hW1 : w.alloc (.cells zeros65 117) = W1 at HR
  have hb1 : Below w.heap.size w W1 := by rw [← hW1]; exact (Below.refl _ _).alloc (Nat.le_refl _) _
  clear hW1 Hc
  go_loopw [1, 13] (fun vu vi wr => ∃ (u i : Nat) (L : List UInt8), vu = .int .u64 u ∧ vi = .int .i64 i ∧ i + L.length = 65 ∧ Hid (hexM u0 = hexM u ++ L) ∧ Hid (u < 18446744073709551616) ∧ Row65 wr w.heap.size i L ∧ Below w.heap.size w wr) (fun _ vi _ => (RowKit.intOf vi).toNat)
  case atStart => exact ⟨u0, 65, [], rfl, rfl, rfl, Lib.hid (by simp), Hu, HR.out, hb1⟩
  case round =>
    obtain ⟨u, i, L, rfl, rfl, hiL, Hx, Hlt, hrow, hbr⟩ := hrel
    have hlen := congrArg List.length Hx.out
    rw [List.length_append] at hlen
    have hpos : 1 ≤ (hexM u).length := by
      by_cases h : u < 16
      · rw [hexM_small h]; simp
      · rw [hexM_big h]; simp
    have hi1 : 50 ≤ i := by omega
    have hi2 : i ≤ 65 := by omega
    have hL : L.length ≤ 15 := by omega
    clear hlen hpos
    obtain ⟨i, rfl⟩ : ∃ k, i = k + 1 := ⟨i - 1, by omega⟩
    obtain ⟨⟨v0, hcell⟩, hfroz⟩ := hrow.1 i (by omega)
    by_cases h16 : 16 ≤ u
    · have hand := und16 u Hlt.out
      have hix := idx36 .u64 (u % 16) (by omega)
      have hrow2 := hrow.cons (by omega) (dgB (u % 16))
      have hx2 : hexM u0 = hexM (u / 16) ++ dgB (u % 16) :: L := by
        rw [Hx.out, hexM_big (by omega)]; simp
      generalize u % 16 = r at hand hix hrow2 hx2
      have Hx2 := Lib.hid hx2
      have HR2 := Lib.hid hrow2
      clear hx2 hrow2 hrow
      go_wp2
      go_roundw
      case rel => exact ⟨u / 16, i, dgB r :: L, by go_num, by go_num, by simp; omega, Hx2, Lib.hid (Nat.lt_of_le_of_lt (Nat.div_le_self _ _) Hlt.out), HR2.out, hbr.setCell (Nat.le_refl _) _⟩
      case measure => (simp [RowKit.intOf] <;> go_num)
    · have hix := idx36 .u64 u (by omega)
      have hrow2 := hrow.cons (by omega) (dgB u)
      have hx2 : hexM u0 = dgB u :: L := by
        rw [Hx.out, hexM_small (by omega)]; simp
      generalize dgB u = c at hix hrow2 hx2
      have hlc : (c :: L).length = 65 - i := by rw [List.length_cons]; omega
      have hbr2 := hbr.setCell (p := ⟨w.heap.size, i, none⟩) (Nat.le_refl _) (.int .u8 (c.toNat : Nat))
      have hcv := run_convert_bytes_back (P := Tryd.prog) (wr.setCell ⟨w.heap.size, i, none⟩ (.int .u8 (c.toNat : Nat))) 63 9 5 ⟨w.heap.size, i, none⟩ (65 - i) (c :: L) Tryd.underlying63 Tryd.underlying5 Tryd.underlying9 (fun j hj => by
        rw [Lib.add_plain]
        exact hrow2.2 j hj)
      have hsl : ∀ W, (Instr.sliceAt 117 (.pointer (some ⟨w.heap.size, 0, none⟩)) (some (.int .i64 (i : Int))) none none).run Tryd.prog W = .ok (.slice (some ⟨w.heap.size, i, none⟩) (65 - i) (65 - i)) W := fun W => by
        rw [run_sliceAt_array_l W 117 ⟨w.heap.size, 0, none⟩ (by simp [Program.arrayLen, Program.elem]) .i64 (i : Int) (by omega) (by rw [al65]; omega)]
        rw [al65]
        go_simp
        try omega
      rw [hlc] at hcv
      have Hx2 := Lib.hid hx2
      clear hx2 hrow2 hrow hlc
      generalize hs2 : wr.setCell ⟨w.heap.size, i, none⟩ (.int .u8 (c.toNat : Nat)) = w2 at hcv hbr2
      go_wp2
      go_ret2
      refine ⟨?_, hbr2⟩
      rw [Hx2.out]
      rfl
end Go.Proofs.YtbdimfcdpkldpaaDoor

namespace Go.Proofs.YtbdimfcdpkldpaaDoor
open Go.RowKit Go.Sort

theorem FU16_any (u : Nat) (hu : u < 18446744073709551616) (w : World) (htab : Tabs w) :
    Calls Tryd.prog 65 #[.int .u64 u, .int .i64 16] w fun e w' => e = .returned (.string ⟨(hexM u).toArray⟩) ∧ Below w.heap.size w w' := by
  have h := fBits_any u hu w htab
  clear hu htab
  go_enter Tryd.func65, Tryd.ntmps65
  go_wp2_with (go_at_call 73; refine h.mono ?_; rintro e w' ⟨rfl, hb⟩)
  go_ret
  exact ⟨rfl, hb⟩
theorem SFU16_any (u : Nat) (hu : u < 18446744073709551616) (w : World) (htab : Tabs w) :
    Calls Tryd.prog 57 #[.int .u64 u, .int .i64 16] w fun e w' => e = .returned (.string ⟨(hexM u).toArray⟩) ∧ Below w.heap.size w w' := by
  have h := FU16_any u hu w htab
  clear hu htab
  go_enter Tryd.func57, Tryd.ntmps57
  go_wp2_with (go_at_call 65; refine h.mono ?_; rintro e w' ⟨rfl, hb⟩)
  go_ret
  exact ⟨rfl, hb⟩

theorem ret_str {a b : ByteArray} (h : a = b) : Ending.returned (.string a) = .returned (.string b) := by rw [h]
theorem mk_append (a b : List UInt8) : (ByteArray.mk a.toArray) ++ (ByteArray.mk b.toArray) = ⟨(a ++ b).toArray⟩ := by
  apply ByteArray.ext
  rw [ByteArray.data_append]
  simp
theorem repeat_48 : ∀ c, Lib.repeatL [48] c = List.replicate c 48
  | 0 => rfl
  | c + 1 => by rw [List.replicate_succ, ← repeat_48 c]; rfl

set_option maxHeartbeats 400000 in
theorem Hex_any (u : Nat) (hu : u < 18446744073709551616) (w : World) (htab : Tabs w) :
    Calls Tryd.prog 50 #[.int .u64 u] w fun e w' => e = .returned (.string ⟨(hexN 16 u).toArray⟩) ∧ Below w.heap.size w w' := by
  have h := SFU16_any u hu w htab
  have hpad := hex_pad 15 u (by omega)
  have hlen := hexM_len 15 u (by omega)
  obtain ⟨S, hS⟩ : ∃ S : ByteArray, S = ⟨(hexM u).toArray⟩ := ⟨_, rfl⟩
  have hsz : S.size = (hexM u).length := by rw [hS]; simp [ByteArray.size]
  rw [← hS] at h
  rw [← hsz] at hpad hlen
  have HS := Lib.hid hS
  have Hp := Lib.hid hpad
  have hrep := fun w => Tryd.strings_Repeat ⟨#[48]⟩ (16 - S.size) w (by omega) (by show 1 * (16 - S.size) ≤ _; omega)
  have hr48 : (ByteArray.mk #[48]).data.toList = [48] := rfl
  rw [hr48, repeat_48] at hrep
  have hc : ((16 - S.size : Nat) : Int) = 16 - (S.size : Int) := by omega
  rw [hc] at hrep
  obtain ⟨R, hR⟩ : ∃ R : ByteArray, R = ⟨(List.replicate (16 - S.size) 48).toArray⟩ := ⟨_, rfl⟩
  have hRs : R.size ≤ 16 := by
    rw [hR]
    show (List.replicate (16 - S.size) (48 : UInt8)).toArray.size ≤ 16
    rw [List.size_toArray, List.length_replicate]; omega
  rw [← hR] at hrep
  have HR := Lib.hid hR
  clear hu htab hS hpad hR hsz hc hr48
  go_enter Tryd.func50, Tryd.ntmps50
  go_wp2_with (first
    | (go_at_call 57; refine h.mono ?_; clear h; rintro e w1 ⟨rfl, hb1⟩)
    | (go_at_call 58; refine (hrep _).mono ?_; clear hrep; rintro e w2 ⟨rfl, hb2⟩))
  go_ret
  exact ⟨ret_str ((congr (congrArg HAppend.hAppend HR.out) HS.out).trans ((mk_append _ _).trans (congrArg (fun l : List UInt8 => ByteArray.mk l.toArray) Hp.out))), hb1.trans (hb2.mono hb1.size)⟩

theorem take_all (s : ByteArray) : s.data.toList.take s.size = s.data.toList := List.take_of_length_le (Nat.le_refl _)
theorem all_take (b : Nat) (l : List UInt8) (k : Nat) (h : allD b l = true) : allD b (l.take k) = true := by
  rw [← List.take_append_drop k l, allD_append, Bool.and_eq_true] at h
  exact h.1
theorem or_step (n v : Nat) (hv : v < 16) : n * 16 ||| v = n * 16 + v := by
  rw [show n * 16 = n <<< 4 by rw [Nat.shiftLeft_eq]]
  rw [Nat.shiftLeft_add_eq_or_of_lt (show v < 2 ^ 4 by omega)]

end Go.Proofs.YtbdimfcdpkldpaaDoor

namespace Go.Proofs.YtbdimfcdpkldpaaDoor
open Go.RowKit

theorem digit_piece : ∀ x, x < 16 → (ByteArray.mk #[48, 49, 50, 51, 52, 53, 54, 55, 56, 57, 97, 98, 99, 100, 101, 102]).extract x (x + 1) = ⟨#[dgB x]⟩ := by decide +kernel
theorem dgB_ten (x : Nat) (h : x < 10) : dgB x = UInt8.ofNat (48 + x) := by unfold dgB; rw [if_pos h]
theorem cons_bytes (c : UInt8) (L : List UInt8) : ByteArray.mk #[c] ++ ByteArray.mk L.toArray = ⟨(c :: L).toArray⟩ := mk_append [c] L
theorem size_mk (L : List UInt8) : (ByteArray.mk L.toArray).size = L.length := by simp [ByteArray.size]

theorem hexN_step (k x : Nat) (h : k < 16) : hexN (16 - k) x = hexN (16 - (k + 1)) (x / 16) ++ [dgB (x % 16)] := by
  rw [show 16 - k = (16 - (k + 1)) + 1 by omega, hexN]

end Go.Proofs.YtbdimfcdpkldpaaDoor

namespace Go.Proofs.YtbdimfcdpkldpaaDoor
open Go.RowKit

/-- A text as a value. -/
def sV (l : List UInt8) : Value := .string ⟨l.toArray⟩
theorem sV_data (s : ByteArray) : sV s.data.toList = .string s := rfl
theorem infoS : (Tryd.prog.info? 9).map (fun i => (i.zero, i.size, i.bytes)) = some (some (.string ⟨#[]⟩), 1, 16) := by kernel_rfl

/-- A row stays one's own where every block of cells stays as it was. -/
theorem own_keep {w w' : World} {B : Nat} {e : TypeId} {size n : Nat} {v : Value} {xs : List Value} (h : w.ownsRow B e size v n xs)
    (hk : ∀ (g : Nat) cs, w.heap[g]? = some (.cells cs e (0, 0)) → w'.heap[g]? = some (.cells cs e (0, 0))) : w'.ownsRow B e size v n xs :=
  ⟨h.1, h.2.imp id fun ⟨g, cap, cur, hv, hb, hg, r⟩ => ⟨g, cap, cur, hv, hb, hk g cur hg, r⟩⟩
theorem ownsRow_below {w w' : World} {base B : Nat} {e : TypeId} {size : Nat} {v : Value} {n : Nat} {xs : List Value} (h : w.ownsRow base e size v n xs) (hb : Below B w w') (hB : w.heap.size ≤ B) : w'.ownsRow base e size v n xs :=
  own_keep h fun g cs hg => by
    have := (Array.getElem?_eq_some_iff.1 hg).1
    rw [hb.block g (by omega)]; exact hg
theorem own_iter {w : World} {B : Nat} {e : TypeId} {size n : Nat} {v : Value} {xs : List Value} {k : Nat} {s : ByteArray} {pos : Nat} (h : w.ownsRow B e size v n xs) (hit : w.heap[k]? = some (.stringIter s pos)) (pos' : Nat) :
    (w.iterAt k s pos').ownsRow B e size v n xs :=
  own_keep h fun g cs hg => by
    have hne : g ≠ k := by rintro rfl; simp [hit] at hg
    rw [Lib.iterAt_other _ _ _ _ _ hne]; exact hg
theorem iter_free {w : World} {B : Nat} {e : TypeId} {size n : Nat} {v : Value} {xs : List Value} {k : Nat} {s : ByteArray} {pos : Nat} (h : w.ownsRow B e size v n xs) (hit : w.heap[k]? = some (.stringIter s pos)) : some k ≠ v.ownBlock := by
  intro hke
  obtain ⟨_, ⟨rfl, _⟩ | ⟨g, cap, cur, rfl, _, hg, _⟩⟩ := h
  · cases hke
  · cases hke
    simp [hit] at hg
theorem wl_snoc (ws : List (List UInt8)) (l : List UInt8) : ws.map sV ++ [sV l] = (ws ++ [l]).map sV := by rw [List.map_append]; rfl
theorem nil_of_size (s : ByteArray) (h : s.size = 0) : s.data.toList = [] := List.length_eq_zero_iff.1 h

theorem get_bang (s : ByteArray) (i : Nat) (h : i < s.size) : s.get! i = s[i]'h := get_at s i h
/-- What a rune's bytes are: either the blank alone, or no blank among them. -/
theorem high_bytes (s : ByteArray) (pos : Nat) (hp : pos < s.size) (ha : ¬ (s[pos]'hp).toNat < 128) : ∀ j, j < (Utf8.decode s pos).2 → pos + j < s.size ∧ 128 ≤ (s.get! (pos + j)).toNat := by
  have h0 : 128 ≤ (s.get! pos).toNat := by rw [get_bang s pos hp]; omega
  simp only [Utf8.decode, Nat.add_zero]
  have hn : ¬ (s.get! pos).toNat < 128 := by omega
  intro j
  rw [if_neg hn]
  repeat' split
  all_goals intro hj
  all_goals simp only [Bool.and_eq_true, decide_eq_true_eq, beq_iff_eq] at *
  all_goals (rcases (show j = 0 ∨ j = 1 ∨ j = 2 ∨ j = 3 by omega) with rfl | rfl | rfl | rfl)
  all_goals first
    | (exact ⟨by omega, by simpa using h0⟩)
    | (refine ⟨by omega, by omega⟩)
    | omega
theorem width_in (s : ByteArray) (pos : Nat) (hp : pos < s.size) : pos + (Utf8.decode s pos).2 ≤ s.size := by
  by_cases ha : (s[pos]'hp).toNat < 128
  · rw [decode_ascii s pos hp ha]; show pos + 1 ≤ _; omega
  · have h1 := width_pos s pos hp
    have := (high_bytes s pos hp ha ((Utf8.decode s pos).2 - 1) (by omega)).1
    omega
theorem rune_cases (s : ByteArray) (pos : Nat) (hp : pos < s.size) :
    ((Utf8.decode s pos).1 = 32 ∧ s[pos]'hp = 32 ∧ (Utf8.decode s pos).2 = 1) ∨ ((Utf8.decode s pos).1 ≠ 32 ∧ ∀ c ∈ (s.data.toList.drop pos).take (Utf8.decode s pos).2, c ≠ 32) := by
  by_cases ha : (s[pos]'hp).toNat < 128
  · rw [decode_ascii s pos hp ha]
    by_cases h : s[pos]'hp = 32
    · left
      exact ⟨by show (s[pos]'hp).toNat = 32; rw [h]; rfl, h, rfl⟩
    · right
      refine ⟨fun e => h (UInt8.toNat_inj.1 e), ?_⟩
      rw [drop_at s pos hp]
      intro c hc
      have : c = s[pos]'hp := by simpa using hc
      rw [this]; exact h
  · right
    refine ⟨fun e => by have := (decode_high s pos hp (by omega)).1; omega, ?_⟩
    intro c hc
    obtain ⟨j, hj, rfl⟩ := List.mem_iff_getElem.1 hc
    have hj' : j < (Utf8.decode s pos).2 := by rw [List.length_take] at hj; omega
    obtain ⟨h1, h2⟩ := high_bytes s pos hp ha j hj'
    rw [get_bang s _ h1] at h2
    rw [List.getElem_take, List.getElem_drop]
    intro e
    have : (s[pos + j]'h1).toNat = 32 := by
      rw [show s[pos + j]'h1 = s.data.toList[pos + j]'(by show pos + j < s.data.toList.length; exact h1) from rfl, e]; rfl
    omega

theorem cur_grow (l : List UInt8) (st pos k : Nat) (h : st ≤ pos) : (l.drop st).take (pos - st) ++ (l.drop pos).take k = (l.drop st).take (pos + k - st) := by
  rw [show pos + k - st = (pos - st) + k by omega, List.take_add, List.drop_drop, show st + (pos - st) = pos by omega]
theorem extract_list (s : ByteArray) (a b : Nat) : (s.extract a b).data.toList = (s.data.toList.drop a).take (b - a) := Lib.extract_data s a b

end Go.Proofs.YtbdimfcdpkldpaaDoor

namespace Go.Proofs.YtbdimfcdpkldpaaDoor
open Go.RowKit

/-- A slice of texts that reads as a list. -/
def ReadsS (w : World) (v : Value) (xs : List (List UInt8)) : Prop :=
  ∃ p c, v = .slice p xs.length c ∧ (xs = [] ∨ ∃ b off, p = some ⟨b, off, none⟩ ∧ b < w.heap.size ∧ ∀ j, j < xs.length → w.cell? ⟨b, off + j, none⟩ = some (sV (xs.getD j [])))
theorem ReadsS.below {w w' : World} {v : Value} {xs : List (List UInt8)} {B : Nat} (h : ReadsS w v xs) (hb : Below B w w') (hB : w.heap.size ≤ B) : ReadsS w' v xs := by
  obtain ⟨p, c, rfl, h | ⟨b, off, rfl, hlt, hc⟩⟩ := h
  · exact ⟨p, c, rfl, .inl h⟩
  · refine ⟨_, c, rfl, .inr ⟨b, off, rfl, Nat.lt_of_lt_of_le hlt hb.size, fun j hj => ?_⟩⟩
    rw [hb.cell (p := ⟨b, off + j, none⟩) (Nat.lt_of_lt_of_le hlt hB)]
    exact hc j hj
theorem ReadsS.of_own {w : World} {B : Nat} {v : Value} {xs : List (List UInt8)} (h : w.ownsRow B 9 1 v xs.length (xs.map sV)) : ReadsS w v xs := by
  obtain ⟨hl, ⟨rfl, h0⟩ | ⟨g, cap, cur, rfl, hb, hg, hn, hm, hs, ht⟩⟩ := h
  · have : xs = [] := List.length_eq_zero_iff.1 h0
    subst this
    exact ⟨none, 0, rfl, .inl rfl⟩
  · refine ⟨_, cap, rfl, .inr ⟨g, 0, rfl, (Array.getElem?_eq_some_iff.1 hg).1, fun j hj => ?_⟩⟩
    rw [cell_of_row w g _ cur 9 (0, 0) hg, Nat.zero_add]
    have h1 : (cur.toList.take (xs.length * 1))[j]? = (xs.map sV)[j]? := by rw [ht]
    rw [Nat.mul_one, List.getElem?_take_of_lt hj] at h1
    rw [Array.getElem?_toList] at h1
    rw [h1]
    simp [hj]

theorem take_word (xs : List (List UInt8)) (k : Nat) (h : k < xs.length) : xs.take (k + 1) = xs.take k ++ [xs.getD k []] := by
  rw [List.take_succ_eq_append_getElem h]; simp [h]
theorem mk_append3 (a b c : List UInt8) : ByteArray.mk a.toArray ++ ByteArray.mk b.toArray ++ ByteArray.mk c.toArray = ⟨(a ++ (b ++ c)).toArray⟩ := by
  rw [mk_append, mk_append, List.append_assoc]
end Go.Proofs.YtbdimfcdpkldpaaDoor
